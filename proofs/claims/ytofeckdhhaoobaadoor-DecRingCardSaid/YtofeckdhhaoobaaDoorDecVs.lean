/- Worth of plain numbers at a common power: order, sums, opposites. Nothing of the program. -/
import Derived.Test.YtofeckdhhaoobaaDoorDecAds
import Derived.Test.YtofeckdhhaoobaaDoorDecNg
namespace Go.Proofs.YtofeckdhhaoobaaDoor
open Go.RowKit LM

/-- a number's worth, counted in tens to the E -/
def sv (p : Pl) (E : Int) : Int := if p.neg = true then -(ual p E : Int) else (ual p E : Int)
theorem ual_scale {p : Pl} {E F : Int} (h1 : E ≤ F) (h2 : F ≤ p.e) : ual p E = ual p F * 10 ^ (F - E).toNat := by
  unfold ual
  rw [Nat.mul_assoc, ← Nat.pow_add]
  congr 2
  omega
theorem sv_scale {p : Pl} {E F : Int} (h1 : E ≤ F) (h2 : F ≤ p.e) : sv p E = sv p F * (10 ^ (F - E).toNat : Nat) := by
  unfold sv
  rw [ual_scale h1 h2]
  split
  · rw [Int.natCast_mul, Int.neg_mul]
  · rw [Int.natCast_mul]
theorem ual_pos {p : Pl} (E : Int) (h : 0 < p.m) : 0 < ual p E := Nat.mul_pos h (Nat.pow_pos (by omega))
theorem plain_pos {p : Pl} (hp : PlainP p) (h : p.neg = true) : 0 < p.m := by
  rcases hp with ⟨_, h1⟩ | h1
  · rw [h1] at h; cases h
  · omega
/-- the order of two numbers, by their worths at the lower power -/
theorem cmp_sv0 {p q : Pl} (hp : PlainP p) (hq : PlainP q) :
    (cmpP p q = -1 ∧ sv p (mn p q) < sv q (mn p q)) ∨ (cmpP p q = 0 ∧ sv p (mn p q) = sv q (mn p q)) ∨ (cmpP p q = 1 ∧ sv q (mn p q) < sv p (mn p q)) := by
  have k1 := fun h => ual_pos (mn p q) (plain_pos hp h)
  have k2 := fun h => ual_pos (mn p q) (plain_pos hq h)
  unfold cmpP sv cmpN
  generalize ual p (mn p q) = u at *
  generalize ual q (mn p q) = v at *
  rcases hpn : p.neg with _ | _ <;> rcases hqn : q.neg with _ | _
  · simp only [Bool.false_eq_true, false_and, if_false]
    rcases Nat.lt_trichotomy u v with h | h | h
    · exact .inl ⟨by rw [if_pos h], by omega⟩
    · subst h; exact .inr (.inl ⟨by simp, rfl⟩)
    · exact .inr (.inr ⟨by rw [if_neg (by omega), if_pos h], by omega⟩)
  · have := k2 hqn
    exact .inr (.inr ⟨by simp, by simp; omega⟩)
  · have := k1 hpn
    exact .inl ⟨by simp, by simp; omega⟩
  · simp only [Bool.true_eq_false, and_false, if_false, if_true]
    rcases Nat.lt_trichotomy u v with h | h | h
    · exact .inr (.inr ⟨by rw [if_neg (by omega), if_pos h], by omega⟩)
    · subst h; exact .inr (.inl ⟨by simp, rfl⟩)
    · exact .inl ⟨by rw [if_pos h], by omega⟩
theorem mul_lt_pos {a b : Int} {k : Nat} (hk : 0 < k) : a * (k : Int) < b * (k : Int) ↔ a < b := Int.mul_lt_mul_right (by omega)
theorem cmp_sv {p q : Pl} {E : Int} (hp : PlainP p) (hq : PlainP q) (h1 : E ≤ p.e) (h2 : E ≤ q.e) :
    (cmpP p q = -1 ∧ sv p E < sv q E) ∨ (cmpP p q = 0 ∧ sv p E = sv q E) ∨ (cmpP p q = 1 ∧ sv q E < sv p E) := by
  have hE : E ≤ mn p q := by unfold mn; omega
  have e1 := sv_scale hE (mn_le p q).1
  have e2 := sv_scale hE (mn_le p q).2
  have hk : 0 < 10 ^ (mn p q - E).toNat := Nat.pow_pos (by omega)
  rw [e1, e2]
  rcases cmp_sv0 hp hq with ⟨a, b⟩ | ⟨a, b⟩ | ⟨a, b⟩
  · exact .inl ⟨a, (mul_lt_pos hk).2 b⟩
  · exact .inr (.inl ⟨a, by rw [b]⟩)
  · exact .inr (.inr ⟨a, (mul_lt_pos hk).2 b⟩)
theorem sv_flip {p : Pl} (hp : PlainP p) (E : Int) : sv (flipP p) E = - sv p E := by
  unfold flipP
  by_cases h : 0 < p.m
  · rw [if_pos h]
    unfold sv ual
    cases p.neg <;> simp
  · rw [if_neg h]
    have hz : p = zP := zp_of hp (by omega)
    subst hz
    unfold sv ual zP; simp
theorem sv_zero {p : Pl} (h : p.m = 0) (E : Int) : sv p E = 0 := by
  unfold sv ual; rw [h]; simp
/-- the worth of what is made plain -/
theorem sv_pl {s : Bool} {v : Nat} {e E : Int} (h : E ≤ e) : sv (pl s v e) E = (if s = true then -(v : Int) else (v : Int)) * (10 ^ (e - E).toNat : Nat) := by
  rcases Nat.eq_zero_or_pos v with h0 | h0
  · subst h0
    have : pl s 0 e = zP := rfl
    rw [this, sv_zero rfl]; simp
  · have hpl : pl s v e = ⟨s, core v, e + tz v⟩ := by unfold pl; rw [if_neg (by omega)]
    obtain ⟨c1, c2⟩ := tz_spec v h0
    have hu : ual ⟨s, core v, e + tz v⟩ E = v * 10 ^ (e - E).toNat := by
      unfold ual
      simp only
      rw [show (e + (tz v : Int) - E).toNat = tz v + (e - E).toNat by omega, Nat.pow_add, ← Nat.mul_assoc, c2]
    rw [hpl]
    unfold sv
    rw [hu]
    simp only
    split
    · rw [Int.natCast_mul, Int.neg_mul]
    · rw [Int.natCast_mul]
theorem pl_ge {s : Bool} {v : Nat} {e : Int} : e ≤ (pl s v e).e ∨ (pl s v e).m = 0 := by
  rcases Nat.eq_zero_or_pos v with h0 | h0
  · subst h0; exact .inr rfl
  · left
    have hpl : pl s v e = ⟨s, core v, e + tz v⟩ := by unfold pl; rw [if_neg (by omega)]
    rw [hpl]; simp only; omega
/-- numbers of one worth are the same -/
theorem sv_inj {p q : Pl} {E : Int} (hp : PlainP p) (hq : PlainP q) (h1 : E ≤ p.e) (h2 : E ≤ q.e) (h : sv p E = sv q E) : p = q := by
  have e1 := pl_ual hp h1
  have e2 := pl_ual hq h2
  have k1 := fun h => ual_pos E (plain_pos hp h)
  have k2 := fun h => ual_pos E (plain_pos hq h)
  unfold sv at h
  have hu : ual p E = ual q E ∧ (p.neg = q.neg) := by
    rcases hpn : p.neg with _ | _ <;> rcases hqn : q.neg with _ | _ <;> simp only [hpn, hqn, Bool.false_eq_true, if_false, if_true] at h
    · exact ⟨by omega, rfl⟩
    · have := k2 hqn; omega
    · have := k1 hpn; omega
    · exact ⟨by omega, rfl⟩
  rw [← e1, ← e2, hu.1, hu.2]
theorem sv_add0 (p q : Pl) : ∃ (s : Bool) (v : Nat), addV p q = tellA s v (mn p q) ∧ (if s = true then -(v : Int) else (v : Int)) = sv p (mn p q) + sv q (mn p q) := by
  unfold addV sv
  generalize ual p (mn p q) = u
  generalize ual q (mn p q) = v
  rcases hpn : p.neg with _ | _ <;> rcases hqn : q.neg with _ | _
  · exact ⟨false, u + v, by simp, by simp⟩
  · by_cases h : u < v
    · exact ⟨true, v - u, by simp [h], by simp; omega⟩
    · exact ⟨false, u - v, by simp [h], by simp; omega⟩
  · by_cases h : u < v
    · exact ⟨false, v - u, by simp [h], by simp; omega⟩
    · exact ⟨true, u - v, by simp [h], by simp; omega⟩
  · exact ⟨true, u + v, by simp, by simp; omega⟩
/-- a sum's worth is the worths' sum -/
theorem sv_add {p q : Pl} {E : Int} (h1 : E ≤ p.e) (h2 : E ≤ q.e) (h : (addV p q).err = 0) : sv (addV p q).p E = sv p E + sv q E ∧ (E ≤ (addV p q).p.e ∨ (addV p q).p.m = 0) := by
  obtain ⟨s, v, hs, hv⟩ := sv_add0 p q
  have hE : E ≤ mn p q := by unfold mn; omega
  rw [hs] at h ⊢
  have hin : inR (pl s v (mn p q)) = true := by
    unfold tellA at h
    by_cases h3 : inR (pl s v (mn p q)) = true
    · exact h3
    · rw [if_neg h3] at h; cases h
  have hr : (tellA s v (mn p q)).p = pl s v (mn p q) := by unfold tellA; rw [if_pos hin]
  rw [hr, sv_pl hE, hv, sv_scale hE (mn_le p q).1, sv_scale hE (mn_le p q).2, Int.add_mul]
  refine ⟨rfl, ?_⟩
  rcases pl_ge (s := s) (v := v) (e := mn p q) with h4 | h4
  · left; omega
  · right; exact h4
/-- a product's worth is the worths' product, the powers added -/
theorem sv_mul {p q : Pl} {E F : Int} (h1 : E ≤ p.e) (h2 : F ≤ q.e) (h : (tellA (p.neg != q.neg) (p.m * q.m) (p.e + q.e)).err = 0) :
    sv (tellA (p.neg != q.neg) (p.m * q.m) (p.e + q.e)).p (E + F) = sv p E * sv q F ∧
    (E + F ≤ (tellA (p.neg != q.neg) (p.m * q.m) (p.e + q.e)).p.e ∨ (tellA (p.neg != q.neg) (p.m * q.m) (p.e + q.e)).p.m = 0) := by
  have hin : inR (pl (p.neg != q.neg) (p.m * q.m) (p.e + q.e)) = true := by
    unfold tellA at h
    by_cases h3 : inR (pl (p.neg != q.neg) (p.m * q.m) (p.e + q.e)) = true
    · exact h3
    · rw [if_neg h3] at h; cases h
  have hr : (tellA (p.neg != q.neg) (p.m * q.m) (p.e + q.e)).p = pl (p.neg != q.neg) (p.m * q.m) (p.e + q.e) := by unfold tellA; rw [if_pos hin]
  rw [hr]
  constructor
  · rw [sv_pl (by omega : E + F ≤ p.e + q.e)]
    have hk : (p.e + q.e - (E + F)).toNat = (p.e - E).toNat + (q.e - F).toNat := by omega
    rw [hk, Nat.pow_add]
    unfold sv ual
    generalize 10 ^ (p.e - E).toNat = a
    generalize 10 ^ (q.e - F).toNat = b
    generalize p.m = x
    generalize q.m = y
    have key : ((x * y : Nat) : Int) * ((a * b : Nat) : Int) = ((x * a : Nat) : Int) * ((y * b : Nat) : Int) := by
      rw [← Int.natCast_mul, ← Int.natCast_mul]
      congr 1
      exact Nat.mul_mul_mul_comm x y a b
    rcases p.neg with _ | _ <;> rcases q.neg with _ | _
    · simpa using key
    · simp only [Bool.false_eq_true, if_false, if_true, Bool.false_bne, Int.neg_mul, Int.mul_neg, key]
    · simp only [Bool.false_eq_true, if_false, if_true, Bool.bne_false, Int.neg_mul, Int.mul_neg, key]
    · simp only [bne_self_eq_false, Bool.false_eq_true, if_false, if_true, Int.neg_mul, Int.mul_neg, Int.neg_neg, key]
  · rcases pl_ge (s := p.neg != q.neg) (v := p.m * q.m) (e := p.e + q.e) with h4 | h4
    · left; omega
    · right; exact h4
end Go.Proofs.YtofeckdhhaoobaaDoor

/- The order of plain numbers: mathematics for DecOrder. Nothing of the program. -/
namespace Go.Proofs.YtofeckdhhaoobaaDoor
open Go.RowKit LM

theorem cmp_turn {p q : Pl} (hp : PlainP p) (hq : PlainP q) : cmpP q p = - cmpP p q := by
  rcases cmp_sv hp hq (mn_le p q).1 (mn_le p q).2 with ⟨a, b⟩ | ⟨a, b⟩ | ⟨a, b⟩ <;>
  rcases cmp_sv hq hp (mn_le p q).2 (mn_le p q).1 with ⟨c, d⟩ | ⟨c, d⟩ | ⟨c, d⟩ <;> omega
theorem cmp_zero {p q : Pl} (hp : PlainP p) (hq : PlainP q) : cmpP p q = 0 ↔ p = q := by
  constructor
  · intro h
    rcases cmp_sv hp hq (mn_le p q).1 (mn_le p q).2 with ⟨a, b⟩ | ⟨a, b⟩ | ⟨a, b⟩
    · omega
    · exact sv_inj hp hq (mn_le p q).1 (mn_le p q).2 b
    · omega
  · intro h
    subst h
    rcases cmp_sv hp hp (E := p.e) (by omega) (by omega) with ⟨a, b⟩ | ⟨a, b⟩ | ⟨a, b⟩ <;> omega
/-- a power below three numbers' -/
def mn3 (p q r : Pl) : Int := min (mn p q) r.e
theorem mn3_le (p q r : Pl) : mn3 p q r ≤ p.e ∧ mn3 p q r ≤ q.e ∧ mn3 p q r ≤ r.e := by
  have := mn_le p q
  unfold mn3; omega
theorem cmp_trans {p q r : Pl} (hp : PlainP p) (hq : PlainP q) (hr : PlainP r) (h1 : cmpP p q ≤ 0) (h2 : cmpP q r ≤ 0) : cmpP p r ≤ 0 := by
  obtain ⟨e1, e2, e3⟩ := mn3_le p q r
  rcases cmp_sv hp hq e1 e2 with ⟨a, b⟩ | ⟨a, b⟩ | ⟨a, b⟩ <;>
  rcases cmp_sv hq hr e2 e3 with ⟨c, d⟩ | ⟨c, d⟩ | ⟨c, d⟩ <;>
  rcases cmp_sv hp hr e1 e3 with ⟨f, g⟩ | ⟨f, g⟩ | ⟨f, g⟩ <;> omega
theorem addV_plain (p q : Pl) : PlainP (addV p q).p := by
  obtain ⟨s, v, h, _⟩ := sv_add0 p q
  rw [h]; exact tellA_plain _ _ _
/-- a number whose worth is nothing, or a sign -/
theorem sv_sign {p : Pl} (hp : PlainP p) (E : Int) : (p.neg = true ∧ sv p E < 0 ∧ 0 < p.m) ∨ (p.neg = false ∧ p.m = 0 ∧ sv p E = 0) ∨ (p.neg = false ∧ 0 < p.m ∧ 0 < sv p E) := by
  rcases hn : p.neg with _ | _
  · rcases Nat.eq_zero_or_pos p.m with h | h
    · exact .inr (.inl ⟨rfl, h, sv_zero h E⟩)
    · have h1 := ual_pos E h
      refine .inr (.inr ⟨rfl, h, ?_⟩)
      unfold sv; rw [hn]; simp only [Bool.false_eq_true, if_false]; omega
  · have h := plain_pos hp hn
    have h1 := ual_pos E h
    refine .inl ⟨rfl, ?_, h⟩
    unfold sv; rw [hn]; simp only [if_true]; omega
theorem flip_e {p : Pl} : (flipP p).e = p.e ∨ (flipP p).m = 0 := by
  unfold flipP
  by_cases h : 0 < p.m
  · rw [if_pos h]; exact .inl rfl
  · rw [if_neg h]; exact .inr (by omega)
theorem sv_add' {p q : Pl} {E : Int} (hp : PlainP p) (hq : PlainP q) (h1 : E ≤ p.e ∨ p.m = 0) (h2 : E ≤ q.e ∨ q.m = 0) (hE : E ≤ 0) (h : (addV p q).err = 0) : sv (addV p q).p E = sv p E + sv q E ∧ (E ≤ (addV p q).p.e ∨ (addV p q).p.m = 0) := by
  refine sv_add ?_ ?_ h
  · rcases h1 with h1 | h1
    · exact h1
    · rw [zp_of hp h1]; exact hE
  · rcases h2 with h2 | h2
    · exact h2
    · rw [zp_of hq h2]; exact hE
theorem low_e {p : Pl} {E : Int} (hp : PlainP p) (hE : E ≤ 0) (h : E ≤ p.e ∨ p.m = 0) : E ≤ p.e := by
  rcases h with h | h
  · exact h
  · rw [zp_of hp h]; exact hE
/-- the difference's sign is the order -/
theorem cmp_diff {p q : Pl} (hp : PlainP p) (hq : PlainP q) (hf : PlainP (flipP q)) (h : (addV p (flipP q)).err = 0) :
    (cmpP p q < 0 ↔ (addV p (flipP q)).p.neg = true) ∧ (cmpP p q = 0 ↔ (addV p (flipP q)).p.m = 0) := by
  obtain ⟨e1, e2⟩ := mn_le p q
  have g0 : min (mn p q) 0 ≤ 0 := by omega
  have g1 : min (mn p q) 0 ≤ p.e := by omega
  have g2 : min (mn p q) 0 ≤ q.e := by omega
  generalize min (mn p q) 0 = E at *
  have g3 : E ≤ (flipP q).e := low_e hf g0 (by rcases flip_e (p := q) with k | k; exact .inl (by omega); exact .inr k)
  obtain ⟨k1, k2⟩ := sv_add g1 g3 h
  rw [sv_flip hq] at k1
  rcases cmp_sv hp hq g1 g2 with ⟨a, b⟩ | ⟨a, b⟩ | ⟨a, b⟩ <;>
  rcases sv_sign (addV_plain p (flipP q)) E with ⟨c, d, f⟩ | ⟨c, d, f⟩ | ⟨c, d, f⟩ <;>
  simp only [c, Bool.false_eq_true, iff_false, iff_true] <;> omega
/-- a sum keeps the order -/
theorem cmp_sum {p q r : Pl} (hp : PlainP p) (hq : PlainP q) (h1 : (addV p r).err = 0) (h2 : (addV q r).err = 0) : cmpP (addV p r).p (addV q r).p = cmpP p q := by
  obtain ⟨e1, e2, e3⟩ := mn3_le p q r
  have g0 : min (mn3 p q r) 0 ≤ 0 := by omega
  have g1 : min (mn3 p q r) 0 ≤ p.e := by omega
  have g2 : min (mn3 p q r) 0 ≤ q.e := by omega
  have g3 : min (mn3 p q r) 0 ≤ r.e := by omega
  generalize min (mn3 p q r) 0 = E at *
  obtain ⟨k1, k2⟩ := sv_add g1 g3 h1
  obtain ⟨k3, k4⟩ := sv_add g2 g3 h2
  have P1 := addV_plain p r
  have P2 := addV_plain q r
  rcases cmp_sv hp hq g1 g2 with ⟨a, b⟩ | ⟨a, b⟩ | ⟨a, b⟩ <;>
  rcases cmp_sv P1 P2 (low_e P1 g0 k2) (low_e P2 g0 k4) with ⟨c, d⟩ | ⟨c, d⟩ | ⟨c, d⟩ <;> omega
end Go.Proofs.YtofeckdhhaoobaaDoor

/- Sums and products of plain numbers: mathematics for DecRing. Nothing of the program. -/
namespace Go.Proofs.YtofeckdhhaoobaaDoor
open Go.RowKit LM

theorem mn_turn (p q : Pl) : mn p q = mn q p := by unfold mn; omega
theorem addV_turn (p q : Pl) : addV p q = addV q p := by
  unfold addV
  rw [mn_turn q p]
  generalize ual p (mn p q) = u
  generalize ual q (mn p q) = v
  generalize mn p q = E
  rcases p.neg with _ | _ <;> rcases q.neg with _ | _
  · simp [Nat.add_comm]
  · simp only [Bool.false_eq_true, Bool.true_eq_false, if_false]
    rcases Nat.lt_trichotomy u v with h | h | h
    · rw [if_pos h, if_neg (by omega)]
    · subst h
      simp only [Nat.lt_irrefl, if_false, Nat.sub_self]; rfl
    · rw [if_neg (by omega), if_pos h]
  · simp only [Bool.false_eq_true, Bool.true_eq_false, if_false]
    rcases Nat.lt_trichotomy u v with h | h | h
    · rw [if_pos h, if_neg (by omega)]
    · subst h
      simp only [Nat.lt_irrefl, if_false, Nat.sub_self]; rfl
    · rw [if_neg (by omega), if_pos h]
  · simp [Nat.add_comm]
def mulV (p q : Pl) : Ans := tellA (p.neg != q.neg) (p.m * q.m) (p.e + q.e)
theorem mulV_turn (p q : Pl) : mulV p q = mulV q p := by
  unfold mulV
  rw [Nat.mul_comm q.m, Int.add_comm q.e]
  congr 1
  rcases p.neg with _ | _ <;> rcases q.neg with _ | _ <;> rfl
theorem mulV_plain (p q : Pl) : PlainP (mulV p q).p := tellA_plain _ _ _
/-- the opposite undoes a sum -/
theorem add_back {p q : Pl} (hp : PlainP p) (hq : PlainP q) (hf : PlainP (flipP q)) (h1 : (addV p q).err = 0) (h2 : (addV (addV p q).p (flipP q)).err = 0) : (addV (addV p q).p (flipP q)).p = p := by
  obtain ⟨e1, e2⟩ := mn_le p q
  have g0 : min (mn p q) 0 ≤ 0 := by omega
  have g1 : min (mn p q) 0 ≤ p.e := by omega
  have g2 : min (mn p q) 0 ≤ q.e := by omega
  generalize min (mn p q) 0 = E at *
  have P1 := addV_plain p q
  have P2 := addV_plain (addV p q).p (flipP q)
  have g3 : E ≤ (flipP q).e := low_e hf g0 (by rcases flip_e (p := q) with k | k; exact .inl (by omega); exact .inr k)
  obtain ⟨k1, k2⟩ := sv_add g1 g2 h1
  obtain ⟨k3, k4⟩ := sv_add (low_e P1 g0 k2) g3 h2
  refine sv_inj P2 hp (low_e P2 g0 k4) g1 ?_
  rw [k3, k1, sv_flip hq]; omega
/-- a product of a sum is the sum of the products -/
theorem mul_sum {p q r : Pl} (hp : PlainP p) (hq : PlainP q) (hr : PlainP r) (h1 : (addV p q).err = 0) (h2 : (mulV p r).err = 0) (h3 : (mulV q r).err = 0)
    (h4 : (mulV (addV p q).p r).err = 0) (h5 : (addV (mulV p r).p (mulV q r).p).err = 0) : (mulV (addV p q).p r).p = (addV (mulV p r).p (mulV q r).p).p := by
  obtain ⟨e1, e2⟩ := mn_le p q
  have g0 : min (mn p q) 0 ≤ 0 := by omega
  have g1 : min (mn p q) 0 ≤ p.e := by omega
  have g2 : min (mn p q) 0 ≤ q.e := by omega
  generalize min (mn p q) 0 = E at *
  have f0 : min r.e 0 ≤ 0 := by omega
  have f1 : min r.e 0 ≤ r.e := by omega
  generalize min r.e 0 = F at *
  have c0 : E + F ≤ 0 := by omega
  have P1 := addV_plain p q
  have P2 := mulV_plain p r
  have P3 := mulV_plain q r
  have P4 := mulV_plain (addV p q).p r
  have P5 := addV_plain (mulV p r).p (mulV q r).p
  obtain ⟨k1, k2⟩ := sv_add g1 g2 h1
  obtain ⟨k3, k4⟩ := sv_mul g1 f1 h2
  obtain ⟨k5, k6⟩ := sv_mul g2 f1 h3
  obtain ⟨k7, k8⟩ := sv_mul (low_e P1 g0 k2) f1 h4
  obtain ⟨k9, k10⟩ := sv_add (low_e P2 c0 k4) (low_e P3 c0 k6) h5
  refine sv_inj P4 P5 (low_e P4 c0 k8) (low_e P5 c0 k10) ?_
  rw [k9]
  unfold mulV
  rw [k3, k5, k7, k1, Int.add_mul]
theorem normA_err (n : Nat) (s : Bool) (v : Nat) (e : Int) : (normA n s v e).err = 0 ∨ (normA n s v e).err = 1 ∨ (normA n s v e).err = 3 := by
  unfold normA tellA
  split
  · split
    · exact .inl rfl
    · exact .inr (.inr rfl)
  · exact .inr (.inl rfl)
theorem pairE_turn {A B : Ans} (hA : A.err = 0 ∨ A.err = 1 ∨ A.err = 3) (hB : B.err = 0 ∨ B.err = 1 ∨ B.err = 3) : pairE A B = pairE B A := by
  unfold pairE
  rcases hA with h | h | h <;> rcases hB with k | k | k <;> simp [h, k]
theorem okP_turn (A B : Ans) : okP A B ↔ okP B A := by unfold okP; exact And.comm
theorem addA_turn {A B : Ans} (hA : A.err = 0 ∨ A.err = 1 ∨ A.err = 3) (hB : B.err = 0 ∨ B.err = 1 ∨ B.err = 3) : addA A B = addA B A := by
  unfold addA
  rw [addV_turn A.p B.p, pairE_turn hA hB]
  by_cases h : okP A B
  · rw [if_pos h, if_pos ((okP_turn A B).1 h)]
  · rw [if_neg h, if_neg (fun k => h ((okP_turn A B).2 k))]
theorem mulA_turn {A B : Ans} (hA : A.err = 0 ∨ A.err = 1 ∨ A.err = 3) (hB : B.err = 0 ∨ B.err = 1 ∨ B.err = 3) : mulA A B = mulA B A := by
  have h1 : ∀ A B, mulA A B = if okP A B then mulV A.p B.p else ⟨pairE A B, zP⟩ := fun _ _ => rfl
  rw [h1, h1, mulV_turn A.p B.p, pairE_turn hA hB]
  by_cases h : okP A B
  · rw [if_pos h, if_pos ((okP_turn A B).1 h)]
  · rw [if_neg h, if_neg (fun k => h ((okP_turn A B).2 k))]
end Go.Proofs.YtofeckdhhaoobaaDoor
