/- Worth of plain numbers at a common power: order, sums, opposites. Nothing of the program. -/
import Derived.Test.YtimfpgpomafflaaGreatDoorDecSk
import Derived.Test.YtimfpgpomafflaaGreatDoorDecQs
namespace Go.Proofs.YtimfpgpomafflaaGreatDoor
open Go.RowKit LM

/-- a number's worth, counted in tens to the E -/
def sv (p : Pl) (E : Int) : Int := if p.neg = true then -(ual p E : Int) else (ual p E : Int)
theorem ual_scale {p : Pl} {E F : Int} (h1 : E ≤ F) (h2 : F ≤ p.e) : ual p E = ual p F * 10 ^ (F - E).toNat := by
  unfold ual
  rw [Nat.mul_assoc, ← Nat.pow_add]
  congr 2
  omega
theorem sv_scale {p : Pl} {E F : Int} (h1 : E ≤ F) (h2 : F ≤ p.e) : sv p E = sv p F * (10 ^ (F - E).toNat : Nat) := by
  unfold sv
  rw [ual_scale h1 h2]
  split
  · rw [Int.natCast_mul, Int.neg_mul]
  · rw [Int.natCast_mul]
theorem ual_pos {p : Pl} (E : Int) (h : 0 < p.m) : 0 < ual p E := Nat.mul_pos h (Nat.pow_pos (by omega))
theorem plain_pos {p : Pl} (hp : PlainP p) (h : p.neg = true) : 0 < p.m := by
  rcases hp with ⟨_, h1⟩ | h1
  · rw [h1] at h; cases h
  · omega
/-- the order of two numbers, by their worths at the lower power -/
theorem cmp_sv0 {p q : Pl} (hp : PlainP p) (hq : PlainP q) :
    (cmpP p q = -1 ∧ sv p (mn p q) < sv q (mn p q)) ∨ (cmpP p q = 0 ∧ sv p (mn p q) = sv q (mn p q)) ∨ (cmpP p q = 1 ∧ sv q (mn p q) < sv p (mn p q)) := by
  have k1 := fun h => ual_pos (mn p q) (plain_pos hp h)
  have k2 := fun h => ual_pos (mn p q) (plain_pos hq h)
  unfold cmpP sv cmpN
  generalize ual p (mn p q) = u at *
  generalize ual q (mn p q) = v at *
  rcases hpn : p.neg with _ | _ <;> rcases hqn : q.neg with _ | _
  · simp only [Bool.false_eq_true, false_and, if_false]
    rcases Nat.lt_trichotomy u v with h | h | h
    · exact .inl ⟨by rw [if_pos h], by omega⟩
    · subst h; exact .inr (.inl ⟨by simp, rfl⟩)
    · exact .inr (.inr ⟨by rw [if_neg (by omega), if_pos h], by omega⟩)
  · have := k2 hqn
    exact .inr (.inr ⟨by simp, by simp; omega⟩)
  · have := k1 hpn
    exact .inl ⟨by simp, by simp; omega⟩
  · simp only [Bool.true_eq_false, and_false, if_false, if_true]
    rcases Nat.lt_trichotomy u v with h | h | h
    · exact .inr (.inr ⟨by rw [if_neg (by omega), if_pos h], by omega⟩)
    · subst h; exact .inr (.inl ⟨by simp, rfl⟩)
    · exact .inl ⟨by rw [if_pos h], by omega⟩
theorem mul_lt_pos {a b : Int} {k : Nat} (hk : 0 < k) : a * (k : Int) < b * (k : Int) ↔ a < b := Int.mul_lt_mul_right (by omega)
theorem cmp_sv {p q : Pl} {E : Int} (hp : PlainP p) (hq : PlainP q) (h1 : E ≤ p.e) (h2 : E ≤ q.e) :
    (cmpP p q = -1 ∧ sv p E < sv q E) ∨ (cmpP p q = 0 ∧ sv p E = sv q E) ∨ (cmpP p q = 1 ∧ sv q E < sv p E) := by
  have hE : E ≤ mn p q := by unfold mn; omega
  have e1 := sv_scale hE (mn_le p q).1
  have e2 := sv_scale hE (mn_le p q).2
  have hk : 0 < 10 ^ (mn p q - E).toNat := Nat.pow_pos (by omega)
  rw [e1, e2]
  rcases cmp_sv0 hp hq with ⟨a, b⟩ | ⟨a, b⟩ | ⟨a, b⟩
  · exact .inl ⟨a, (mul_lt_pos hk).2 b⟩
  · exact .inr (.inl ⟨a, by rw [b]⟩)
  · exact .inr (.inr ⟨a, (mul_lt_pos hk).2 b⟩)
theorem sv_flip {p : Pl} (hp : PlainP p) (E : Int) : sv (flipP p) E = - sv p E := by
  unfold flipP
  by_cases h : 0 < p.m
  · rw [if_pos h]
    unfold sv ual
    cases p.neg <;> simp
  · rw [if_neg h]
    have hz : p = zP := zp_of hp (by omega)
    subst hz
    unfold sv ual zP; simp
theorem sv_zero {p : Pl} (h : p.m = 0) (E : Int) : sv p E = 0 := by
  unfold sv ual; rw [h]; simp
/-- the worth of what is made plain -/
theorem sv_pl {s : Bool} {v : Nat} {e E : Int} (h : E ≤ e) : sv (pl s v e) E = (if s = true then -(v : Int) else (v : Int)) * (10 ^ (e - E).toNat : Nat) := by
  rcases Nat.eq_zero_or_pos v with h0 | h0
  · subst h0
    have : pl s 0 e = zP := rfl
    rw [this, sv_zero rfl]; simp
  · have hpl : pl s v e = ⟨s, core v, e + tz v⟩ := by unfold pl; rw [if_neg (by omega)]
    obtain ⟨c1, c2⟩ := tz_spec v h0
    have hu : ual ⟨s, core v, e + tz v⟩ E = v * 10 ^ (e - E).toNat := by
      unfold ual
      simp only
      rw [show (e + (tz v : Int) - E).toNat = tz v + (e - E).toNat by omega, Nat.pow_add, ← Nat.mul_assoc, c2]
    rw [hpl]
    unfold sv
    rw [hu]
    simp only
    split
    · rw [Int.natCast_mul, Int.neg_mul]
    · rw [Int.natCast_mul]
theorem pl_ge {s : Bool} {v : Nat} {e : Int} : e ≤ (pl s v e).e ∨ (pl s v e).m = 0 := by
  rcases Nat.eq_zero_or_pos v with h0 | h0
  · subst h0; exact .inr rfl
  · left
    have hpl : pl s v e = ⟨s, core v, e + tz v⟩ := by unfold pl; rw [if_neg (by omega)]
    rw [hpl]; simp only; omega
/-- numbers of one worth are the same -/
theorem sv_inj {p q : Pl} {E : Int} (hp : PlainP p) (hq : PlainP q) (h1 : E ≤ p.e) (h2 : E ≤ q.e) (h : sv p E = sv q E) : p = q := by
  have e1 := pl_ual hp h1
  have e2 := pl_ual hq h2
  have k1 := fun h => ual_pos E (plain_pos hp h)
  have k2 := fun h => ual_pos E (plain_pos hq h)
  unfold sv at h
  have hu : ual p E = ual q E ∧ (p.neg = q.neg) := by
    rcases hpn : p.neg with _ | _ <;> rcases hqn : q.neg with _ | _ <;> simp only [hpn, hqn, Bool.false_eq_true, if_false, if_true] at h
    · exact ⟨by omega, rfl⟩
    · have := k2 hqn; omega
    · have := k1 hpn; omega
    · exact ⟨by omega, rfl⟩
  rw [← e1, ← e2, hu.1, hu.2]
theorem sv_add0 (p q : Pl) : ∃ (s : Bool) (v : Nat), addV p q = tellA s v (mn p q) ∧ (if s = true then -(v : Int) else (v : Int)) = sv p (mn p q) + sv q (mn p q) := by
  unfold addV sv
  generalize ual p (mn p q) = u
  generalize ual q (mn p q) = v
  rcases hpn : p.neg with _ | _ <;> rcases hqn : q.neg with _ | _
  · exact ⟨false, u + v, by simp, by simp⟩
  · by_cases h : u < v
    · exact ⟨true, v - u, by simp [h], by simp; omega⟩
    · exact ⟨false, u - v, by simp [h], by simp; omega⟩
  · by_cases h : u < v
    · exact ⟨false, v - u, by simp [h], by simp; omega⟩
    · exact ⟨true, u - v, by simp [h], by simp; omega⟩
  · exact ⟨true, u + v, by simp, by simp; omega⟩
/-- a sum's worth is the worths' sum -/
theorem sv_add {p q : Pl} {E : Int} (h1 : E ≤ p.e) (h2 : E ≤ q.e) (h : (addV p q).err = 0) : sv (addV p q).p E = sv p E + sv q E ∧ (E ≤ (addV p q).p.e ∨ (addV p q).p.m = 0) := by
  obtain ⟨s, v, hs, hv⟩ := sv_add0 p q
  have hE : E ≤ mn p q := by unfold mn; omega
  rw [hs] at h ⊢
  have hin : inR (pl s v (mn p q)) = true := by
    unfold tellA at h
    by_cases h3 : inR (pl s v (mn p q)) = true
    · exact h3
    · rw [if_neg h3] at h; cases h
  have hr : (tellA s v (mn p q)).p = pl s v (mn p q) := by unfold tellA; rw [if_pos hin]
  rw [hr, sv_pl hE, hv, sv_scale hE (mn_le p q).1, sv_scale hE (mn_le p q).2, Int.add_mul]
  refine ⟨rfl, ?_⟩
  rcases pl_ge (s := s) (v := v) (e := mn p q) with h4 | h4
  · left; omega
  · right; exact h4
/-- a product's worth is the worths' product, the powers added -/
theorem sv_mul {p q : Pl} {E F : Int} (h1 : E ≤ p.e) (h2 : F ≤ q.e) (h : (tellA (p.neg != q.neg) (p.m * q.m) (p.e + q.e)).err = 0) :
    sv (tellA (p.neg != q.neg) (p.m * q.m) (p.e + q.e)).p (E + F) = sv p E * sv q F ∧
    (E + F ≤ (tellA (p.neg != q.neg) (p.m * q.m) (p.e + q.e)).p.e ∨ (tellA (p.neg != q.neg) (p.m * q.m) (p.e + q.e)).p.m = 0) := by
  have hin : inR (pl (p.neg != q.neg) (p.m * q.m) (p.e + q.e)) = true := by
    unfold tellA at h
    by_cases h3 : inR (pl (p.neg != q.neg) (p.m * q.m) (p.e + q.e)) = true
    · exact h3
    · rw [if_neg h3] at h; cases h
  have hr : (tellA (p.neg != q.neg) (p.m * q.m) (p.e + q.e)).p = pl (p.neg != q.neg) (p.m * q.m) (p.e + q.e) := by unfold tellA; rw [if_pos hin]
  rw [hr]
  constructor
  · rw [sv_pl (by omega : E + F ≤ p.e + q.e)]
    have hk : (p.e + q.e - (E + F)).toNat = (p.e - E).toNat + (q.e - F).toNat := by omega
    rw [hk, Nat.pow_add]
    unfold sv ual
    generalize 10 ^ (p.e - E).toNat = a
    generalize 10 ^ (q.e - F).toNat = b
    generalize p.m = x
    generalize q.m = y
    have key : ((x * y : Nat) : Int) * ((a * b : Nat) : Int) = ((x * a : Nat) : Int) * ((y * b : Nat) : Int) := by
      rw [← Int.natCast_mul, ← Int.natCast_mul]
      congr 1
      exact Nat.mul_mul_mul_comm x y a b
    rcases p.neg with _ | _ <;> rcases q.neg with _ | _
    · simpa using key
    · simp only [Bool.false_eq_true, if_false, if_true, Bool.false_bne, Int.neg_mul, Int.mul_neg, key]
    · simp only [Bool.false_eq_true, if_false, if_true, Bool.bne_false, Int.neg_mul, Int.mul_neg, key]
    · simp only [bne_self_eq_false, Bool.false_eq_true, if_false, if_true, Int.neg_mul, Int.mul_neg, Int.neg_neg, key]
  · rcases pl_ge (s := p.neg != q.neg) (v := p.m * q.m) (e := p.e + q.e) with h4 | h4
    · left; omega
    · right; exact h4
end Go.Proofs.YtimfpgpomafflaaGreatDoor
