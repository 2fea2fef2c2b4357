/- Mathematics of Floor, Ceil, Trunc, Round of a number that is not whole. Nothing of the program. -/
import Derived.Test.YtimfpgpomafflaaGreatDoorQuotM
namespace Go.Proofs.YtimfpgpomafflaaGreatDoor
open Go.RowKit LM

/-- a box that was made in the midst of a region -/
def Qz (w : World) (b : Nat) : Prop := (w.cell? ⟨b, 0, none⟩ = some (.bool false) ∧ w.cell? ⟨b, 1, none⟩ = some (.slice none 0 0) ∧ w.cell? ⟨b, 2, none⟩ = some (.int .i64 0)) ∧ ∀ j, w.frozen? ⟨b, j, none⟩ = false
theorem Qz.new2 {w w' : World} {t : TypeId} (h : Below (w.alloc (.cells #[.bool false, .slice none 0 0, .int .i64 0] t)).heap.size (w.alloc (.cells #[.bool false, .slice none 0 0, .int .i64 0] t)) w') : Qz w' w.heap.size :=
  ⟨⟨cellB (by simp) h, cellB (by simp) h, cellB (by simp) h⟩, fun j => by rw [h.frozen (p := ⟨w.heap.size, j, none⟩) (by simp)]; simp⟩
theorem Qz.below {w w' : World} {b : Nat} (h : Qz w b) (hb : Below w.heap.size w w') : Qz w' b :=
  ⟨⟨cellB h.1.1 hb, cellB h.1.2.1 hb, cellB h.1.2.2 hb⟩, fun j => by rw [hb.frozen (p := ⟨b, j, none⟩) (show b < w.heap.size from lt_of_cell h.1.1)]; exact h.2 j⟩
theorem part_rest {p : Pl} (hp : PlainP p) (he : p.e < 0) : 0 < p.m ∧ p.m % 10 ^ plc p ≠ 0 := by
  have h10 : p.m % 10 ≠ 0 := by
    rcases hp with ⟨h0, h1⟩ | h
    · rw [h1] at he; exact absurd he (by decide)
    · exact h
  refine ⟨by omega, fun h => h10 ?_⟩
  obtain ⟨k, hk⟩ : ∃ k, plc p = k + 1 := ⟨plc p - 1, by unfold plc; omega⟩
  rw [hk, Nat.pow_succ, Nat.mul_comm] at h
  have h1 := Nat.div_add_mod p.m (10 * 10 ^ k)
  rw [h, Nat.add_zero, Nat.mul_assoc] at h1
  omega
theorem cut_part {way : Nat} {p : Pl} (he : p.e < 0) : cutP way p = pl p.neg (cutV way p) 0 := by unfold cutP; rw [if_neg (by omega)]
theorem cutV_0 (p : Pl) : cutV 0 p = p.m / 10 ^ plc p := rfl
theorem cutV_1 {p : Pl} (h : p.m % 10 ^ plc p ≠ 0) : cutV 1 p = if p.neg = true then p.m / 10 ^ plc p + 1 else p.m / 10 ^ plc p := by
  unfold cutV rnd away; simp [h]
theorem cutV_2 {p : Pl} (h : p.m % 10 ^ plc p ≠ 0) : cutV 2 p = if p.neg = true then p.m / 10 ^ plc p else p.m / 10 ^ plc p + 1 := by
  unfold cutV rnd away; cases p.neg <;> simp [h]
theorem cutV_3 (p : Pl) : cutV 3 p = p.m / 10 ^ plc p ∨ cutV 3 p = p.m / 10 ^ plc p + 1 := by
  unfold cutV rnd
  split
  · exact .inr rfl
  · exact .inl rfl
/-- Trunc and Round are Floor or Ceil -/
theorem cut_one {p : Pl} (hp : PlainP p) (he : p.e < 0) : (cutP 0 p = cutP 1 p ∨ cutP 0 p = cutP 2 p) ∧ (cutP 3 p = cutP 1 p ∨ cutP 3 p = cutP 2 p) := by
  have h := (part_rest hp he).2
  rw [cut_part he, cut_part he, cut_part he, cut_part he, cutV_0, cutV_1 h, cutV_2 h]
  cases p.neg with
  | true => exact ⟨.inr rfl, by rcases cutV_3 p with k | k <;> rw [k]; exact .inr rfl; exact .inl rfl⟩
  | false => exact ⟨.inl rfl, by rcases cutV_3 p with k | k <;> rw [k]; exact .inl rfl; exact .inr rfl⟩
theorem sv_part {p : Pl} (he : p.e < 0) : sv p p.e = if p.neg = true then -(p.m : Int) else (p.m : Int) := by
  unfold sv ual; rw [Int.sub_self]; simp
theorem sv_pl0 (s : Bool) (v : Nat) {p : Pl} (he : p.e < 0) : sv (pl s v 0) p.e = (if s = true then -(v : Int) else (v : Int)) * (10 ^ plc p : Nat) := by
  rw [sv_pl (by omega : p.e ≤ 0)]
  rw [show (0 - p.e).toNat = plc p by unfold plc; omega]
theorem pl_lo (s : Bool) (v : Nat) {p : Pl} (he : p.e < 0) : p.e ≤ (pl s v 0).e := by have := pl_e0 s v; omega
theorem cut_lt {p : Pl} (hp : PlainP p) (he : p.e < 0) : cmpP (cutP 1 p) p < 0 ∧ cmpP p (cutP 2 p) < 0 := by
  obtain ⟨hm, h⟩ := part_rest hp he
  rw [cut_part he, cut_part he, cutV_1 h, cutV_2 h]
  have hd := Nat.div_add_mod p.m (10 ^ plc p)
  have hr := Nat.mod_lt p.m (Nat.pow_pos (n := plc p) (show 0 < 10 by omega))
  have hs := sv_part he
  have c1 := fun v => cmp_sv (E := p.e) (pl_plain p.neg v 0) hp (pl_lo p.neg v he) (Int.le_refl _)
  have c2 := fun v => cmp_sv (E := p.e) hp (pl_plain p.neg v 0) (Int.le_refl _) (pl_lo p.neg v he)
  simp only [sv_pl0 p.neg _ he] at c1 c2
  rw [hs] at c1 c2
  have e1 : ∀ v : Nat, ((v : Int) + 1) * (10 ^ plc p : Nat) = (v : Int) * (10 ^ plc p : Nat) + (10 ^ plc p : Nat) := fun v => by rw [Int.add_mul, Int.one_mul]
  have e2 : ((p.m / 10 ^ plc p : Nat) : Int) * (10 ^ plc p : Nat) = ((10 ^ plc p * (p.m / 10 ^ plc p) : Nat) : Int) := by rw [Int.natCast_mul]; exact Int.mul_comm _ _
  generalize 10 ^ plc p * (p.m / 10 ^ plc p) = t at *
  cases hn : p.neg with
  | true =>
    rw [if_pos rfl, if_pos rfl]
    rw [hn] at c1 c2
    have k1 := c1 (p.m / 10 ^ plc p + 1)
    have k2 := c2 (p.m / 10 ^ plc p)
    simp only [if_true, Int.natCast_add, Int.natCast_one, Int.neg_mul, e1, e2] at k1 k2
    constructor
    · rcases k1 with ⟨a, _⟩ | ⟨_, b⟩ | ⟨_, b⟩ <;> omega
    · rcases k2 with ⟨a, _⟩ | ⟨_, b⟩ | ⟨_, b⟩ <;> omega
  | false =>
    rw [if_neg Bool.false_ne_true, if_neg Bool.false_ne_true]
    rw [hn] at c1 c2
    have k1 := c1 (p.m / 10 ^ plc p)
    have k2 := c2 (p.m / 10 ^ plc p + 1)
    simp only [Bool.false_eq_true, if_false, Int.natCast_add, Int.natCast_one, e1, e2] at k1 k2
    constructor
    · rcases k1 with ⟨a, _⟩ | ⟨_, b⟩ | ⟨_, b⟩ <;> omega
    · rcases k2 with ⟨a, _⟩ | ⟨_, b⟩ | ⟨_, b⟩ <;> omega
/-- Floor and one more is Ceil -/
theorem cut_next {p : Pl} (hp : PlainP p) (he : p.e < 0) {q : Pl} (hq : q = ⟨false, 1, 0⟩) (hk : (addV (cutP 1 p) q).err = 0) : (addV (cutP 1 p) q).p = cutP 2 p := by
  have h := (part_rest hp he).2
  have hqp : PlainP q := by rw [hq]; exact .inr (by decide)
  have hqe : 0 ≤ q.e := by rw [hq]; exact Int.le_refl _
  obtain ⟨hs, hde⟩ := sv_add' (E := 0) (cutP_plain hp) hqp (.inl (cutP_whole 1 p)) (.inl hqe) (Int.le_refl _) hk
  have hdp := addV_plain (cutP 1 p) q
  have hd0 := low_e hdp (Int.le_refl _) hde
  refine sv_inj hdp (cutP_plain hp) hd0 (cutP_whole 2 p) ?_
  rw [hs]
  have h1 : sv q 0 = 1 := by rw [hq]; decide
  rw [h1, cut_part he, cut_part he, cutV_1 h, cutV_2 h]
  generalize p.m / 10 ^ plc p = v
  rw [sv_pl (Int.le_refl 0), sv_pl (Int.le_refl 0)]
  cases p.neg <;> simp <;> omega
/-- the opposite's Floor is the opposite of Ceil -/
theorem cut_flip {p : Pl} (hp : PlainP p) (he : p.e < 0) : cutP 1 (flipP p) = flipP (cutP 2 p) := by
  obtain ⟨hm, h⟩ := part_rest hp he
  have hf : flipP p = ⟨!p.neg, p.m, p.e⟩ := by unfold flipP; rw [if_pos hm]
  have hpl : plc (flipP p) = plc p := by rw [hf]; rfl
  have he2 : (flipP p).e < 0 := by rw [hf]; exact he
  have h2 : (flipP p).m % 10 ^ plc (flipP p) ≠ 0 := by rw [hpl, hf]; exact h
  rw [cut_part he, cut_part he2, cutV_1 h2, cutV_2 h, hpl, hf, ← pl_flip]
  cases p.neg <;> rfl
end Go.Proofs.YtimfpgpomafflaaGreatDoor
