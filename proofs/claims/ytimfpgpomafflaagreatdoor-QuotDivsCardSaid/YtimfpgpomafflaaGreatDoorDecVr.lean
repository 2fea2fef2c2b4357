/- Sums and products of plain numbers: mathematics for DecRing. Nothing of the program. -/
import Derived.Test.YtimfpgpomafflaaGreatDoorDecVo
namespace Go.Proofs.YtimfpgpomafflaaGreatDoor
open Go.RowKit LM

theorem mn_turn (p q : Pl) : mn p q = mn q p := by unfold mn; omega
theorem addV_turn (p q : Pl) : addV p q = addV q p := by
  unfold addV
  rw [mn_turn q p]
  generalize ual p (mn p q) = u
  generalize ual q (mn p q) = v
  generalize mn p q = E
  rcases p.neg with _ | _ <;> rcases q.neg with _ | _
  · simp [Nat.add_comm]
  · simp only [Bool.false_eq_true, Bool.true_eq_false, if_false]
    rcases Nat.lt_trichotomy u v with h | h | h
    · rw [if_pos h, if_neg (by omega)]
    · subst h
      simp only [Nat.lt_irrefl, if_false, Nat.sub_self]; rfl
    · rw [if_neg (by omega), if_pos h]
  · simp only [Bool.false_eq_true, Bool.true_eq_false, if_false]
    rcases Nat.lt_trichotomy u v with h | h | h
    · rw [if_pos h, if_neg (by omega)]
    · subst h
      simp only [Nat.lt_irrefl, if_false, Nat.sub_self]; rfl
    · rw [if_neg (by omega), if_pos h]
  · simp [Nat.add_comm]
def mulV (p q : Pl) : Ans := tellA (p.neg != q.neg) (p.m * q.m) (p.e + q.e)
theorem mulV_turn (p q : Pl) : mulV p q = mulV q p := by
  unfold mulV
  rw [Nat.mul_comm q.m, Int.add_comm q.e]
  congr 1
  rcases p.neg with _ | _ <;> rcases q.neg with _ | _ <;> rfl
theorem mulV_plain (p q : Pl) : PlainP (mulV p q).p := tellA_plain _ _ _
/-- the opposite undoes a sum -/
theorem add_back {p q : Pl} (hp : PlainP p) (hq : PlainP q) (hf : PlainP (flipP q)) (h1 : (addV p q).err = 0) (h2 : (addV (addV p q).p (flipP q)).err = 0) : (addV (addV p q).p (flipP q)).p = p := by
  obtain ⟨e1, e2⟩ := mn_le p q
  have g0 : min (mn p q) 0 ≤ 0 := by omega
  have g1 : min (mn p q) 0 ≤ p.e := by omega
  have g2 : min (mn p q) 0 ≤ q.e := by omega
  generalize min (mn p q) 0 = E at *
  have P1 := addV_plain p q
  have P2 := addV_plain (addV p q).p (flipP q)
  have g3 : E ≤ (flipP q).e := low_e hf g0 (by rcases flip_e (p := q) with k | k; exact .inl (by omega); exact .inr k)
  obtain ⟨k1, k2⟩ := sv_add g1 g2 h1
  obtain ⟨k3, k4⟩ := sv_add (low_e P1 g0 k2) g3 h2
  refine sv_inj P2 hp (low_e P2 g0 k4) g1 ?_
  rw [k3, k1, sv_flip hq]; omega
/-- a product of a sum is the sum of the products -/
theorem mul_sum {p q r : Pl} (hp : PlainP p) (hq : PlainP q) (hr : PlainP r) (h1 : (addV p q).err = 0) (h2 : (mulV p r).err = 0) (h3 : (mulV q r).err = 0)
    (h4 : (mulV (addV p q).p r).err = 0) (h5 : (addV (mulV p r).p (mulV q r).p).err = 0) : (mulV (addV p q).p r).p = (addV (mulV p r).p (mulV q r).p).p := by
  obtain ⟨e1, e2⟩ := mn_le p q
  have g0 : min (mn p q) 0 ≤ 0 := by omega
  have g1 : min (mn p q) 0 ≤ p.e := by omega
  have g2 : min (mn p q) 0 ≤ q.e := by omega
  generalize min (mn p q) 0 = E at *
  have f0 : min r.e 0 ≤ 0 := by omega
  have f1 : min r.e 0 ≤ r.e := by omega
  generalize min r.e 0 = F at *
  have c0 : E + F ≤ 0 := by omega
  have P1 := addV_plain p q
  have P2 := mulV_plain p r
  have P3 := mulV_plain q r
  have P4 := mulV_plain (addV p q).p r
  have P5 := addV_plain (mulV p r).p (mulV q r).p
  obtain ⟨k1, k2⟩ := sv_add g1 g2 h1
  obtain ⟨k3, k4⟩ := sv_mul g1 f1 h2
  obtain ⟨k5, k6⟩ := sv_mul g2 f1 h3
  obtain ⟨k7, k8⟩ := sv_mul (low_e P1 g0 k2) f1 h4
  obtain ⟨k9, k10⟩ := sv_add (low_e P2 c0 k4) (low_e P3 c0 k6) h5
  refine sv_inj P4 P5 (low_e P4 c0 k8) (low_e P5 c0 k10) ?_
  rw [k9]
  unfold mulV
  rw [k3, k5, k7, k1, Int.add_mul]
theorem normA_err (n : Nat) (s : Bool) (v : Nat) (e : Int) : (normA n s v e).err = 0 ∨ (normA n s v e).err = 1 ∨ (normA n s v e).err = 3 := by
  unfold normA tellA
  split
  · split
    · exact .inl rfl
    · exact .inr (.inr rfl)
  · exact .inr (.inl rfl)
theorem pairE_turn {A B : Ans} (hA : A.err = 0 ∨ A.err = 1 ∨ A.err = 3) (hB : B.err = 0 ∨ B.err = 1 ∨ B.err = 3) : pairE A B = pairE B A := by
  unfold pairE
  rcases hA with h | h | h <;> rcases hB with k | k | k <;> simp [h, k]
theorem okP_turn (A B : Ans) : okP A B ↔ okP B A := by unfold okP; exact And.comm
theorem addA_turn {A B : Ans} (hA : A.err = 0 ∨ A.err = 1 ∨ A.err = 3) (hB : B.err = 0 ∨ B.err = 1 ∨ B.err = 3) : addA A B = addA B A := by
  unfold addA
  rw [addV_turn A.p B.p, pairE_turn hA hB]
  by_cases h : okP A B
  · rw [if_pos h, if_pos ((okP_turn A B).1 h)]
  · rw [if_neg h, if_neg (fun k => h ((okP_turn A B).2 k))]
theorem mulA_turn {A B : Ans} (hA : A.err = 0 ∨ A.err = 1 ∨ A.err = 3) (hB : B.err = 0 ∨ B.err = 1 ∨ B.err = 3) : mulA A B = mulA B A := by
  have h1 : ∀ A B, mulA A B = if okP A B then mulV A.p B.p else ⟨pairE A B, zP⟩ := fun _ _ => rfl
  rw [h1, h1, mulV_turn A.p B.p, pairE_turn hA hB]
  by_cases h : okP A B
  · rw [if_pos h, if_pos ((okP_turn A B).1 h)]
  · rw [if_neg h, if_neg (fun k => h ((okP_turn A B).2 k))]
end Go.Proofs.YtimfpgpomafflaaGreatDoor
