/- The mathematics that the laws of quot want of dec (as XDecBx). -/
import Derived.Test.YtimfpgpomafflaaGreatDoorQuotL
import Derived.Test.YtimfpgpomafflaaGreatDoorDecEs
import Derived.Test.YtimfpgpomafflaaGreatDoorDecPl
namespace Go.Proofs.YtimfpgpomafflaaGreatDoor
open Go.RowKit LM

def Bx (w : World) (b : Nat) (s : Bool) (a : Option Addr) (n c : Nat) (e : Int) : Prop := w.cell? ⟨b, 0, none⟩ = some (.bool s) ∧ w.cell? ⟨b, 1, none⟩ = some (.slice a n c) ∧ w.cell? ⟨b, 2, none⟩ = some (.int .i64 e)
theorem Bx.below {w w' : World} {b : Nat} {s : Bool} {a : Option Addr} {n c : Nat} {e : Int} (h : Hid (Bx w b s a n c e)) (hb : Below w.heap.size w w') : Hid (Bx w' b s a n c e) := by
  obtain ⟨h0, h1, h2⟩ := h.out
  exact Lib.hid ⟨cellB h0 hb, cellB h1 hb, cellB h2 hb⟩
theorem Bx.new (w : World) (s : Bool) (a : Option Addr) (n c : Nat) (e : Int) (t : TypeId) : Hid (Bx (w.alloc (.cells #[.bool s, .slice a n c, .int .i64 e] t)) w.heap.size s a n c e) :=
  Lib.hid ⟨by simp, by simp, by simp⟩
theorem addA_in' (A B : Ans) : inR (addA A B).p = true := by
  unfold addA
  split
  · unfold addV
    split
    · exact tellA_in _ _ _
    · split <;> exact tellA_in _ _ _
  · exact zP_in
theorem mulA_in' (A B : Ans) : inR (mulA A B).p = true := by
  unfold mulA
  split
  · exact tellA_in _ _ _
  · exact zP_in
theorem zP_plain : PlainP zP := .inl ⟨rfl, rfl⟩
theorem addA_plain (A B : Ans) : PlainP (addA A B).p := by
  unfold addA
  split
  · exact addV_plain _ _
  · exact zP_plain
theorem mulA_plain (A B : Ans) : PlainP (mulA A B).p := by
  have h1 : ∀ A B, mulA A B = if okP A B then mulV A.p B.p else ⟨pairE A B, zP⟩ := fun _ _ => rfl
  rw [h1]
  split
  · exact mulV_plain _ _
  · exact zP_plain
theorem tellA_err (s : Bool) (v : Nat) (e : Int) : (tellA s v e).err ≤ 3 := by
  unfold tellA
  split <;> simp
theorem pairE_err {A B : Ans} (hA : A.err ≤ 3) (hB : B.err ≤ 3) : pairE A B ≤ 3 := by
  unfold pairE
  split
  · omega
  · split <;> omega
theorem addV_err (p q : Pl) : (addV p q).err ≤ 3 := by
  unfold addV
  split
  · exact tellA_err _ _ _
  · split <;> exact tellA_err _ _ _
theorem addA_err {A B : Ans} (hA : A.err ≤ 3) (hB : B.err ≤ 3) : (addA A B).err ≤ 3 := by
  unfold addA
  split
  · exact addV_err _ _
  · exact pairE_err hA hB
theorem mulA_err {A B : Ans} (hA : A.err ≤ 3) (hB : B.err ≤ 3) : (mulA A B).err ≤ 3 := by
  unfold mulA
  split
  · exact tellA_err _ _ _
  · exact pairE_err hA hB
theorem addA_ok {A B : Ans} (h : (addA A B).err = 0) : A.err = 0 ∧ B.err = 0 ∧ addA A B = addV A.p B.p := by
  by_cases k : okP A B
  · exact ⟨k.1, k.2, by unfold addA; rw [if_pos k]⟩
  · have h1 : addA A B = ⟨pairE A B, zP⟩ := by unfold addA; rw [if_neg k]
    rw [h1] at h
    exact absurd h (pairE_bad k)
theorem mulA_ok {A B : Ans} (h : (mulA A B).err = 0) : A.err = 0 ∧ B.err = 0 ∧ mulA A B = mulV A.p B.p := by
  by_cases k : okP A B
  · exact ⟨k.1, k.2, by unfold mulA; rw [if_pos k]; rfl⟩
  · have h1 : mulA A B = ⟨pairE A B, zP⟩ := by unfold mulA; rw [if_neg k]
    rw [h1] at h
    exact absurd h (pairE_bad k)
instance (p q : Pl) : Decidable (p = q) := decidable_of_iff (p.neg = q.neg ∧ p.m = q.m ∧ p.e = q.e) (by cases p; cases q; simp)
theorem sameB_pl {p q : Pl} : sameB p.neg q.neg p.e q.e (dg 1000000000 p.m) (dg 1000000000 q.m) = decide (p = q) := by
  rw [Bool.eq_iff_iff]
  unfold sameB
  rw [Bool.and_eq_true, Bool.and_eq_true, beq_iff_eq, decide_eq_true_iff, decide_eq_true_iff, decide_eq_true_iff]
  constructor
  · rintro ⟨h1, h2, h3⟩
    have h4 : p.m = q.m := by rw [← vl_dg (b := 1000000000) (by omega) p.m, h3, vl_dg (by omega)]
    rcases p with ⟨a, b, c⟩; rcases q with ⟨d, e, f⟩
    simp only at h1 h2 h4
    rw [h1, h2, h4]
  · rintro rfl
    exact ⟨rfl, rfl, rfl⟩
theorem sameB_self7 (p : Pl) : sameB p.neg p.neg p.e p.e (dg 1000000000 p.m) (dg 1000000000 p.m) = true := by simp [sameB]
/-- what a comparison answers, as a number -/
def cmU (A B : Ans) : Int := if okP A B then cmpP A.p B.p else 0
theorem ResCm.num {A B : Ans} {w w' : World} {r : Ending} (h : ResCm A B w r w') : r = .returned (.tuple #[.int .i64 (cmU A B), .int .i64 (pairE A B : Nat)]) ∧ Below w.heap.size w w' := by
  obtain ⟨hb, ⟨h1, h2, hr⟩ | ⟨hn, hr⟩⟩ := h
  · refine ⟨?_, hb⟩
    unfold cmU
    rw [if_pos (show okP A B from ⟨h1, h2⟩), pairE_ok h1 h2, hr]; rfl
  · refine ⟨?_, hb⟩
    unfold cmU
    rw [if_neg (show ¬ okP A B from hn), hr]
theorem flip_plain {p : Pl} (h : PlainP p) : PlainP (flipP p) := by
  unfold flipP
  split
  · rename_i h0
    rcases h with ⟨h1, _⟩ | h1
    · omega
    · exact .inr h1
  · exact h
theorem normA_flip_p (n : Nat) (s : Bool) (v : Nat) (e : Int) : (normA n (!s) v e).p = flipP (normA n s v e).p := by
  rw [normA_flip]
  by_cases h : (normA n s v e).err = 0
  · rw [if_pos h]
  · rw [if_neg h]
    have hz : (normA n s v e).p = zP := by
      unfold normA tellA at h ⊢
      repeat' split at h
      all_goals first | (simp at h; done) | skip
      all_goals simp_all
    rw [hz]; rfl
theorem normA_err3 (n : Nat) (s : Bool) (v : Nat) (e : Int) : (normA n s v e).err ≤ 3 := by
  rcases normA_err n s v e with h | h | h <;> omega
/-- what DecOrder's last tests want -/
theorem order_last {A B C : Ans} (hA : A.err = 0) (hB : B.err = 0) (pA : PlainP A.p) (pB : PlainP B.p) (pC : PlainP C.p) :
    (pairE B C = 0 → cmpP A.p B.p ≤ 0 → cmU B C ≤ 0 → cmU A C ≤ 0) ∧ ((addA A C).err = 0 → (addA B C).err = 0 → cmpP (addA A C).p (addA B C).p = cmpP A.p B.p) := by
  constructor
  · intro h1 h2 h3
    have hC : C.err = 0 := by
      refine Classical.byContradiction fun hn => ?_
      exact pairE_bad (A := B) (B := C) (fun k => hn k.2) h1
    unfold cmU at h3 ⊢
    rw [if_pos (show okP B C from ⟨hB, hC⟩)] at h3
    rw [if_pos (show okP A C from ⟨hA, hC⟩)]
    exact cmp_trans pA pB pC h2 h3
  · intro h1 h2
    obtain ⟨_, _, e1⟩ := addA_ok h1
    obtain ⟨_, _, e2⟩ := addA_ok h2
    rw [e1] at h1 ⊢
    rw [e2] at h2 ⊢
    exact cmp_sum pA pB h1 h2
theorem order_diff {A B : Ans} (hA : A.err = 0) (pA : PlainP A.p) (pB : PlainP B.p) (h : (addA A ⟨0, flipP B.p⟩).err = 0) :
    (cmpP A.p B.p < 0 ↔ (addA A ⟨0, flipP B.p⟩).p.neg = true) ∧ (cmpP A.p B.p = 0 ↔ (addA A ⟨0, flipP B.p⟩).p.m = 0) := by
  rw [addA_pp, if_pos hA] at h ⊢
  exact cmp_diff pA pB (flip_plain pB) h
/-- what DecRing's tests want -/
theorem ring_facts {A B C : Ans} (pA : PlainP A.p) (pB : PlainP B.p) (pC : PlainP C.p) :
    ((addA A B).err = 0 → (addV (addA A B).p (flipP B.p)).err = 0 → (addV (addA A B).p (flipP B.p)).p = A.p) ∧
    ((addA A B).err = 0 → (mulA A C).err = 0 → (mulA B C).err = 0 → (mulA ⟨0, (addA A B).p⟩ C).err = 0 → (addV (mulA A C).p (mulA B C).p).err = 0 → (mulA ⟨0, (addA A B).p⟩ C).p = (addV (mulA A C).p (mulA B C).p).p) := by
  constructor
  · intro h1 h2
    obtain ⟨_, _, e⟩ := addA_ok h1
    rw [e] at h1 h2 ⊢
    exact add_back pA pB (flip_plain pB) h1 h2
  · intro h1 h2 h3 h4 h5
    obtain ⟨_, _, e1⟩ := addA_ok h1
    obtain ⟨_, _, e2⟩ := mulA_ok h2
    obtain ⟨_, _, e3⟩ := mulA_ok h3
    obtain ⟨_, _, e4⟩ := mulA_ok h4
    rw [e4] at h4 ⊢
    rw [e2] at h2 h5 ⊢
    rw [e3] at h3 h5 ⊢
    rw [e1] at h1
    simp only at h4 ⊢
    rw [e1] at h4 ⊢
    exact mul_sum pA pB pC h1 h2 h3 h4 h5
theorem neg_err (n : Nat) (s : Bool) (v : Nat) (e : Int) : (normA n (!s) v e).err = (normA n s v e).err := by rw [normA_flip]
end Go.Proofs.YtimfpgpomafflaaGreatDoor
