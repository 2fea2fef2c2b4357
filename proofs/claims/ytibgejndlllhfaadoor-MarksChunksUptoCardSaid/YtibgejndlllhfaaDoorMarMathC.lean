/- Where something stands in a text, byte by byte and word by word: plain mathematics. -/
import Derived.Test.YtibgejndlllhfaaDoorMarMathB
namespace Go.Proofs.YtibgejndlllhfaaDoor
open Go.RowKit BM

/-- a byte that is no mark, blank or quote, outside strings -/
def run (l : List Nat) (p : Nat) : Bool := decide (cl l p = 0) && !inn l p
/-- the one ahead -/
def pr (l : List Nat) : Nat → Bool
  | 0 => false
  | p + 1 => run l p
/-- what is told of a place, or 0 -/
def kd (l : List Nat) (p : Nat) : Nat :=
  if cl l p = 113 then (if inn l p then 34 else 0) else if cl l p = 111 ∨ cl l p = 99 ∨ cl l p = 58 ∨ cl l p = 44 then byte l p else if cl l p = 0 then (if !inn l p && !pr l p then 48 else 0) else 0
def mb (l : List Nat) (p : Nat) : Bool := decide (p < l.length) && decide (kd l p ≠ 0)
def mkL (l : List Nat) (n : Nat) : List (Nat × Nat) := pick (mb l) (fun p => (p, kd l p)) n
theorem what_vals (c : Nat) (o i : Bool) : what c o i = 113 ∨ what c o i = 111 ∨ what c o i = 99 ∨ what c o i = 58 ∨ what c o i = 44 ∨ what c o i = 32 ∨ what c o i = 0 := by
  unfold what
  split
  · simp
  · split
    · simp
    · split
      · simp
      · split
        · simp
        · split
          · rename_i h; rcases h with rfl | rfl <;> simp
          · split <;> simp
theorem cl_vals (l : List Nat) (p : Nat) : cl l p = 113 ∨ cl l p = 111 ∨ cl l p = 99 ∨ cl l p = 58 ∨ cl l p = 44 ∨ cl l p = 32 ∨ cl l p = 0 := what_vals _ _ _
/-- a quote's byte is one -/
theorem cl_quote {l : List Nat} {p : Nat} (h : cl l p = 113) : byte l p = 34 := by
  have := w_q (byte l p) (stO l false p) (stI l false false p)
  unfold cl wh at h
  rw [h] at this
  have h2 : isQ (byte l p) (stO l false p) = true := by rw [← this]; rfl
  unfold isQ at h2
  simp at h2
  exact h2.1
/-- a sign's byte is a sign -/
theorem cl_sign {l : List Nat} {p : Nat} (h : cl l p = 111 ∨ cl l p = 99 ∨ cl l p = 58 ∨ cl l p = 44) : (byte l p = 91 ∨ byte l p = 123 ∨ byte l p = 93 ∨ byte l p = 125 ∨ byte l p = 58 ∨ byte l p = 44) ∧ inn l p = false := by
  unfold cl wh at h
  have e1 := w_open (byte l p) (stO l false p) (stI l false false p)
  have e2 := w_close (byte l p) (stO l false p) (stI l false false p)
  have e3 := w_colon (byte l p) (stO l false p) (stI l false false p)
  have e4 := w_comma (byte l p) (stO l false p) (stI l false false p)
  have ei : inn l p = nextIn (byte l p) (stO l false p) (stI l false false p) := rfl
  rw [ei]
  rcases h with h | h | h | h
  · rw [h] at e1
    have := e1.symm
    simp at this
    exact ⟨by rcases this.1 with h | h <;> simp [h], this.2⟩
  · rw [h] at e2
    have := e2.symm
    simp at this
    exact ⟨by rcases this.1 with h | h <;> simp [h], this.2⟩
  · rw [h] at e3
    have := e3.symm
    simp at this
    exact ⟨by simp [this.1], this.2⟩
  · rw [h] at e4
    have := e4.symm
    simp at this
    exact ⟨by simp [this.1], this.2⟩
def othB (l : List Nat) (k : Nat) : BitVec 64 := (wd l k).rs &&& fb (l.length - 64 * k)
theorem sg_bit (l : List Nat) (k : Nat) {j : Nat} (h : j < 64) : (wd l k).sg.getLsbD j = (decide (64 * k + j < l.length) && decide (cl l (64 * k + j) = 111 ∨ cl l (64 * k + j) = 99 ∨ cl l (64 * k + j) = 58 ∨ cl l (64 * k + j) = 44)) := by
  unfold MS.sg
  rw [BitVec.getLsbD_or, BitVec.getLsbD_or, BitVec.getLsbD_or, wd_o l k h, wd_c l k h, wd_k l k h, wd_m l k h]
  cases decide (64 * k + j < l.length) <;> simp [Bool.or_assoc]
theorem oth_bit (l : List Nat) (k : Nat) {j : Nat} (h : j < 64) : (othB l k).getLsbD j = (decide (64 * k + j < l.length) && run l (64 * k + j)) := by
  unfold othB MS.rs
  rw [BitVec.getLsbD_and, fb_bit _ h, BitVec.getLsbD_not, BitVec.getLsbD_or, BitVec.getLsbD_or, BitVec.getLsbD_or, wd_n l k h, wd_q l k h, wd_s l k h, sg_bit l k h]
  by_cases c : 64 * k + j < l.length
  · have e : decide (j < l.length - 64 * k) = true := by rw [decide_eq_true_iff]; omega
    rw [e]
    simp only [c, decide_true, Bool.true_and, Bool.and_true, h]
    unfold run
    cases inn l (64 * k + j)
    · rcases cl_vals l (64 * k + j) with e | e | e | e | e | e | e <;> rw [e] <;> decide
    · simp
  · have e : decide (j < l.length - 64 * k) = false := by rw [decide_eq_false_iff_not]; omega
    rw [e]; simp [c]
theorem bk_f (x : BitVec 64) : bk x false = x := by apply BM.ext; intro i hi; rw [bk_bit _ _ _ hi]; simp
def begB (l : List Nat) (k : Nat) : BitVec 64 := bk (andNot (othB l k) (othB l k <<< 1)) (pr l (64 * k))
theorem beg_bit (l : List Nat) (k : Nat) {j : Nat} (h : j < 64) : (begB l k).getLsbD j = (decide (64 * k + j < l.length) && run l (64 * k + j) && !pr l (64 * k + j)) := by
  unfold begB
  rw [bk_bit _ _ _ h, n_bit _ _ h, oth_bit l k h, BitVec.getLsbD_shiftLeft]
  cases j with
  | zero =>
    cases hp : pr l (64 * k) <;> simp
  | succ j =>
    rw [show j + 1 - 1 = j from rfl, oth_bit l k (by omega)]
    have e : pr l (64 * k + (j + 1)) = run l (64 * k + j) := rfl
    rw [e]
    by_cases c : 64 * k + (j + 1) < l.length
    · have c2 : 64 * k + j < l.length := by omega
      simp [c, c2, h]
    · simp [c]
def leftB (l : List Nat) (k : Nat) : BitVec 64 := ((wd l k).q &&& (wd l k).n) ||| (wd l k).sg ||| begB l k
theorem left_bit (l : List Nat) (k : Nat) {j : Nat} (h : j < 64) : (leftB l k).getLsbD j = mb l (64 * k + j) := by
  unfold leftB mb
  rw [BitVec.getLsbD_or, BitVec.getLsbD_or, BitVec.getLsbD_and, wd_q l k h, wd_n l k h, sg_bit l k h, beg_bit l k h]
  by_cases c : 64 * k + j < l.length
  · simp only [c, decide_true, Bool.true_and]
    generalize 64 * k + j = p at *
    unfold kd run
    rcases cl_vals l p with e | e | e | e | e | e | e
    · rw [e]; cases inn l p <;> simp
    · have hs := (cl_sign (l := l) (p := p) (by simp [e])).1
      rw [e]; rcases hs with h | h | h | h | h | h <;> simp [h]
    · have hs := (cl_sign (l := l) (p := p) (by simp [e])).1
      rw [e]; rcases hs with h | h | h | h | h | h <;> simp [h]
    · have hs := (cl_sign (l := l) (p := p) (by simp [e])).1
      rw [e]; rcases hs with h | h | h | h | h | h <;> simp [h]
    · have hs := (cl_sign (l := l) (p := p) (by simp [e])).1
      rw [e]; rcases hs with h | h | h | h | h | h <;> simp [h]
    · rw [e]; simp
    · rw [e]; cases inn l p <;> cases pr l p <;> simp
  · simp [c]
/-- the kind that the program tells -/
theorem kind_is (l : List Nat) (k : Nat) {j : Nat} (h : j < 64) (hm : mb l (64 * k + j) = true) : (if bitAt (begB l k) j then 48 else byte l (64 * k + j)) = kd l (64 * k + j) := by
  unfold bitAt
  rw [beg_bit l k h]
  unfold mb at hm
  simp only [Bool.and_eq_true, decide_eq_true_iff] at hm
  obtain ⟨h1, h2⟩ := hm
  simp only [h1, decide_true, Bool.true_and]
  generalize 64 * k + j = p at *
  unfold kd at *
  unfold run
  rcases cl_vals l p with e | e | e | e | e | e | e
  · have hq := cl_quote e
    rw [e] at h2 ⊢; cases hi : inn l p <;> simp_all
  · rw [e]; simp
  · rw [e]; simp
  · rw [e]; simp
  · rw [e]; simp
  · rw [e] at h2; simp at h2
  · rw [e] at h2 ⊢; cases hi : inn l p <;> cases hp : pr l p <;> simp_all
theorem run_next (l : List Nat) (k : Nat) (h : 64 * (k + 1) < l.length) : bitAt (othB l k) 63 = pr l (64 * (k + 1)) := by
  unfold bitAt
  rw [oth_bit l k (by omega)]
  have : 64 * (k + 1) = (64 * k + 63) + 1 := by omega
  rw [this]
  simp only [pr, show 64 * k + 63 < l.length by omega, decide_true, Bool.true_and]
theorem mkL_all (l : List Nat) (n : Nat) (h : l.length ≤ n) : mkL l n = mkL l l.length := pick_none h fun i hi _ => by unfold mb; simp; intro h; omega
theorem mkL_le (l : List Nat) (n : Nat) : (mkL l n).length ≤ n := pick_length _ _ _
theorem mkL_next {l : List Nat} {k j : Nat} (hz : hiB (leftB l k) j ≠ 0#64) : mkL l (64 * k + (tz (hiB (leftB l k) j) + 1)) = mkL l (64 * k + j) ++ [(64 * k + tz (hiB (leftB l k) j), kd l (64 * k + tz (hiB (leftB l k) j)))] ∧ mb l (64 * k + tz (hiB (leftB l k) j)) = true := by
  obtain ⟨n1, n2, n3, n4, n5⟩ := hiB_next hz
  rw [left_bit l k n3] at n4
  refine ⟨?_, n4⟩
  generalize tz (hiB (leftB l k) j) = q at *
  exact pick_next (t := 64 * k + q) (by omega) n4 fun i h1 h2 => by
    have := n5 (i - 64 * k) (by omega) (by omega)
    rw [left_bit l k (by omega)] at this
    rw [← this]; congr 1; omega
theorem mkL_done {l : List Nat} {k j : Nat} (hj : j ≤ 64) (hz : hiB (leftB l k) j = 0#64) : mkL l (64 * (k + 1)) = mkL l (64 * k + j) := pick_none (by omega) fun i h1 h2 => by
  have := hiB_none hz (i - 64 * k) (by omega) (by omega)
  rw [left_bit l k (by omega)] at this
  rw [← this]; congr 1; omega
theorem b63' (x : BitVec 64) : (val x / 9223372036854775808 == 1) = bitAt x 63 := by
  have h1 := val_lt x
  have h0 := val_nn x
  have h := sr_odd x 63
  rw [← u_shr, show (2 : Int) ^ 63 = 9223372036854775808 from rfl] at h
  rw [← h, Bool.eq_iff_iff, beq_iff_eq, beq_iff_eq]
  omega
/-- cells of marks -/
def mkc (L : List (Nat × Nat)) : List Value := L.flatMap fun x => [.int .i64 (x.1 : Int), .int .u8 (x.2 : Int)]
theorem mkc_snoc (L : List (Nat × Nat)) (p k : Nat) : mkc (L ++ [(p, k)]) = mkc L ++ [.int .i64 (p : Int), .int .u8 (k : Int)] := by simp [mkc]
theorem mkc_get : ∀ {L : List (Nat × Nat)} {j : Nat} {x : Nat × Nat}, L[j]? = some x → (mkc L)[j * 2]? = some (.int .i64 (x.1 : Int)) ∧ (mkc L)[j * 2 + 1]? = some (.int .u8 (x.2 : Int))
  | [], _, _, h => by simp at h
  | y :: L, 0, x, h => by
    simp at h; subst h
    exact ⟨by simp [mkc], by simp [mkc]⟩
  | y :: L, j + 1, x, h => by
    have h2 := mkc_get (L := L) (j := j) (x := x) (by simpa using h)
    have e : mkc (y :: L) = Value.int .i64 (y.1 : Int) :: Value.int .u8 (y.2 : Int) :: mkc L := by simp [mkc]
    rw [e, show (j + 1) * 2 = j * 2 + 1 + 1 by omega, show j * 2 + 1 + 1 + 1 = (j * 2 + 1) + 1 + 1 by omega]
    simpa using h2
end Go.Proofs.YtibgejndlllhfaaDoor
