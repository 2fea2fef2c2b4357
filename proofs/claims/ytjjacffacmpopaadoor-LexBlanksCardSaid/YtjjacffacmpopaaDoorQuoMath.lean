/- What quote's reader tells, as functions of the bytes and the place. Nothing of the program. -/
import Derived.Test.YtjjacffacmpopaaDoorUtfMath
namespace Go.Proofs.YtjjacffacmpopaaDoor.QM
open Go.Proofs.YtjjacffacmpopaaDoor.UM

/-- the next byte; -1 behind the last one -/
def pk (l : List Nat) (k : Nat) : Int := if k < l.length then ((l[k]?.getD 0 : Nat) : Int) else -1
/-- a hexadecimal digit's number -/
def dgv (c : Int) : Option Nat := if 48 ≤ c ∧ c ≤ 57 then some (c - 48).toNat else if 97 ≤ c ∧ c ≤ 102 then some (c - 87).toNat else if 65 ≤ c ∧ c ≤ 70 then some (c - 55).toNat else none
theorem dgv_lt {c : Int} {d : Nat} (h : dgv c = some d) : d < 16 := by
  unfold dgv at h
  repeat' split at h
  all_goals (cases h; try omega)
theorem dgv_pk {l : List Nat} {k d : Nat} (h : dgv (pk l k) = some d) : k < l.length := by
  unfold pk at h
  by_cases hk : k < l.length
  · exact hk
  · rw [if_neg hk, show dgv (-1) = none by decide] at h; cases h
def unitF (l : List Nat) : Nat → Nat → Nat → Int × Bool × Nat
  | 0, k, h => ((h : Int), true, k)
  | n + 1, k, h => match dgv (pk l k) with | none => (0, false, k) | some d => unitF l n (k + 1) (h * 16 + d)
def un (l : List Nat) (k : Nat) : Int × Bool × Nat := unitF l 4 k 0
def lowF (l : List Nat) (k : Nat) : Int × Bool × Nat :=
  if pk l k ≠ 92 then (0, false, k) else if pk l (k + 1) ≠ 117 then (0, false, k + 1) else
    ((un l (k + 2)).1, (un l (k + 2)).2.1 && decide (56320 ≤ (un l (k + 2)).1) && decide ((un l (k + 2)).1 ≤ 57343), (un l (k + 2)).2.2)
def codedF (l : List Nat) (k : Nat) : Int × Bool × Nat :=
  if (un l k).2.1 = false then (0, false, (un l k).2.2) else
  if (un l k).1 < 55296 ∨ 57343 < (un l k).1 then ((un l k).1, true, (un l k).2.2) else
  if 56320 ≤ (un l k).1 then (65533, true, (un l k).2.2) else
  if (lowF l (un l k).2.2).2.1 = true then (65536 + 1024 * ((un l k).1 - 55296) + (lowF l (un l k).2.2).1 - 56320, true, (lowF l (un l k).2.2).2.2) else (65533, true, (un l k).2.2)
def escF (l : List Nat) (k : Nat) : Int × Bool × Nat :=
  if pk l k = 34 ∨ pk l k = 92 ∨ pk l k = 47 then (pk l k, true, k + 1) else
  if pk l k = 98 then (8, true, k + 1) else if pk l k = 102 then (12, true, k + 1) else if pk l k = 110 then (10, true, k + 1) else
  if pk l k = 114 then (13, true, k + 1) else if pk l k = 116 then (9, true, k + 1) else if pk l k = 117 then codedF l (k + 1) else (0, false, k)
def cutB (r : List Nat) : Bool := (dcd (r ++ [128, 128, 128])).2.2 || (dcd (r ++ [191, 191, 191])).2.2
def pointF (l : List Nat) (k : Nat) : Int × Bool × Nat :=
  if (dcd ((l.drop k).take 4)).2.2 = true then (((dcd ((l.drop k).take 4)).1 : Nat), true, k + (dcd ((l.drop k).take 4)).2.1) else
  if cutB ((l.drop k).take 4) = true then (0, false, l.length) else (0, false, k)
def pieceF (l : List Nat) (k : Nat) : Int × Bool × Nat :=
  if pk l k < 32 then (0, false, k) else if 127 < pk l k then pointF l k else if pk l k = 92 then escF l (k + 1) else (pk l k, true, k + 1)
def faultF (l : List Nat) (k : Nat) : Nat := if pk l k = -1 then 5 else if 127 < pk l k then 7 else 2
theorem unitF_lt {l : List Nat} : ∀ {n k h : Nat}, h < 16 ^ (4 - n) → n ≤ 4 → 0 ≤ (unitF l n k h).1 ∧ (unitF l n k h).1 < 65536 := by
  intro n
  induction n with
  | zero => intro k h hh _; simp [unitF]; have : h < 65536 := hh; omega
  | succ n ih =>
    intro k h hh hn
    simp only [unitF]
    split
    · simp
    · rename_i d hd
      have h16 := dgv_lt hd
      refine ih ?_ (by omega)
      rw [show 4 - n = (4 - (n + 1)) + 1 by omega, Nat.pow_succ]
      omega
theorem un_lt (l : List Nat) (k : Nat) : 0 ≤ (un l k).1 ∧ (un l k).1 < 65536 := unitF_lt (by decide) (by decide)
theorem unitF_at {l : List Nat} : ∀ {n k h : Nat}, k ≤ l.length → k ≤ (unitF l n k h).2.2 ∧ (unitF l n k h).2.2 ≤ l.length := by
  intro n
  induction n with
  | zero => intro k h hk; exact ⟨Nat.le_refl _, hk⟩
  | succ n ih =>
    intro k h hk
    simp only [unitF]
    split
    · exact ⟨Nat.le_refl _, hk⟩
    · rename_i d hd
      have h1 := dgv_pk hd
      have h2 := ih (k := k + 1) (h := h * 16 + d) (by omega)
      exact ⟨by omega, h2.2⟩
theorem pk_pos {l : List Nat} {k : Nat} (h : pk l k ≠ -1) : k < l.length := by
  unfold pk at h
  by_cases hk : k < l.length
  · exact hk
  · rw [if_neg hk] at h; exact absurd rfl h
end Go.Proofs.YtjjacffacmpopaaDoor.QM
