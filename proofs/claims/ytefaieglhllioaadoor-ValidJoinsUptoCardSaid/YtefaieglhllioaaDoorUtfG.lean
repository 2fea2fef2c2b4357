/- Clean and Slice of the program. -/
import Derived.Test.YtefaieglhllioaaDoorUtfF
namespace Go.Proofs.YtefaieglhllioaaDoor
open Go.RowKit UM

def ResT (l : List Nat) (w : World) (r : Ending) (w' : World) : Prop := r = .returned (.string (tx l)) ∧ Below w.heap.size w w'
theorem slc_snoc {ps : List Nat} {c : Nat} {f : Int} (h : f ≤ (ps.length : Int)) : (ps ++ [c]).drop f.toNat = ps.drop f.toNat ++ [c] := by
  rw [List.drop_append_of_le_length (by omega)]
theorem slc_skip {ps : List Nat} {c : Nat} {f : Int} (h : (ps.length : Int) < f) : (ps ++ [c]).drop f.toNat = [] ∧ ps.drop f.toNat = [] :=
  ⟨List.drop_of_length_le (by simp; omega), List.drop_of_length_le (by omega)⟩
end Go.Proofs.YtefaieglhllioaaDoor
