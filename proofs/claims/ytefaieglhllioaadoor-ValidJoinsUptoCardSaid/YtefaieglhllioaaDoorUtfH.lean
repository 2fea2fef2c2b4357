/- Valid and Cmp of the program. -/
import Derived.Test.YtefaieglhllioaaDoorUtfF
import Derived.Lib.IndexBytes
namespace Go.Proofs.YtefaieglhllioaaDoor
open Go.RowKit UM

theorem bl_extract (s : ByteArray) (k : Nat) : bl (s.extract k s.size) = (bl s).drop k := by
  unfold bl
  rw [Lib.extract_to_end, List.map_drop]
theorem extract_size (s : ByteArray) (k : Nat) : (s.extract k s.size).size = s.size - k := by
  have := bl_len (s.extract k s.size)
  rw [bl_extract, List.length_drop, bl_len] at this
  exact this.symm
theorem UI.dN {s : ByteArray} {B : Nat} {w0 : World} {K : Nat} {e : TypeId} {k : IntKind} {wr : World} {pos : Nat} {ao : Option Addr} {cap : Nat} {L : List Nat} (h : UI s B w0 K e k wr pos ao cap L) (n : Nat) : UI s B w0 K e k (wr.drewN n) pos ao cap L :=
  ⟨h.it, h.own.dN n, bdN h.bw n, h.kb, h.hB⟩
theorem ok_of_ne {l : List Nat} {c wd : Nat} {b : Bool} (h : dcd l = (c, wd, b)) (hc : c ≠ 65533) : b = true := by
  rcases dcd_cases l with ⟨p, t, _, _, e⟩ | ⟨_, e⟩ | ⟨_, e⟩ <;> rw [h] at e <;> simp only [Prod.mk.injEq] at e
  · exact e.2.2
  · exact absurd e.1 hc
  · exact absurd e.1 hc
def ResV (m : Nat) (w : World) (r : Ending) (w' : World) : Prop := r = .returned (.int .i64 m) ∧ Below w.heap.size w w'
def cmpI (x y : Int) : Int := if x < y then -1 else if y < x then 1 else 0
end Go.Proofs.YtefaieglhllioaaDoor
