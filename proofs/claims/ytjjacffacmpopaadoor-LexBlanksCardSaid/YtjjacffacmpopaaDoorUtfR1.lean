/- The document's size, Is, Bytes, Encode. -/
import Derived.Test.YtjjacffacmpopaaDoorUtfEs
namespace Go.Proofs.YtjjacffacmpopaaDoor
open Go.RowKit UM

def ResB (l : List Nat) (w : World) (r : Ending) (w' : World) : Prop := r = .returned (.string (tx l)) ∧ Below w.heap.size w w'
/-- bytes that are written out as a text -/
theorem conv_lit {P : Program} (w : World) (src dst e : TypeId) (V : Array Value) (l : List Nat) (n : Nat) (hs : P.underlying src = some (.slice e)) (he : P.underlying e = some (.int .u8)) (hd : P.underlying dst = some .string)
    (hV : V = (cs .u8 l).toArray) (hlo : ∀ x ∈ l, x < 256) (hn : n = l.length) :
    (convert src dst (.slice (some ⟨w.heap.size, 0, none⟩) n n)).run P (w.alloc (.cells V e)) = .ok (.string (tx l)) (w.alloc (.cells V e)) := by
  subst hn
  have hl : l.length = (l.map UInt8.ofNat).length := by rw [List.length_map]
  rw [hl]
  refine run_convert_bytes_back _ src dst e ⟨w.heap.size, 0, none⟩ _ (l.map UInt8.ofNat) hs he hd (fun j hj => ?_)
  have hj' : j < l.length := by rw [List.length_map] at hj; exact hj
  rw [Lib.add_plain, Nat.zero_add]
  have h4 : l[j] < 256 := hlo _ (List.getElem_mem hj')
  have h5 : (w.alloc (.cells V e)).cell? ⟨w.heap.size, j, none⟩ = V[j]? := by simp
  rw [h5, hV]
  simp [cs, hj', Nat.mod_eq_of_lt h4]
end Go.Proofs.YtjjacffacmpopaaDoor
