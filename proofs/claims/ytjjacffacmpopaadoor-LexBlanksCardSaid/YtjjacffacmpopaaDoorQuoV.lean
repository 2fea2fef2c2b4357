/- quote: the bytes of a text as an argument. -/
import Derived.Test.YtjjacffacmpopaaDoorQuoU
import Derived.Test.YtjjacffacmpopaaDoorQuoPs
import Derived.Test.YtjjacffacmpopaaDoorQuoT
namespace Go.Proofs.YtjjacffacmpopaaDoor
open Go.RowKit UM QM

/-- where a law stands: nothing old has turned, the table is there -/
def Goes (w W : World) : Prop := Below w.heap.size w W ∧ Sh W
theorem Goes.next {w W W' : World} (h : Goes w W) (hb : Below W.heap.size W W') : Goes w W' := ⟨h.1.trans (hb.mono h.1.size), h.2.below hb⟩
theorem Goes.drew {w W : World} (h : Goes w W) : Goes w W.drew := ⟨h.1.drew, h.2⟩
section
variable (W : World) (e : TypeId) (q : List Nat)
theorem bw_below (s : ByteArray) : Below W.heap.size W (Lib.bytesWorld W e s) :=
  ⟨rfl, rfl, rfl, by rw [Lib.bytesWorld_size]; omega, fun k hk => Lib.bytesWorld_at_old W e s k hk⟩
theorem bw_rd (hq : ∀ x ∈ q, x < 256) : Rd (Lib.bytesWorld W e (tx q)) .u8 (some ⟨W.heap.size, 0, none⟩) q := by
  refine Rd.mk fun j hj => ?_
  rw [Nat.zero_add, Lib.bytesWorld_cell W e (tx q) j (by rw [tx_size]; exact hj)]
  have h4 : q[j]?.getD 0 < 256 := by rw [List.getElem?_eq_getElem hj]; exact hq _ (List.getElem_mem hj)
  have : ((tx q).data.toList.getD j 0).toNat = q[j]?.getD 0 := by
    rw [tx_list, List.getD_eq_getElem?_getD, List.getElem?_map, List.getElem?_eq_getElem hj]
    show (UInt8.ofNat q[j]).toNat = q[j]
    rw [UInt8.toNat_ofNat', Nat.mod_eq_of_lt (hq _ (List.getElem_mem hj))]
  rw [this]
theorem bw_cap (n : Nat) : n ≤ grownCap W n 0 e := grownCap_ge W n 0 e
theorem bw_spare (hl : q.length ≤ 1000000000000) : Spare (Lib.bytesWorld W e (tx q)) W.heap.size q.length (grownCap W q.length 0 e) := by
  intro j h1 h2
  have hsz : (Lib.bytesCells W e (tx q)).size = grownCap W q.length 0 e := by
    unfold Lib.bytesCells
    have h0 : (tx q).data.size = q.length := tx_size q
    have := bw_cap W e q.length
    rw [Array.size_append, Array.size_map, Array.size_replicate, h0, tx_size]
    omega
  have hn := Lib.bytesWorld_at_new W e (tx q)
  constructor
  · unfold World.cell?
    simp only [hn]
    rw [if_neg (by simp), Array.getElem?_eq_getElem (by rw [hsz]; omega)]
    rfl
  · unfold World.frozen?
    simp only [hn]
    simp
    omega
end
theorem conv_bw (W : World) (q : List Nat) : (convert 9 38 (.string (tx q))).run Tryd.prog W = .ok (.slice (some ⟨W.heap.size, 0, none⟩) q.length (grownCap W q.length 0 5)) (Lib.bytesWorld W 5 (tx q)) := by
  have h := Lib.run_convert_string_bytes (P := Tryd.prog) W 9 38 5 (tx q) Tryd.underlying9 Tryd.underlying38 Tryd.underlying5
  rw [tx_size] at h
  exact h
theorem wrt_lo (asc : Bool) {ps : List Nat} (hp : ∀ p ∈ ps, Pt p) : ∀ x ∈ wrt asc ps, x < 256 := L3 (done := ps) (todo := []) (by simp) rfl hp
theorem wrt_len (asc : Bool) (ps : List Nat) : (wrt asc ps).length ≤ 12 * ps.length + 2 := by
  have := flat_len asc ps
  unfold wrt
  simp only [List.length_append, List.length_singleton]; omega
theorem bw_slot (W : World) (e : TypeId) (s : ByteArray) : ∀ b off, some (⟨W.heap.size, 0, none⟩ : Addr) = some ⟨b, off, none⟩ → b < (Lib.bytesWorld W e s).heap.size := fun b off h => by
  cases h
  rw [Lib.bytesWorld_size]; omega
end Go.Proofs.YtjjacffacmpopaaDoor
