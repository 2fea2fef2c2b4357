/- Walk of the law UtfDecodes. -/
import Derived.Test.YtmkmaignfcjjkaaDoorUtfL
namespace Go.Proofs.YtmkmaignfcjjkaaDoor
open Go.RowKit UM

set_option maxRecDepth 20000 in
theorem decodes_walk {s : ByteArray} (w : World) (ht : Sh w) (hs : s.data.toList.length ≤ reachBytes) : Calls Tryd.prog 3 #[.string s] w fun r w' => r = .returned (.bool true) ∧ Below w.heap.size w w' := by
  have hz : s.size ≤ 140737488351232 := by
    rw [Array.length_toList] at hs
    exact hs
  have hD := fun W h => Decode_any s W hz h
  have hR := fun W => RDecode_any s W
  unfold ResDec at hD
  unfold ResD at hR
  generalize (dcd (bl s)).1 = p at *
  generalize (dcd (bl s)).2.1 = n at *
  generalize (dcd (bl s)).2.2 = b at *
  have HD := Lib.hid hD; have HR := Lib.hid hR
  clear hD hR hs hz
  have HT := Lib.hid ht
  clear ht
  go_enter Tryd.func3, Tryd.ntmps3
  go_wp2_with fail
  refine (shown_any _ HT.out).mono ?_
  rintro r w1 ⟨rfl, hb1⟩
  have HT1 := Lib.hid (HT.out.below hb1); have B1 := Lib.hid hb1
  clear hb1
  go_wp2_with fail
  refine (HD.out _ HT1.out).mono ?_
  rintro r w2 ⟨rfl, n2, hw⟩
  have HT2 : Hid (Sh w2) := Lib.hid (by rw [hw]; exact HT1.out.dN n2)
  have B2 : Hid (Below w.heap.size w w2) := Lib.hid (by rw [hw]; exact bdN B1.out n2)
  clear hw
  go_wp2_with fail
  refine (HR.out _).mono ?_
  rintro r w3 ⟨rfl, hb⟩
  have HT3 := Lib.hid (HT2.out.below hb); have B3 := Lib.hid (B2.out.trans (hb.mono B2.out.size))
  clear hb
  go_wp2
  go_ret
  exact ⟨rfl, B3.out⟩
end Go.Proofs.YtmkmaignfcjjkaaDoor
