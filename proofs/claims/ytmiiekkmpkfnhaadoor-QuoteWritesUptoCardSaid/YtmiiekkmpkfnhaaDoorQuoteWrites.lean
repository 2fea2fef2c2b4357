/- Walk of the law QuoteWrites. -/
import Derived.Test.YtmiiekkmpkfnhaaDoorQuoL
import Derived.Test.YtmiiekkmpkfnhaaDoorQuoN
namespace Go.Proofs.YtmiiekkmpkfnhaaDoor
open Go.RowKit UM QM

set_option maxRecDepth 20000 in
set_option maxHeartbeats 2000000 in
theorem writes_walk {s : ByteArray} (w : World) (ht : Sh w) (hs : s.data.toList.length ≤ 1048576) : Calls Tryd.prog 3 #[.string s] w fun r w' => r = .returned (.bool true) ∧ Below w.heap.size w w' := by
  have hz : s.size ≤ 1000000000000 := by
    rw [Array.length_toList] at hs
    exact Nat.le_trans hs (by decide)
  have hQ := fun W h => Quote_any s W hz h
  have hA := fun W h => Ascii_any s W hz h
  have hR := fun b W => RWritten_any b s W hz
  unfold ResT at hQ hA hR
  have hR1 := hR false
  have hR2 := hR true
  generalize tx (wrt false (xp (bl s))) = t1 at *
  generalize tx (wrt true (xp (bl s))) = t2 at *
  have HQ := Lib.hid hQ; have HA := Lib.hid hA; have HR1 := Lib.hid hR1; have HR2 := Lib.hid hR2
  have HT := Lib.hid ht
  clear ht hQ hA hR hR1 hR2 hs hz
  go_enter Tryd.func3, Tryd.ntmps3
  go_wp2_with fail
  refine (shown_any _ HT.out).mono ?_
  rintro r w1 ⟨rfl, hb⟩
  have B1 := Lib.hid hb; have T1 := Lib.hid (HT.out.below hb)
  clear hb
  go_wp2_with fail
  refine (HQ.out _ T1.out).mono ?_
  rintro r w2 ⟨rfl, hb⟩
  have B2 := Lib.hid (B1.out.trans (hb.mono B1.out.size)); have T2 := Lib.hid (T1.out.below hb)
  clear hb
  go_wp2_with fail
  refine (HR1.out _).mono ?_
  rintro r w3 ⟨rfl, hb⟩
  have B3 := Lib.hid (B2.out.trans (hb.mono B2.out.size)); have T3 := Lib.hid (T2.out.below hb)
  clear hb
  go_wp2_with fail
  refine (HA.out _ T3.out).mono ?_
  rintro r w4 ⟨rfl, hb⟩
  have B4 := Lib.hid (B3.out.trans (hb.mono B3.out.size)); have T4 := Lib.hid (T3.out.below hb)
  clear hb
  go_wp2_with fail
  refine (HR2.out _).mono ?_
  rintro r w5 ⟨rfl, hb⟩
  have B5 := Lib.hid (B4.out.trans (hb.mono B4.out.size))
  clear hb
  go_wp2
  go_ret
  exact ⟨rfl, B5.out⟩
end Go.Proofs.YtmiiekkmpkfnhaaDoor
