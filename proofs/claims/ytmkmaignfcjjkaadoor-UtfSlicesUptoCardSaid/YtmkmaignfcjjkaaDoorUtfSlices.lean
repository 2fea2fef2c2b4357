/- Walk of the law UtfSlices. -/
import Derived.Test.YtmkmaignfcjjkaaDoorUtfL
namespace Go.Proofs.YtmkmaignfcjjkaaDoor
open Go.RowKit UM

theorem slices_walk {s : ByteArray} {x y : Int} (w : World) (ht : Sh w) (hs : s.data.toList.length ≤ 1048576) (_ : (Lit.int .i64 x).wf = true) (_ : (Lit.int .i64 y).wf = true) : Calls Tryd.prog 8 #[.string s, .int .i64 x, .int .i64 y] w fun r w' => r = .returned (.bool true) ∧ Below w.heap.size w w' := by
  have hz : s.size ≤ 17592186040000 := by
    rw [Array.length_toList] at hs
    exact Nat.le_trans hs (by decide)
  have hC := fun W h => Slice_any s x y W hz h
  have hR := fun W => RSlice_any s x y W hz
  unfold ResT at hC hR
  generalize tx (encL (slc (xp (bl s)) x y)) = t at *
  have HC := Lib.hid hC; have HR := Lib.hid hR
  clear hC hR hs hz
  have HT := Lib.hid ht
  clear ht
  go_enter Tryd.func8, Tryd.ntmps8
  go_wp2_with fail
  refine (shown_any _ HT.out).mono ?_
  rintro r w1 ⟨rfl, hb1⟩
  have HT1 := Lib.hid (HT.out.below hb1); have B1 := Lib.hid hb1
  clear hb1
  go_wp2_with fail
  refine (HC.out _ HT1.out).mono ?_
  rintro r w2 ⟨rfl, hb⟩
  have HT2 := Lib.hid (HT1.out.below hb); have B2 := Lib.hid (B1.out.trans (hb.mono B1.out.size))
  clear hb
  go_wp2_with fail
  refine (HR.out _).mono ?_
  rintro r w3 ⟨rfl, hb⟩
  have HT3 := Lib.hid (HT2.out.below hb); have B3 := Lib.hid (B2.out.trans (hb.mono B2.out.size))
  clear hb
  go_wp2
  go_ret
  exact ⟨rfl, B3.out⟩
end Go.Proofs.YtmkmaignfcjjkaaDoor
