/- The statements' common head: the document's examples. -/
import Derived.Test.YtmkmaignfcjjkaaDoorUtfI
import Derived.Test.YtmkmaignfcjjkaaDoorUtfR5
import Derived.Test.YtmkmaignfcjjkaaDoorUtfR6
namespace Go.Proofs.YtmkmaignfcjjkaaDoor
open Go.RowKit UM

/-- a slice of whole numbers that came in -/
def IsInts (w : World) (a : Option Addr) (len : Nat) : Prop := ∃ l : List Int, l.length = len ∧ RdI w a l
theorem e1 : tx (enc 8364) = ⟨#[226, 130, 172]⟩ := by rfl
theorem x1 (w : World) (ht : Sh w) : Calls Tryd.prog 14 #[.int .i64 8364] w fun r w' => r = .returned (.tuple #[.string ⟨#[226, 130, 172]⟩, .int .i64 0]) ∧ Below w.heap.size w w' := by
  have h := Encode_pt 8364 w (by decide) ht
  unfold ResE at h
  rw [e1] at h
  exact h
theorem x2 (w : World) (ht : Sh w) : Calls Tryd.prog 12 #[.string ⟨#[226, 130]⟩] w fun r w' => r = .returned (.tuple #[.int .i64 65533, .int .i64 1, .bool false]) ∧ ∃ n, w' = w.drewN n := by
  have h := Decode_any ⟨#[226, 130]⟩ w (by decide) ht
  unfold ResDec at h
  rw [show dcd (bl ⟨#[226, 130]⟩) = (65533, 1, false) by decide] at h
  exact h
theorem x3 (w : World) (ht : Sh w) : Calls Tryd.prog 19 #[.string ⟨#[97, 192, 128]⟩] w fun r w' => r = .returned (.int .i64 1) ∧ Below w.heap.size w w' := by
  have h := Valid_any ⟨#[97, 192, 128]⟩ w (by decide) ht
  unfold ResV at h
  rw [show vd (bl ⟨#[97, 192, 128]⟩) = 1 by decide] at h
  exact h
theorem x4 (w : World) (ht : Sh w) : Calls Tryd.prog 21 #[.string ⟨#[97, 255]⟩] w fun r w' => r = .returned (.string ⟨#[97, 239, 191, 189]⟩) ∧ Below w.heap.size w w' := by
  have h := Clean_any ⟨#[97, 255]⟩ w (by decide) ht
  unfold ResT at h
  rw [show encL (xp (bl ⟨#[97, 255]⟩)) = [97, 239, 191, 189] by decide] at h
  exact h
theorem x5 (w : World) (ht : Sh w) : Calls Tryd.prog 27 #[.string ⟨#[97, 195, 164, 98]⟩, .int .i64 1, .int .i64 2] w fun r w' => r = .returned (.string ⟨#[195, 164]⟩) ∧ Below w.heap.size w w' := by
  have h := Slice_any ⟨#[97, 195, 164, 98]⟩ 1 2 w (by decide) ht
  unfold ResT at h
  rw [show encL (slc (xp (bl ⟨#[97, 195, 164, 98]⟩)) 1 2) = [195, 164] by decide] at h
  exact h
set_option maxRecDepth 20000 in
theorem shown_any (w : World) (ht : Sh w) : Calls Tryd.prog 11 #[] w fun r w' => r = .returned (.bool true) ∧ Below w.heap.size w w' := by
  have HT := Lib.hid ht
  clear ht
  go_enter Tryd.func11, Tryd.ntmps11
  go_wp2_with fail
  refine (x1 _ HT.out).mono ?_
  rintro r w1 ⟨rfl, hb1⟩
  have HT1 := Lib.hid (HT.out.below hb1); have B1 := Lib.hid hb1
  clear hb1
  go_wp2_with fail
  refine (x2 _ HT1.out).mono ?_
  rintro r w2 ⟨rfl, n, hw⟩
  have HT2 : Hid (Sh w2) := Lib.hid (by rw [hw]; exact HT1.out.dN n)
  have B2 : Hid (Below w.heap.size w w2) := Lib.hid (by rw [hw]; exact bdN B1.out n)
  clear hw
  go_wp2_with fail
  refine (x3 _ HT2.out).mono ?_
  rintro r w3 ⟨rfl, hb3⟩
  have HT3 := Lib.hid (HT2.out.below hb3); have B3 := Lib.hid (B2.out.trans (hb3.mono B2.out.size))
  clear hb3
  go_wp2_with fail
  refine (x4 _ HT3.out).mono ?_
  rintro r w4 ⟨rfl, hb4⟩
  have HT4 := Lib.hid (HT3.out.below hb4); have B4 := Lib.hid (B3.out.trans (hb4.mono B3.out.size))
  clear hb4
  go_wp2_with fail
  refine (x5 _ HT4.out).mono ?_
  rintro r w5 ⟨rfl, hb5⟩
  have B5 := Lib.hid (B4.out.trans (hb5.mono B4.out.size))
  clear hb5
  go_wp2
  go_ret
  exact ⟨rfl, B5.out⟩
end Go.Proofs.YtmkmaignfcjjkaaDoor
