/- Walk of the law UtfEncodes. -/
import Derived.Test.YtmkmaignfcjjkaaDoorUtfL
namespace Go.Proofs.YtmkmaignfcjjkaaDoor
open Go.RowKit UM

theorem encodes_pt (p : Nat) (w : World) (ht : Sh w) (hp : Pt p) : Calls Tryd.prog 4 #[.int .i64 p] w fun r w' => r = .returned (.bool true) ∧ Below w.heap.size w w' := by
  have hE := fun W h => Encode_pt p W hp h
  have hR := fun W => REncode_pt p W hp
  unfold ResE at hE hR
  generalize tx (enc p) = t at *
  have HE := Lib.hid hE; have HR := Lib.hid hR
  clear hE hR hp
  have HT := Lib.hid ht
  clear ht
  go_enter Tryd.func4, Tryd.ntmps4
  go_wp2_with fail
  refine (shown_any _ HT.out).mono ?_
  rintro r w1 ⟨rfl, hb1⟩
  have HT1 := Lib.hid (HT.out.below hb1); have B1 := Lib.hid hb1
  clear hb1
  go_wp2_with fail
  refine (HE.out _ HT1.out).mono ?_
  rintro r w2 ⟨rfl, hb⟩
  have HT2 := Lib.hid (HT1.out.below hb); have B2 := Lib.hid (B1.out.trans (hb.mono B1.out.size))
  clear hb
  go_wp2_with fail
  refine (HR.out _).mono ?_
  rintro r w3 ⟨rfl, hb⟩
  have HT3 := Lib.hid (HT2.out.below hb); have B3 := Lib.hid (B2.out.trans (hb.mono B2.out.size))
  clear hb
  go_wp2
  go_ret
  exact ⟨rfl, B3.out⟩
theorem encodes_no (p : Int) (w : World) (ht : Sh w) (hp : isPt p = false) : Calls Tryd.prog 4 #[.int .i64 p] w fun r w' => r = .returned (.bool true) ∧ Below w.heap.size w w' := by
  have hE := fun W => Encode_no p W hp
  have hR := fun W => REncode_no p W hp
  have HE := Lib.hid hE; have HR := Lib.hid hR
  clear hE hR hp
  have HT := Lib.hid ht
  clear ht
  go_enter Tryd.func4, Tryd.ntmps4
  go_wp2_with fail
  refine (shown_any _ HT.out).mono ?_
  rintro r w1 ⟨rfl, hb1⟩
  have HT1 := Lib.hid (HT.out.below hb1); have B1 := Lib.hid hb1
  clear hb1
  go_wp2_with fail
  refine (HE.out _).mono ?_
  rintro r w2 ⟨rfl, hb⟩
  have HT2 := Lib.hid (HT1.out.below hb); have B2 := Lib.hid (B1.out.trans (hb.mono B1.out.size))
  clear hb
  go_wp2_with fail
  refine (HR.out _).mono ?_
  rintro r w3 ⟨rfl, hb⟩
  have HT3 := Lib.hid (HT2.out.below hb); have B3 := Lib.hid (B2.out.trans (hb.mono B2.out.size))
  clear hb
  go_wp2
  go_ret
  exact ⟨rfl, B3.out⟩
theorem encodes_walk {x : Int} (w : World) (ht : Sh w) (_ : (Lit.int .i64 x).wf = true) : Calls Tryd.prog 4 #[.int .i64 x] w fun r w' => r = .returned (.bool true) ∧ Below w.heap.size w w' := by
  rcases h : isPt x with _ | _
  · exact encodes_no x w ht h
  · obtain ⟨p, rfl⟩ : ∃ p : Nat, x = p := ⟨x.toNat, by unfold isPt at h; have := of_decide_eq_true h; omega⟩
    rw [isPt_nat] at h
    exact encodes_pt p w ht (of_decide_eq_true h)
end Go.Proofs.YtmkmaignfcjjkaaDoor
