/- Walk of the law UtfImplodes. -/
import Derived.Test.YtmkmaignfcjjkaaDoorUtfL
namespace Go.Proofs.YtmkmaignfcjjkaaDoor
open Go.RowKit UM

theorem implodes_walk {a : Option Addr} {n ca : Nat} (w : World) (ht : Sh w) (hr : IsInts w a n) (hn : n ≤ 17592186044416) : Calls Tryd.prog 6 #[.slice a n ca] w fun r w' => r = .returned (.bool true) ∧ Below w.heap.size w w' := by
  obtain ⟨l, rfl, hrd⟩ := hr
  have hI := fun W h hb => Implode_any a ca l W hn (hrd.below (w' := W) hb) h
  have hR := fun W hb => RImplode_any a ca l W hn (hrd.below (w' := W) hb)
  unfold ResI at hI hR
  rcases hb0 : allPt l with _ | _
  all_goals
    simp only [hb0, Bool.false_eq_true, if_true, if_false] at hI hR
    clear hb0
    try generalize tx (encL (toN l)) = t at *
    have HI := Lib.hid hI; have HR := Lib.hid hR
    clear hI hR hrd hn
    have HT := Lib.hid ht
    clear ht
    go_enter Tryd.func6, Tryd.ntmps6
    go_wp2_with fail
    refine (shown_any _ HT.out).mono ?_
    rintro r w1 ⟨rfl, hb1⟩
    have HT1 := Lib.hid (HT.out.below hb1); have B1 := Lib.hid hb1
    clear hb1
    go_wp2_with fail
    refine (HI.out _ HT1.out B1.out).mono ?_
    rintro r w2 ⟨rfl, hb⟩
    have HT2 := Lib.hid (HT1.out.below hb); have B2 := Lib.hid (B1.out.trans (hb.mono B1.out.size))
    clear hb
    go_wp2_with fail
    refine (HR.out _ B2.out).mono ?_
    rintro r w3 ⟨rfl, hb⟩
    have HT3 := Lib.hid (HT2.out.below hb); have B3 := Lib.hid (B2.out.trans (hb.mono B2.out.size))
    clear hb
    go_wp2
    go_ret
    exact ⟨rfl, B3.out⟩
end Go.Proofs.YtmkmaignfcjjkaaDoor
