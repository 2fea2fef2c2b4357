/- Walk of the law LexNames. -/
import Derived.Test.YtjjacffacmpopaaDoorLexT
namespace Go.Proofs.YtjjacffacmpopaaDoor
open Go.RowKit UM QM LX

def Tabs (w : World) : Prop := Sh w ∧ Sg w ∧ Wd w
set_option maxRecDepth 100000 in
set_option maxHeartbeats 4000000 in
theorem lexNames_walk {s : ByteArray} (w : World) (ht : Tabs w) (hs : s.size ≤ 140737488351232) : Calls Tryd.prog 3 #[.string s] w fun r w' => r = .returned (.bool true) ∧ Below w.heap.size w w' := by
  have X := Lib.hid (xshown_any w ht.1 ht.2.1)
  have N1 := Lib.hid (fun w => Name_any s w hs)
  have N2 := Lib.hid (fun w => rName_any s w hs)
  have W1 := Lib.hid (fun w h => Word_any s w h)
  have W2 := Lib.hid (fun w => rWord_any s w)
  generalize nmW (bl s) = a at *
  generalize wdF (bl s) = b at *
  have HWd := Lib.hid ht.2.2
  clear ht
  go_enter Tryd.func3, Tryd.ntmps3
  go_wp2_with fail
  refine X.out.mono ?_
  rintro r w1 ⟨rfl, hg⟩
  have G1 := Lib.hid hg
  clear hg X
  go_wp2_with fail
  refine (N1.out w1).mono ?_
  rintro r w2 ⟨rfl, rfl⟩
  go_wp2_with fail
  refine (N2.out w1).mono ?_
  rintro r w2 ⟨rfl, rfl⟩
  have t1 : (a == a) = true := by simp
  go_wp2_with fail
  refine (W1.out w1 (HWd.out.below G1.out.1)).mono ?_
  rintro r w2 ⟨rfl, rfl⟩
  go_wp2_with fail
  refine (W2.out w1).mono ?_
  rintro r w2 ⟨rfl, hb⟩
  have G2 := Lib.hid (G1.out.next hb)
  clear hb
  have t2 : (b == b) = true := by simp
  go_wp2
  go_ret
  exact ⟨rfl, G2.out.1⟩
end Go.Proofs.YtjjacffacmpopaaDoor
