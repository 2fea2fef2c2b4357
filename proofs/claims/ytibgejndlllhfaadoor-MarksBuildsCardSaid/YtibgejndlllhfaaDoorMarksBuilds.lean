/- The law MarksBuilds walked. -/
import Derived.Test.YtibgejndlllhfaaDoorMarR
namespace Go.Proofs.YtibgejndlllhfaaDoor
open Go.RowKit BM

set_option maxRecDepth 100000 in
set_option maxHeartbeats 2000000 in
theorem MarksBuilds_any (a : Option Addr) (cap : Nat) (l : List Nat) (w : World) (hT : Tb w) (hl : l.length ≤ 140737488351232) (hcap : l.length ≤ cap) (hr : Rd w .u8 a l) :
    Calls Tryd.prog 3 #[.slice a l.length cap] w fun e w' => e = .returned (.bool true) ∧ Below w.heap.size w w' := by
  have HT := Lib.hid hT
  have HR := Lib.hid hr
  clear hT hr
  go_enter Tryd.func3, Tryd.ntmps3
  go_wp2_with fail
  refine (shown_any _ HT.out).mono ?_
  rintro r w1 ⟨rfl, hb⟩
  have B1 := Lib.hid hb
  clear hb
  go_wp2_with fail
  refine (Build_any a cap l _ (by omega) hcap (HR.out.below B1.out)).mono ?_
  rintro r w2 ⟨a2, c2, rfl, ho, hb⟩
  have B2 := Lib.hid (B1.out.trans (hb.mono B1.out.size))
  have R2 := Lib.hid ho.rdM
  clear ho hb
  go_wp2_with fail
  refine (BuildR_any a cap l _ (by omega) hcap (HR.out.below B2.out)).mono ?_
  rintro r w3 ⟨a3, c3, rfl, ho, hb⟩
  have B3 := Lib.hid (B2.out.trans (hb.mono B2.out.size))
  have R3 := Lib.hid ho.rdM
  have R2' := Lib.hid (R2.out.below hb)
  have hnl : nw l.length ≤ 2600000000000 := by unfold nw; omega
  clear ho hb
  go_wp2_with fail
  refine (Same_any a2 a3 (nw l.length) c2 c3 (wds l (nw l.length)) l.length _ (wds_length _ _) hnl R2'.out R3.out).mono ?_
  rintro r w4 ⟨rfl, hb⟩
  have B4 := Lib.hid (B3.out.trans (hb.mono B3.out.size))
  clear hb
  go_wp2
  go_ret
  exact ⟨by simp, B4.out⟩
end Go.Proofs.YtibgejndlllhfaaDoor
