/- The law MarksPlaces walked. -/
import Derived.Test.YtibgejndlllhfaaDoorMarP
namespace Go.Proofs.YtibgejndlllhfaaDoor
open Go.RowKit BM

set_option maxRecDepth 100000 in
set_option maxHeartbeats 2000000 in
theorem MarksPlaces_any (a : Option Addr) (cap : Nat) (l : List Nat) (w : World) (hT : Tb w) (hl : l.length ≤ 1048576) (hcap : l.length ≤ cap) (hr : Rd w .u8 a l) :
    Calls Tryd.prog 5 #[.slice a l.length cap] w fun e w' => e = .returned (.bool true) ∧ Below w.heap.size w w' := by
  have HT := Lib.hid hT
  have HR := Lib.hid hr
  clear hT hr
  go_enter Tryd.func5, Tryd.ntmps5
  go_wp2_with fail
  refine (shown_any _ HT.out).mono ?_
  rintro r w1 ⟨rfl, hb⟩
  have B1 := Lib.hid hb
  clear hb
  go_wp2_with fail
  refine (Marks_any a cap l _ (HT.out.below B1.out) (by omega) hcap (HR.out.below B1.out)).mono ?_
  rintro r w2 ⟨a2, c2, rfl, ho, hb⟩
  have B2 := Lib.hid (B1.out.trans (hb.mono B1.out.size))
  have HO2 := Lib.hid ho
  clear ho hb
  go_wp2_with fail
  refine (MarksR_any a cap l _ (by omega) hcap (HR.out.below B2.out)).mono ?_
  rintro r w3 ⟨a3, c3, rfl, ho, hb⟩
  have B3 := Lib.hid (B2.out.trans (hb.mono B2.out.size))
  have HO3 := Lib.hid ho
  have HO2' := Lib.hid (HO2.out.below hb)
  clear ho hb HO2
  have hml := mkL_le l l.length
  obtain ⟨L, hL⟩ : ∃ L, mkL l l.length = L := ⟨_, rfl⟩
  rw [hL] at HO3 HO2' hml ⊢
  clear hL
  go_wp2_with fail
  go_loopw [6] (fun s6 wr => ∃ i : Nat, i ≤ L.length ∧ s6 = .int .i64 i ∧ Hid (Below w3.heap.size w3 wr)) (fun s6 _ => L.length - (intOf s6).toNat)
  case atStart => exact ⟨0, by omega, rfl, Lib.hid (Below.refl _ _)⟩
  case round =>
    obtain ⟨i, hi, rfl, BR⟩ := hrel
    by_cases hlt : i < L.length
    · obtain ⟨g2, rfl⟩ : ∃ g, a2 = some ⟨g, 0, none⟩ := by
        rcases HO2'.out.shape with ⟨_, _, h, _⟩ | ⟨g, cur, h, _⟩
        · omega
        · exact ⟨g, h⟩
      obtain ⟨g3, rfl⟩ : ∃ g, a3 = some ⟨g, 0, none⟩ := by
        rcases HO3.out.shape with ⟨_, _, h, _⟩ | ⟨g, cur, h, _⟩
        · omega
        · exact ⟨g, h⟩
      obtain ⟨x, hx⟩ : ∃ x, L[i]? = some x := ⟨_, List.getElem?_eq_getElem hlt⟩
      obtain ⟨e1, e2⟩ := mkc_get hx
      have k2 := (HO2'.out.below BR.out).cellAt e1
      have k3 := (HO2'.out.below BR.out).cellAt e2
      have k4 := (HO3.out.below BR.out).cellAt e1
      have k5 := (HO3.out.below BR.out).cellAt e2
      clear e1 e2 hx
      have hlt2 : (i : Int) < L.length := by omega
      have hi0 : (0 : Int) ≤ i := by omega
      have hin : (i : Int) + 1 ≤ 9223372036854775807 := by omega
      go_upto_region 9 with (fail)
      go_quiet (fail)
      have BR2 : Hid (Below w3.heap.size w3 (wr.drewN nq)) := Lib.hid (bdN BR.out nq)
      clear k2 k3 k4 k5
      generalize wr.drewN nq = w5 at *
      go_wp2
      go_roundw
      case rel => exact ⟨i + 1, by omega, by go_num, BR2⟩
      case measure => simp [intOf]; omega
    · go_wp2
      go_ret
      exact ⟨rfl, B3.out.trans (BR.out.mono B3.out.size)⟩
end Go.Proofs.YtibgejndlllhfaaDoor
