/- Walk of the law UtfCleans. -/
import Derived.Test.YtmkmaignfcjjkaaDoorUtfL
namespace Go.Proofs.YtmkmaignfcjjkaaDoor
open Go.RowKit UM

set_option maxRecDepth 20000 in
theorem cleans_walk {s : ByteArray} (w : World) (ht : Sh w) (hs : s.data.toList.length ≤ 1048576) : Calls Tryd.prog 5 #[.string s] w fun r w' => r = .returned (.bool true) ∧ Below w.heap.size w w' := by
  have hz : s.size ≤ 17592186040000 := by
    rw [Array.length_toList] at hs
    exact Nat.le_trans hs (by decide)
  have hX := fun W => Explode_any s W hz
  have hRX := fun W => RExplode_any s W hz
  have hV := fun W h => Valid_any s W (by omega) h
  have hRV := fun W => RValid_any s W (by omega)
  have hC := fun W h => Clean_any s W hz h
  have hRC := fun W => RClean_any s W hz
  unfold ResV at hV hRV
  unfold ResT at hC hRC
  have hl := xp_le (bl s)
  rw [bl_len] at hl
  have hSm := fun a1 a2 c1 c2 W r1 r2 => RSame_eq a1 a2 c1 c2 (xp (bl s)) W (by omega) r1 r2
  generalize tx (encL (xp (bl s))) = t at *
  generalize vd (bl s) = m at *
  generalize xp (bl s) = ps at *
  have HX := Lib.hid hX; have HRX := Lib.hid hRX; have HV := Lib.hid hV; have HRV := Lib.hid hRV; have HC := Lib.hid hC; have HRC := Lib.hid hRC; have HSM := Lib.hid hSm
  clear hX hRX hV hRV hC hRC hSm hs hz hl
  have HT := Lib.hid ht
  clear ht
  go_enter Tryd.func5, Tryd.ntmps5
  go_wp2_with fail
  refine (shown_any _ HT.out).mono ?_
  rintro r w1 ⟨rfl, hb1⟩
  have HT1 := Lib.hid (HT.out.below hb1); have B1 := Lib.hid hb1
  clear hb1
  go_wp2_with fail
  refine (HX.out _).mono ?_
  rintro r w2 ⟨a1, c1, rfl, ho, hb⟩
  have R1 := Lib.hid ho.rd
  have HT2 := Lib.hid (HT1.out.below hb); have B2 := Lib.hid (B1.out.trans (hb.mono B1.out.size))
  clear hb ho
  go_wp2_with fail
  refine (HRX.out _).mono ?_
  rintro r w3 ⟨a2, c2, rfl, ho, hb⟩
  have R2 := Lib.hid ho.rd; have R3 := Lib.hid (R1.out.below hb)
  have HT3 := Lib.hid (HT2.out.below hb); have B3 := Lib.hid (B2.out.trans (hb.mono B2.out.size))
  clear hb ho
  go_wp2_with fail
  refine (HSM.out _ _ _ _ _ R3.out R2.out).mono ?_
  rintro r w4 ⟨rfl, hb⟩
  have HT4 := Lib.hid (HT3.out.below hb); have B4 := Lib.hid (B3.out.trans (hb.mono B3.out.size))
  clear hb
  go_wp2_with fail
  refine (HV.out _ HT4.out).mono ?_
  rintro r w5 ⟨rfl, hb⟩
  have HT5 := Lib.hid (HT4.out.below hb); have B5 := Lib.hid (B4.out.trans (hb.mono B4.out.size))
  clear hb
  go_wp2_with fail
  refine (HRV.out _).mono ?_
  rintro r w6 ⟨rfl, hb⟩
  have HT6 := Lib.hid (HT5.out.below hb); have B6 := Lib.hid (B5.out.trans (hb.mono B5.out.size))
  clear hb
  go_wp2_with fail
  refine (HC.out _ HT6.out).mono ?_
  rintro r w7 ⟨rfl, hb⟩
  have HT7 := Lib.hid (HT6.out.below hb); have B7 := Lib.hid (B6.out.trans (hb.mono B6.out.size))
  clear hb
  go_wp2_with fail
  refine (HRC.out _).mono ?_
  rintro r w8 ⟨rfl, hb⟩
  have HT8 := Lib.hid (HT7.out.below hb); have B8 := Lib.hid (B7.out.trans (hb.mono B7.out.size))
  clear hb
  go_wp2
  go_ret
  exact ⟨rfl, B8.out⟩
end Go.Proofs.YtmkmaignfcjjkaaDoor
