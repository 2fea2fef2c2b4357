/- Walk of the law UtfBack. -/
import Derived.Test.YtmkmaignfcjjkaaDoorUtfL
namespace Go.Proofs.YtmkmaignfcjjkaaDoor
open Go.RowKit UM

theorem RdI_of {w : World} {a : Option Addr} {ps : List Nat} (h : Rd w .i64 a ps) : RdI w a (ps.map (fun (p : Nat) => (p : Int))) := by
  intro j hj
  rw [List.length_map] at hj
  obtain ⟨b, off, e, hc⟩ := h j hj
  refine ⟨b, off, e, ?_⟩
  rw [hc]
  simp [hj]
theorem all_of {ps : List Nat} (h : ∀ p ∈ ps, Pt p) : allPt (ps.map (fun (p : Nat) => (p : Int))) = true := by
  unfold allPt
  rw [List.all_eq_true]
  intro x hx
  obtain ⟨p, hp, rfl⟩ := List.mem_map.1 hx
  rw [isPt_nat]; exact decide_eq_true (h p hp)
theorem toN_of (ps : List Nat) : toN (ps.map (fun (p : Nat) => (p : Int))) = ps := by
  unfold toN
  rw [List.map_map]
  conv => rhs; rw [← List.map_id ps]
  exact List.map_congr_left fun x _ => Int.toNat_natCast x
/-- a sound text's own facts -/
theorem sound {ps : List Nat} (h : ∀ p ∈ ps, Pt p) : bl (tx (encL ps)) = encL ps ∧ xp (bl (tx (encL ps))) = ps ∧ vd (bl (tx (encL ps))) = (tx (encL ps)).size := by
  have h1 := bl_tx (encL_lo h)
  rw [h1, xp_enc h, vd_enc h, tx_size]
  exact ⟨rfl, rfl, rfl⟩
theorem txsize_le (ps : List Nat) : (tx (encL ps)).size ≤ 4 * ps.length := by rw [tx_size]; exact encL_len ps
set_option maxRecDepth 20000 in
theorem back_walk {s : ByteArray} {a : Option Addr} {n ca : Nat} (w : World) (ht : Sh w) (hs : s.data.toList.length ≤ 1048576) (hr : IsInts w a n) (hn2 : n ≤ 1048576) : Calls Tryd.prog 9 #[.string s, .slice a n ca] w fun r w' => r = .returned (.bool true) ∧ Below w.heap.size w w' := by
  have hz : s.size ≤ 1048576 := by
    rw [Array.length_toList] at hs
    exact hs
  obtain ⟨l, rfl, hrd⟩ := hr
  have hC := fun W h => Clean_any s W (by omega) h
  have hX := fun W => Explode_any s W (by omega)
  have hpt := xp_pts (bl s)
  have hpl := xp_le (bl s)
  rw [bl_len] at hpl
  generalize xp (bl s) = ps at *
  have hI := fun W a c hr h => Implode_any a c (ps.map (fun (p : Nat) => (p : Int))) W (by rw [List.length_map]; omega) (RdI_of hr) h
  unfold ResI at hI
  rw [all_of hpt, toN_of, List.length_map] at hI
  obtain ⟨q1, q2, q3⟩ := sound hpt
  have hsz := txsize_le ps
  have hV := fun W h => Valid_any (tx (encL ps)) W (by omega) h
  have hC2 := fun W h => Clean_any (tx (encL ps)) W (by omega) h
  rw [q2] at hC2
  unfold ResV at hV
  rw [q3] at hV
  unfold ResT at hC hC2
  have hI2 := fun W h hb => Implode_any a ca l W (by omega) (hrd.below (w' := W) hb) h
  unfold ResI at hI2
  simp only [if_true] at hI
  clear q1 q2 q3
  generalize tx (encL ps) = c at *
  rcases hal : allPt l with _ | _
  · simp only [hal, Bool.false_eq_true, if_false] at hI2
    have HC := Lib.hid hC; have HX := Lib.hid hX; have HI := Lib.hid hI; have HV := Lib.hid hV; have HC2 := Lib.hid hC2; have HI2 := Lib.hid hI2
    clear hC hX hI hV hC2 hI2 hpt hal hrd hs hsz hpl hn2 hz
    have HT := Lib.hid ht
    clear ht
    go_enter Tryd.func9, Tryd.ntmps9
    go_wp2_with fail
    refine (shown_any _ HT.out).mono ?_
    rintro r w1 ⟨rfl, hb1⟩
    have HT1 := Lib.hid (HT.out.below hb1); have B1 := Lib.hid hb1
    clear hb1
    go_wp2_with fail
    refine (HC.out _ HT1.out).mono ?_
    rintro r w2 ⟨rfl, hb⟩
    have HT2 := Lib.hid (HT1.out.below hb); have B2 := Lib.hid (B1.out.trans (hb.mono B1.out.size))
    clear hb
    go_wp2_with fail
    refine (HX.out _).mono ?_
    rintro r w3 ⟨a1, c1, rfl, ho, hb⟩
    have R1 := Lib.hid ho.rd
    have HT3 := Lib.hid (HT2.out.below hb); have B3 := Lib.hid (B2.out.trans (hb.mono B2.out.size))
    clear hb ho
    go_wp2_with fail
    refine (HI.out _ _ _ R1.out HT3.out).mono ?_
    rintro r w4 ⟨rfl, hb⟩
    have HT4 := Lib.hid (HT3.out.below hb); have B4 := Lib.hid (B3.out.trans (hb.mono B3.out.size))
    clear hb
    go_wp2_with fail
    refine (HI2.out _ HT4.out B4.out).mono ?_
    rintro r w5 ⟨rfl, hb⟩
    have HT5 := Lib.hid (HT4.out.below hb); have B5 := Lib.hid (B4.out.trans (hb.mono B4.out.size))
    clear hb
    go_wp2_with fail
    refine (HV.out _ HT5.out).mono ?_
    rintro r w6 ⟨rfl, hb⟩
    have HT6 := Lib.hid (HT5.out.below hb); have B6 := Lib.hid (B5.out.trans (hb.mono B5.out.size))
    clear hb
    go_wp2_with fail
    refine (HC2.out _ HT6.out).mono ?_
    rintro r w7 ⟨rfl, hb⟩
    have HT7 := Lib.hid (HT6.out.below hb); have B7 := Lib.hid (B6.out.trans (hb.mono B6.out.size))
    clear hb
    go_wp2
    go_ret
    exact ⟨rfl, B7.out⟩

  · simp only [hal, if_true] at hI2
    have hpt2 := toN_pts hal
    obtain ⟨q1, q2, q3⟩ := sound hpt2
    have hsz2 := txsize_le (toN l)
    have hln : (toN l).length = l.length := by unfold toN; rw [List.length_map]
    have hX2 := fun W => Explode_any (tx (encL (toN l))) W (by omega)
    have hV2 := fun W h => Valid_any (tx (encL (toN l))) W (by omega) h
    rw [q2] at hX2
    unfold ResV at hV2
    rw [q3] at hV2
    have hSm := fun a1 c1 W r1 hb => RSame_eq a1 a c1 ca (toN l) W (by omega) r1 ((hrd.toN hal).below (w' := W) hb)
    unfold ResX at hX2
    rw [hln] at hX2 hSm
    clear q1 q2 q3
    generalize tx (encL (toN l)) = t at *
    have HC := Lib.hid hC; have HX := Lib.hid hX; have HI := Lib.hid hI; have HV := Lib.hid hV; have HC2 := Lib.hid hC2; have HI2 := Lib.hid hI2; have HX2 := Lib.hid hX2; have HV2 := Lib.hid hV2; have HSM := Lib.hid hSm
    clear hC hX hI hV hC2 hI2 hX2 hV2 hSm hpt hpt2 hal hrd hs hsz hsz2 hpl hln hn2 hz
    have HT := Lib.hid ht
    clear ht
    go_enter Tryd.func9, Tryd.ntmps9
    go_wp2_with fail
    refine (shown_any _ HT.out).mono ?_
    rintro r w1 ⟨rfl, hb1⟩
    have HT1 := Lib.hid (HT.out.below hb1); have B1 := Lib.hid hb1
    clear hb1
    go_wp2_with fail
    refine (HC.out _ HT1.out).mono ?_
    rintro r w2 ⟨rfl, hb⟩
    have HT2 := Lib.hid (HT1.out.below hb); have B2 := Lib.hid (B1.out.trans (hb.mono B1.out.size))
    clear hb
    go_wp2_with fail
    refine (HX.out _).mono ?_
    rintro r w3 ⟨a1, c1, rfl, ho, hb⟩
    have R1 := Lib.hid ho.rd
    have HT3 := Lib.hid (HT2.out.below hb); have B3 := Lib.hid (B2.out.trans (hb.mono B2.out.size))
    clear hb ho
    go_wp2_with fail
    refine (HI.out _ _ _ R1.out HT3.out).mono ?_
    rintro r w4 ⟨rfl, hb⟩
    have HT4 := Lib.hid (HT3.out.below hb); have B4 := Lib.hid (B3.out.trans (hb.mono B3.out.size))
    clear hb
    go_wp2_with fail
    refine (HI2.out _ HT4.out B4.out).mono ?_
    rintro r w5 ⟨rfl, hb⟩
    have HT5 := Lib.hid (HT4.out.below hb); have B5 := Lib.hid (B4.out.trans (hb.mono B4.out.size))
    clear hb
    go_wp2_with fail
    refine (HV.out _ HT5.out).mono ?_
    rintro r w6 ⟨rfl, hb⟩
    have HT6 := Lib.hid (HT5.out.below hb); have B6 := Lib.hid (B5.out.trans (hb.mono B5.out.size))
    clear hb
    go_wp2_with fail
    refine (HC2.out _ HT6.out).mono ?_
    rintro r w7 ⟨rfl, hb⟩
    have HT7 := Lib.hid (HT6.out.below hb); have B7 := Lib.hid (B6.out.trans (hb.mono B6.out.size))
    clear hb
    go_wp2_with fail
    refine (HX2.out _).mono ?_
    rintro r w8 ⟨a2, c2, rfl, ho, hb⟩
    have R2 := Lib.hid ho.rd
    have HT8 := Lib.hid (HT7.out.below hb); have B8 := Lib.hid (B7.out.trans (hb.mono B7.out.size))
    clear hb ho
    go_wp2_with fail
    refine (HSM.out _ _ _ R2.out B8.out).mono ?_
    rintro r w9 ⟨rfl, hb⟩
    have HT9 := Lib.hid (HT8.out.below hb); have B9 := Lib.hid (B8.out.trans (hb.mono B8.out.size))
    clear hb
    go_wp2_with fail
    refine (HV2.out _ HT9.out).mono ?_
    rintro r w10 ⟨rfl, hb⟩
    have HT10 := Lib.hid (HT9.out.below hb); have B10 := Lib.hid (B9.out.trans (hb.mono B9.out.size))
    clear hb
    go_wp2
    go_ret
    exact ⟨rfl, B10.out⟩

end Go.Proofs.YtmkmaignfcjjkaaDoor
