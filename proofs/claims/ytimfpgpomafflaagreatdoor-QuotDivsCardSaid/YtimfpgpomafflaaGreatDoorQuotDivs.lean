/- Walk of the law QuotDivs. -/
import Derived.Test.YtimfpgpomafflaaGreatDoorQuotYms
import Derived.Test.YtimfpgpomafflaaGreatDoorQuotT
namespace Go.Proofs.YtimfpgpomafflaaGreatDoor
open Go.RowKit LM

theorem tellA_in (s : Bool) (v : Nat) (e : Int) : inR (tellA s v e).p = true := by
  unfold tellA
  by_cases h : inR (pl s v e) = true
  · rw [if_pos h]; exact h
  · rw [if_neg h]; exact zP_in
theorem divA_in (A B : Ans) : inR (divA A B).p = true := by
  unfold divA divV
  split
  · split
    · exact zP_in
    · split
      · exact zP_in
      · exact tellA_in _ _ _
  · exact zP_in
set_option maxHeartbeats 16000000 in
set_option maxRecDepth 20000 in
theorem divs_main (s1 s2 : Bool) (a1 a2 : Option Addr) (c1 c2 : Nat) (l1 l2 : List Nat) (e1 e2 : Int) (w : World) (h1 : l1.length ≤ 9223372036854775807) (h2 : l2.length ≤ 9223372036854775807) (hlo1 : Lo 4294967296 l1) (hlo2 : Lo 4294967296 l2) (hr1 : Rd w .u32 a1 l1) (hr2 : Rd w .u32 a2 l2) (htab : Tab w)  :
    Calls Tryz.prog 3 #[.agg #[.bool s1, .slice a1 l1.length c1, .int .i64 e1], .agg #[.bool s2, .slice a2 l2.length c2, .int .i64 e2]] w fun r w' => r = .returned (.bool true) ∧ Below w.heap.size w w' := by
  have hS := fun W (hb : Below w.heap.size w W) => shown_any W (htab.below hb)
  have hR := fun W (hb : Below w.heap.size w W) => Div_any s1 s2 a1 a2 c1 c2 l1 l2 e1 e2 W h1 h2 hlo1 hlo2 (hr1.below' (w' := W) hb (Nat.le_refl _)) (hr2.below' (w' := W) hb (Nat.le_refl _)) (htab.below hb)
  have hD := fun W (hb : Below w.heap.size w W) => RDiv3_any s1 s2 a1 a2 c1 c2 l1 l2 e1 e2 W h1 h2 hlo1 hlo2 (hr1.below' (w' := W) hb (Nat.le_refl _)) (hr2.below' (w' := W) hb (Nat.le_refl _))
  have iR := divA_in (normA l1.length s1 (vl 1000000000 l1) e1) (normA l2.length s2 (vl 1000000000 l2) e2)
  generalize divA (normA l1.length s1 (vl 1000000000 l1) e1) (normA l2.length s2 (vl 1000000000 l2) e2) = R at *
  have s := fun x y c d W q1 q2 => cSamePP iR iR x y c d W q1 q2
  rw [decide_eq_true rfl] at s
  have HS := Lib.hid hS; have HR := Lib.hid hR; have HD := Lib.hid hD; have HQ := Lib.hid s
  have t0 : ((R.err : Int) == (R.err : Int)) = true := by simp
  clear hS hR hD s iR htab hr1 hr2 hlo1 hlo2
  go_enter Tryz.func3, Tryz.ntmps3
  have b1 := (((Below.refl w.heap.size w).alloc (Nat.le_refl _) (.cells #[.bool s1, .slice a1 l1.length c1, .int .i64 e1] 24)).alloc (by simp) (.cells #[.bool s2, .slice a2 l2.length c2, .int .i64 e2] 24))
  have X_a := (Qx.below (Qx.new w (.bool s1) (.slice a1 l1.length c1) (.int .i64 e1) 24) ((Below.refl _ _).alloc (Nat.le_refl _) (.cells #[.bool s2, .slice a2 l2.length c2, .int .i64 e2] 24)))
  have F_a := (Qf.below (Qf.new w (.bool s1) (.slice a1 l1.length c1) (.int .i64 e1) 24) (Qx.lt (Qx.new w (.bool s1) (.slice a1 l1.length c1) (.int .i64 e1) 24)) ((Below.refl _ _).alloc (Nat.le_refl _) (.cells #[.bool s2, .slice a2 l2.length c2, .int .i64 e2] 24)))
  have X_b := (Qx.new (w.alloc (.cells #[.bool s1, .slice a1 l1.length c1, .int .i64 e1] 24)) (.bool s2) (.slice a2 l2.length c2) (.int .i64 e2) 24)
  have F_b := (Qf.new (w.alloc (.cells #[.bool s1, .slice a1 l1.length c1, .int .i64 e1] 24)) (.bool s2) (.slice a2 l2.length c2) (.int .i64 e2) 24)
  have z : (w.alloc (.cells #[.bool s1, .slice a1 l1.length c1, .int .i64 e1] 24)).heap.size = w.heap.size + 1 := by simp
  rw [z] at X_b F_b
  clear z
  go_wp2_with fail
  refine (HS.out _ b1).mono ?_
  rintro r w2 ⟨rfl, hc⟩
  have b2 := b1.trans (hc.mono b1.size)
  replace F_a := Qf.below F_a (Qx.lt X_a) hc
  replace X_a := Qx.below X_a hc
  replace F_b := Qf.below F_b (Qx.lt X_b) hc
  replace X_b := Qx.below X_b hc
  clear hc b1
  obtain ⟨ka0, ka1, ka2⟩ := X_a.out
  obtain ⟨kb0, kb1, kb2⟩ := X_b.out
  go_wp2_with fail
  clear ka0 ka1 ka2 kb0 kb1 kb2
  refine (HR.out _ b2).mono ?_
  rintro r w3 ⟨xx, yx, rfl, ho, hc⟩
  have b3 := b2.trans (hc.mono b2.size)
  replace F_a := Qf.below F_a (Qx.lt X_a) hc
  replace X_a := Qx.below X_a hc
  replace F_b := Qf.below F_b (Qx.lt X_b) hc
  replace X_b := Qx.below X_b hc
  clear hc b2
  have R_x := Lib.hid ho
  clear ho
  have z_x := b3.size
  have hd := (Below.refl w3.heap.size w3).alloc (Nat.le_refl _) (.cells #[.bool R.p.neg, .slice xx (dg 1000000000 R.p.m).length yx, .int .i64 R.p.e] 24)
  have b4 := b3.trans (hd.mono b3.size)
  have l_a_x := Qx.lt X_a
  have m_a_x := not_eq_lt l_a_x
  have m_x_a := not_eq_gt l_a_x
  clear l_a_x
  have l_b_x := Qx.lt X_b
  have m_b_x := not_eq_lt l_b_x
  have m_x_b := not_eq_gt l_b_x
  clear l_b_x
  replace F_a := Qf.below F_a (Qx.lt X_a) hd
  replace X_a := Qx.below X_a hd
  replace F_b := Qf.below F_b (Qx.lt X_b) hd
  replace X_b := Qx.below X_b hd
  replace R_x := Lib.hid (R_x.out.below hd)
  have X_x := Qx.new w3 (.bool R.p.neg) (.slice xx (dg 1000000000 R.p.m).length yx) (.int .i64 R.p.e) 24
  have F_x := Qf.new w3 (.bool R.p.neg) (.slice xx (dg 1000000000 R.p.m).length yx) (.int .i64 R.p.e) 24
  clear hd b3
  obtain ⟨ka0, ka1, ka2⟩ := X_a.out
  obtain ⟨kb0, kb1, kb2⟩ := X_b.out
  go_wp2_with fail
  clear ka0 ka1 ka2 kb0 kb1 kb2
  refine (HD.out _ b4).mono ?_
  rintro r w5 ⟨xy, yy, rfl, ho, hc⟩
  have b5 := b4.trans (hc.mono b4.size)
  replace F_a := Qf.below F_a (Qx.lt X_a) hc
  replace X_a := Qx.below X_a hc
  replace F_b := Qf.below F_b (Qx.lt X_b) hc
  replace X_b := Qx.below X_b hc
  replace F_x := Qf.below F_x (Qx.lt X_x) hc
  replace X_x := Qx.below X_x hc
  replace R_x := Lib.hid (R_x.out.below hc)
  clear hc b4
  have R_y := Lib.hid ho
  clear ho
  have z_y := b5.size
  have hd := (Below.refl w5.heap.size w5).alloc (Nat.le_refl _) (.cells #[.bool R.p.neg, .slice xy (dg 1000000000 R.p.m).length yy, .int .i64 R.p.e] 24)
  have b6 := b5.trans (hd.mono b5.size)
  have l_a_y := Qx.lt X_a
  have m_a_y := not_eq_lt l_a_y
  have m_y_a := not_eq_gt l_a_y
  clear l_a_y
  have l_b_y := Qx.lt X_b
  have m_b_y := not_eq_lt l_b_y
  have m_y_b := not_eq_gt l_b_y
  clear l_b_y
  have l_x_y := Qx.lt X_x
  have m_x_y := not_eq_lt l_x_y
  have m_y_x := not_eq_gt l_x_y
  clear l_x_y
  replace F_a := Qf.below F_a (Qx.lt X_a) hd
  replace X_a := Qx.below X_a hd
  replace F_b := Qf.below F_b (Qx.lt X_b) hd
  replace X_b := Qx.below X_b hd
  replace F_x := Qf.below F_x (Qx.lt X_x) hd
  replace X_x := Qx.below X_x hd
  replace R_x := Lib.hid (R_x.out.below hd)
  replace R_y := Lib.hid (R_y.out.below hd)
  have X_y := Qx.new w5 (.bool R.p.neg) (.slice xy (dg 1000000000 R.p.m).length yy) (.int .i64 R.p.e) 24
  have F_y := Qf.new w5 (.bool R.p.neg) (.slice xy (dg 1000000000 R.p.m).length yy) (.int .i64 R.p.e) 24
  clear hd b5
  clear X_a F_a
  clear X_b F_b
  obtain ⟨kx0, kx1, kx2⟩ := X_x.out
  obtain ⟨ky0, ky1, ky2⟩ := X_y.out
  go_wp2_with fail
  clear kx0 kx1 kx2 ky0 ky1 ky2
  refine (HQ.out _ _ _ _ _ R_x.out R_y.out).mono ?_
  rintro r w7 ⟨rfl, hc⟩
  have b7 := b6.trans (hc.mono b6.size)
  replace F_x := Qf.below F_x (Qx.lt X_x) hc
  replace X_x := Qx.below X_x hc
  replace F_y := Qf.below F_y (Qx.lt X_y) hc
  replace X_y := Qx.below X_y hc
  replace R_x := Lib.hid (R_x.out.below hc)
  replace R_y := Lib.hid (R_y.out.below hc)
  clear hc b6
  clear X_x F_x
  clear R_x
  clear X_y F_y
  clear R_y
  have B_ := Lib.hid b7
  clear b7
  go_wp2
  go_ret
  exact ⟨rfl, B_.out⟩
theorem divs_walk {s1 s2 : Bool} {a1 a2 : Option Addr} {n1 n2 ca1 ca2 : Nat} {e1 e2 : Int} (w : World) (htab : Tab w) (ha : IsRow w a1 n1 ca1) (_ : (Lit.int .i64 e1).wf = true) (hb : IsRow w a2 n2 ca2) (_ : (Lit.int .i64 e2).wf = true) :
    Calls Tryz.prog 3 #[.agg #[.bool s1, .slice a1 n1 ca1, .int .i64 e1], .agg #[.bool s2, .slice a2 n2 ca2, .int .i64 e2]] w fun r w' => r = .returned (.bool true) ∧ Below w.heap.size w w' := by
  obtain ⟨l1, rfl, lo1, rd1, hm1⟩ := ha
  obtain ⟨l2, rfl, lo2, rd2, hm2⟩ := hb
  unfold maxLen at hm1 hm2
  exact divs_main s1 s2 a1 a2 ca1 ca2 l1 l2 e1 e2 w (by omega) (by omega) lo1 lo2 rd1 rd2 htab
end Go.Proofs.YtimfpgpomafflaaGreatDoor
