/- Walk of the law DecSums. -/
import Derived.Test.YtofeckdhhaoobaaDoorDecU
import Derived.Test.YtofeckdhhaoobaaDoorDecL
import Derived.Test.YtofeckdhhaoobaaDoorDecSms
namespace Go.Proofs.YtofeckdhhaoobaaDoor
open Go.RowKit LM

theorem sameB_self5 (s : Bool) (e : Int) (l : List Nat) : sameB s s e e l l = true := by simp [sameB]
theorem addA_in (A B : Ans) : inR (addA A B).p = true := by
  unfold addA
  split
  · unfold addV
    split
    · exact tellA_in _ _ _
    · split <;> exact tellA_in _ _ _
  · exact zP_in
theorem mulA_in (A B : Ans) : inR (mulA A B).p = true := by
  unfold mulA
  split
  · exact tellA_in _ _ _
  · exact zP_in
theorem inR_len {p : Pl} (h : inR p = true) : (dg 1000000000 p.m).length ≤ 9223372036854775807 := by
  have := (inR_bounds h).1
  have h2 := dg_len_9 p.m
  unfold dl at this; omega

set_option maxHeartbeats 16000000 in
set_option maxRecDepth 20000 in
theorem sums2_main (s1 s2 : Bool) (a1 a2 : Option Addr) (c1 c2 : Nat) (l1 l2 : List Nat) (e1 e2 : Int) (w : World) (h1 : l1.length ≤ 9223372036854775807) (h2 : l2.length ≤ 9223372036854775807) (hlo1 : Lo 4294967296 l1) (hlo2 : Lo 4294967296 l2) (hr1 : Rd w .u32 a1 l1) (hr2 : Rd w .u32 a2 l2) (htab : Tab w) :
    Calls Tryd.prog 8 #[.agg #[.bool s1, .slice a1 l1.length c1, .int .i64 e1], .agg #[.bool s2, .slice a2 l2.length c2, .int .i64 e2]] w fun r w' => r = .returned (.bool true) ∧ Below w.heap.size w w' := by
  have hD := fun W hb => DAdd_any s1 s2 a1 a2 c1 c2 l1 l2 e1 e2 W h1 h2 hlo1 hlo2 (hr1.below' (w' := W) hb (Nat.le_refl _)) (hr2.below' hb (Nat.le_refl _)) (htab.below hb)
  have hR := fun W hb => RAddD_any s1 s2 a1 a2 c1 c2 l1 l2 e1 e2 W h1 h2 hlo1 hlo2 (hr1.below' (w' := W) hb (Nat.le_refl _)) (hr2.below' hb (Nat.le_refl _))
  have hM := fun W hb => DMul_any s1 s2 a1 a2 c1 c2 l1 l2 e1 e2 W h1 h2 hlo1 hlo2 (hr1.below' (w' := W) hb (Nat.le_refl _)) (hr2.below' hb (Nat.le_refl _)) (htab.below hb)
  have hN := fun W hb => RMulD_any s1 s2 a1 a2 c1 c2 l1 l2 e1 e2 W h1 h2 hlo1 hlo2 (hr1.below' (w' := W) hb (Nat.le_refl _)) (hr2.below' hb (Nat.le_refl _))
  have i1 := inR_len (addA_in (normA l1.length s1 (vl 1000000000 l1) e1) (normA l2.length s2 (vl 1000000000 l2) e2))
  have i2 := inR_len (mulA_in (normA l1.length s1 (vl 1000000000 l1) e1) (normA l2.length s2 (vl 1000000000 l2) e2))
  generalize addA (normA l1.length s1 (vl 1000000000 l1) e1) (normA l2.length s2 (vl 1000000000 l2) e2) = R at *
  generalize mulA (normA l1.length s1 (vl 1000000000 l1) e1) (normA l2.length s2 (vl 1000000000 l2) e2) = M at *
  have hS := fun a3 a4 c3 c4 W r1 r2 => sameD_any R.p.neg R.p.neg a3 a4 c3 c4 _ _ R.p.e R.p.e W i1 i1 r1 r2
  have hS2 := fun a3 a4 c3 c4 W r1 r2 => sameD_any M.p.neg M.p.neg a3 a4 c3 c4 _ _ M.p.e M.p.e W i2 i2 r1 r2
  rw [sameB_self5] at hS hS2
  have HD := Lib.hid hD; have HR := Lib.hid hR; have HN := Lib.hid hN; have HM := Lib.hid hM; have HS := Lib.hid hS; have HS2 := Lib.hid hS2; have HTAB := Lib.hid htab
  clear hD hR hN hM hS hS2 i1 i2 hlo1 hlo2 hr1 hr2 htab
  go_enter Tryd.func8, Tryd.ntmps8
  have hb0 := ((Below.refl w.heap.size w).alloc (Nat.le_refl _) (.cells #[.bool s1, .slice a1 l1.length c1, .int .i64 e1] 24)).alloc (by simp) (.cells #[.bool s2, .slice a2 l2.length c2, .int .i64 e2] 24)
  have A0_0 : ((w.alloc (.cells #[.bool s1, .slice a1 l1.length c1, .int .i64 e1] 24)).alloc (.cells #[.bool s2, .slice a2 l2.length c2, .int .i64 e2] 24)).cell? ⟨w.heap.size, 0, none⟩ = some (.bool s1) := by simp
  have A0_1 : ((w.alloc (.cells #[.bool s1, .slice a1 l1.length c1, .int .i64 e1] 24)).alloc (.cells #[.bool s2, .slice a2 l2.length c2, .int .i64 e2] 24)).cell? ⟨w.heap.size, 1, none⟩ = some (.slice a1 l1.length c1) := by simp
  have A0_2 : ((w.alloc (.cells #[.bool s1, .slice a1 l1.length c1, .int .i64 e1] 24)).alloc (.cells #[.bool s2, .slice a2 l2.length c2, .int .i64 e2] 24)).cell? ⟨w.heap.size, 2, none⟩ = some (.int .i64 e1) := by simp
  have A0_3 : ((w.alloc (.cells #[.bool s1, .slice a1 l1.length c1, .int .i64 e1] 24)).alloc (.cells #[.bool s2, .slice a2 l2.length c2, .int .i64 e2] 24)).cell? ⟨w.heap.size + 1, 0, none⟩ = some (.bool s2) := by simp
  have A0_4 : ((w.alloc (.cells #[.bool s1, .slice a1 l1.length c1, .int .i64 e1] 24)).alloc (.cells #[.bool s2, .slice a2 l2.length c2, .int .i64 e2] 24)).cell? ⟨w.heap.size + 1, 1, none⟩ = some (.slice a2 l2.length c2) := by simp
  have A0_5 : ((w.alloc (.cells #[.bool s1, .slice a1 l1.length c1, .int .i64 e1] 24)).alloc (.cells #[.bool s2, .slice a2 l2.length c2, .int .i64 e2] 24)).cell? ⟨w.heap.size + 1, 2, none⟩ = some (.int .i64 e2) := by simp
  go_wp2_with fail
  refine (shown_any _ (HTAB.out.below hb0)).mono ?_
  rintro r w1 ⟨rfl, hb1⟩
  have b1 := hb0.trans (hb1.mono hb0.size)
  have A1_0 := cellB A0_0 hb1
  have A1_1 := cellB A0_1 hb1
  have A1_2 := cellB A0_2 hb1
  have A1_3 := cellB A0_3 hb1
  have A1_4 := cellB A0_4 hb1
  have A1_5 := cellB A0_5 hb1
  clear hb0 hb1 A0_0 A0_1 A0_2 A0_3 A0_4 A0_5
  go_wp2_with fail
  refine (HD.out _ b1).mono ?_
  rintro r w2 ⟨x0, y0, rfl, ho0, hc0⟩
  have hd0 := (Below.refl w2.heap.size w2).alloc (Nat.le_refl _) (.cells #[.bool R.p.neg, .slice x0 (dg 1000000000 R.p.m).length y0, .int .i64 R.p.e] 24)
  have hcd0 := hc0.trans (hd0.mono hc0.size)
  have b2 := b1.trans (hcd0.mono b1.size)
  have A2_0 := cellB A1_0 hcd0
  have A2_1 := cellB A1_1 hcd0
  have A2_2 := cellB A1_2 hcd0
  have A2_3 := cellB A1_3 hcd0
  have A2_4 := cellB A1_4 hcd0
  have A2_5 := cellB A1_5 hcd0
  have rd0 := ho0.rd.below hd0
  have N0_0 : (w2.alloc (.cells #[.bool R.p.neg, .slice x0 (dg 1000000000 R.p.m).length y0, .int .i64 R.p.e] 24)).cell? ⟨w2.heap.size, 0, none⟩ = some (.bool R.p.neg) := by simp
  have N0_1 : (w2.alloc (.cells #[.bool R.p.neg, .slice x0 (dg 1000000000 R.p.m).length y0, .int .i64 R.p.e] 24)).cell? ⟨w2.heap.size, 1, none⟩ = some (.slice x0 (dg 1000000000 R.p.m).length y0) := by simp
  have N0_2 : (w2.alloc (.cells #[.bool R.p.neg, .slice x0 (dg 1000000000 R.p.m).length y0, .int .i64 R.p.e] 24)).cell? ⟨w2.heap.size, 2, none⟩ = some (.int .i64 R.p.e) := by simp
  clear hc0 hd0 hcd0 ho0 b1 A1_0 A1_1 A1_2 A1_3 A1_4 A1_5 
  go_wp2_with fail
  refine (HR.out _ b2).mono ?_
  rintro r w3 ⟨x1, y1, rfl, ho1, hc1⟩
  have hd1 := (Below.refl w3.heap.size w3).alloc (Nat.le_refl _) (.cells #[.bool R.p.neg, .slice x1 (dg 1000000000 R.p.m).length y1, .int .i64 R.p.e] 24)
  have hcd1 := hc1.trans (hd1.mono hc1.size)
  have b3 := b2.trans (hcd1.mono b2.size)
  have A3_0 := cellB A2_0 hcd1
  have A3_1 := cellB A2_1 hcd1
  have A3_2 := cellB A2_2 hcd1
  have A3_3 := cellB A2_3 hcd1
  have A3_4 := cellB A2_4 hcd1
  have A3_5 := cellB A2_5 hcd1
  have A3_6 := cellB N0_0 hcd1
  have A3_7 := cellB N0_1 hcd1
  have A3_8 := cellB N0_2 hcd1
  have rd0_ := rd0.below hcd1
  have rd1 := ho1.rd.below hd1
  have N1_0 : (w3.alloc (.cells #[.bool R.p.neg, .slice x1 (dg 1000000000 R.p.m).length y1, .int .i64 R.p.e] 24)).cell? ⟨w3.heap.size, 0, none⟩ = some (.bool R.p.neg) := by simp
  have N1_1 : (w3.alloc (.cells #[.bool R.p.neg, .slice x1 (dg 1000000000 R.p.m).length y1, .int .i64 R.p.e] 24)).cell? ⟨w3.heap.size, 1, none⟩ = some (.slice x1 (dg 1000000000 R.p.m).length y1) := by simp
  have N1_2 : (w3.alloc (.cells #[.bool R.p.neg, .slice x1 (dg 1000000000 R.p.m).length y1, .int .i64 R.p.e] 24)).cell? ⟨w3.heap.size, 2, none⟩ = some (.int .i64 R.p.e) := by simp
  clear hc1 hd1 hcd1 ho1 b2 A2_0 A2_1 A2_2 A2_3 A2_4 A2_5 N0_0 N0_1 N0_2 rd0
  go_wp2_with fail
  refine (HM.out _ b3).mono ?_
  rintro r w4 ⟨x2, y2, rfl, ho2, hc2⟩
  have hd2 := (Below.refl w4.heap.size w4).alloc (Nat.le_refl _) (.cells #[.bool M.p.neg, .slice x2 (dg 1000000000 M.p.m).length y2, .int .i64 M.p.e] 24)
  have hcd2 := hc2.trans (hd2.mono hc2.size)
  have b4 := b3.trans (hcd2.mono b3.size)
  have A4_0 := cellB A3_0 hcd2
  have A4_1 := cellB A3_1 hcd2
  have A4_2 := cellB A3_2 hcd2
  have A4_3 := cellB A3_3 hcd2
  have A4_4 := cellB A3_4 hcd2
  have A4_5 := cellB A3_5 hcd2
  have A4_6 := cellB A3_6 hcd2
  have A4_7 := cellB A3_7 hcd2
  have A4_8 := cellB A3_8 hcd2
  have A4_9 := cellB N1_0 hcd2
  have A4_10 := cellB N1_1 hcd2
  have A4_11 := cellB N1_2 hcd2
  have rd0__ := rd0_.below hcd2
  have rd1_ := rd1.below hcd2
  have rd2 := ho2.rd.below hd2
  have N2_0 : (w4.alloc (.cells #[.bool M.p.neg, .slice x2 (dg 1000000000 M.p.m).length y2, .int .i64 M.p.e] 24)).cell? ⟨w4.heap.size, 0, none⟩ = some (.bool M.p.neg) := by simp
  have N2_1 : (w4.alloc (.cells #[.bool M.p.neg, .slice x2 (dg 1000000000 M.p.m).length y2, .int .i64 M.p.e] 24)).cell? ⟨w4.heap.size, 1, none⟩ = some (.slice x2 (dg 1000000000 M.p.m).length y2) := by simp
  have N2_2 : (w4.alloc (.cells #[.bool M.p.neg, .slice x2 (dg 1000000000 M.p.m).length y2, .int .i64 M.p.e] 24)).cell? ⟨w4.heap.size, 2, none⟩ = some (.int .i64 M.p.e) := by simp
  clear hc2 hd2 hcd2 ho2 b3 A3_0 A3_1 A3_2 A3_3 A3_4 A3_5 A3_6 A3_7 A3_8 N1_0 N1_1 N1_2 rd0_ rd1
  go_wp2_with fail
  refine (HN.out _ b4).mono ?_
  rintro r w5 ⟨x3, y3, rfl, ho3, hc3⟩
  have hd3 := (Below.refl w5.heap.size w5).alloc (Nat.le_refl _) (.cells #[.bool M.p.neg, .slice x3 (dg 1000000000 M.p.m).length y3, .int .i64 M.p.e] 24)
  have hcd3 := hc3.trans (hd3.mono hc3.size)
  have b5 := b4.trans (hcd3.mono b4.size)
  have A5_0 := cellB A4_0 hcd3
  have A5_1 := cellB A4_1 hcd3
  have A5_2 := cellB A4_2 hcd3
  have A5_3 := cellB A4_3 hcd3
  have A5_4 := cellB A4_4 hcd3
  have A5_5 := cellB A4_5 hcd3
  have A5_6 := cellB A4_6 hcd3
  have A5_7 := cellB A4_7 hcd3
  have A5_8 := cellB A4_8 hcd3
  have A5_9 := cellB A4_9 hcd3
  have A5_10 := cellB A4_10 hcd3
  have A5_11 := cellB A4_11 hcd3
  have A5_12 := cellB N2_0 hcd3
  have A5_13 := cellB N2_1 hcd3
  have A5_14 := cellB N2_2 hcd3
  have rd0___ := rd0__.below hcd3
  have rd1__ := rd1_.below hcd3
  have rd2_ := rd2.below hcd3
  have rd3 := ho3.rd.below hd3
  have N3_0 : (w5.alloc (.cells #[.bool M.p.neg, .slice x3 (dg 1000000000 M.p.m).length y3, .int .i64 M.p.e] 24)).cell? ⟨w5.heap.size, 0, none⟩ = some (.bool M.p.neg) := by simp
  have N3_1 : (w5.alloc (.cells #[.bool M.p.neg, .slice x3 (dg 1000000000 M.p.m).length y3, .int .i64 M.p.e] 24)).cell? ⟨w5.heap.size, 1, none⟩ = some (.slice x3 (dg 1000000000 M.p.m).length y3) := by simp
  have N3_2 : (w5.alloc (.cells #[.bool M.p.neg, .slice x3 (dg 1000000000 M.p.m).length y3, .int .i64 M.p.e] 24)).cell? ⟨w5.heap.size, 2, none⟩ = some (.int .i64 M.p.e) := by simp
  clear hc3 hd3 hcd3 ho3 b4 A4_0 A4_1 A4_2 A4_3 A4_4 A4_5 A4_6 A4_7 A4_8 A4_9 A4_10 A4_11 N2_0 N2_1 N2_2 rd0__ rd1_ rd2
  have HSA := Lib.hid (fun W hb => HS.out x0 x1 y0 y1 W (rd0___.below (w' := W) hb) (rd1__.below hb))
  have HSB := Lib.hid (fun W hb => HS2.out x2 x3 y2 y3 W (rd2_.below (w' := W) hb) (rd3.below hb))
  clear rd0___ rd1__ rd2_ rd3 HD HR HM HN HS HS2 A5_0 A5_1 A5_2 A5_3 A5_4 A5_5
  go_wp2_with fail
  refine (HSA.out _ (Below.refl _ _)).mono ?_
  rintro r w6 ⟨rfl, hb6⟩
  have b6 := b5.trans (hb6.mono b5.size)
  have Z0 := cellB A5_12 hb6
  have Z1 := cellB A5_13 hb6
  have Z2 := cellB A5_14 hb6
  have Z3 := cellB N3_0 hb6
  have Z4 := cellB N3_1 hb6
  have Z5 := cellB N3_2 hb6
  have HSC := Lib.hid (HSB.out _ hb6)
  clear hb6 b5 HSA HSB A5_6 A5_7 A5_8 A5_9 A5_10 A5_11 A5_12 A5_13 A5_14 N3_0 N3_1 N3_2
  go_wp2_with fail
  refine HSC.out.mono ?_
  rintro r w7 ⟨rfl, hb7⟩
  have b7 := b6.trans (hb7.mono b6.size)
  go_wp2
  go_ret
  exact ⟨rfl, b7⟩

theorem sums2_walk {s1 s2 : Bool} {a1 a2 : Option Addr} {n1 n2 ca1 ca2 : Nat} {e1 e2 : Int} (w : World) (htab : Tab w) (ha : IsRow w a1 n1 ca1) (_ : (Lit.int .i64 e1).wf = true) (hb : IsRow w a2 n2 ca2) (_ : (Lit.int .i64 e2).wf = true) :
    Calls Tryd.prog 8 #[.agg #[.bool s1, .slice a1 n1 ca1, .int .i64 e1], .agg #[.bool s2, .slice a2 n2 ca2, .int .i64 e2]] w fun r w' => r = .returned (.bool true) ∧ Below w.heap.size w w' := by
  obtain ⟨l1, rfl, lo1, rd1, hm1⟩ := ha
  obtain ⟨l2, rfl, lo2, rd2, hm2⟩ := hb
  unfold maxLen at hm1 hm2
  exact sums2_main s1 s2 a1 a2 ca1 ca2 l1 l2 e1 e2 w (by omega) (by omega) lo1 lo2 rd1 rd2 htab
end Go.Proofs.YtofeckdhhaoobaaDoor
