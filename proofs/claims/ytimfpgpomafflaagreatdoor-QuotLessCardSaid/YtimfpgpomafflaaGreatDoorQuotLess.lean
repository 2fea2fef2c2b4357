/- Walk of the law QuotLess. -/
import Derived.Test.YtimfpgpomafflaaGreatDoorQuotM
import Derived.Test.YtimfpgpomafflaaGreatDoorQuotT
namespace Go.Proofs.YtimfpgpomafflaaGreatDoor
open Go.RowKit LM

set_option maxHeartbeats 16000000 in
set_option maxRecDepth 20000 in
theorem less_no (s1 s2 : Bool) (a1 a2 : Option Addr) (c1 c2 : Nat) (l1 l2 : List Nat) (e1 e2 : Int) (w : World) (h1 : l1.length ≤ 9223372036854775807) (h2 : l2.length ≤ 9223372036854775807) (hlo1 : Lo 4294967296 l1) (hlo2 : Lo 4294967296 l2) (hr1 : Rd w .u32 a1 l1) (hr2 : Rd w .u32 a2 l2) (htab : Tab w) (h0 : ¬ (remA (normA l1.length s1 (vl 1000000000 l1) e1) (normA l2.length s2 (vl 1000000000 l2) e2)).err = 0) :
    Calls Tryz.prog 9 #[.agg #[.bool s1, .slice a1 l1.length c1, .int .i64 e1], .agg #[.bool s2, .slice a2 l2.length c2, .int .i64 e2]] w fun r w' => r = .returned (.bool true) ∧ Below w.heap.size w w' := by
  have hS := fun W (hb : Below w.heap.size w W) => shown_any W (htab.below hb)
  have hR := fun W (hb : Below w.heap.size w W) => Rem_any s1 s2 a1 a2 c1 c2 l1 l2 e1 e2 W h1 h2 hlo1 hlo2 (hr1.below' (w' := W) hb (Nat.le_refl _)) (hr2.below' (w' := W) hb (Nat.le_refl _)) (htab.below hb)
  have hz := rem_err h0
  generalize remA (normA l1.length s1 (vl 1000000000 l1) e1) (normA l2.length s2 (vl 1000000000 l2) e2) = R at *
  have t0 : ((R.err : Int) != 0) = true := by simp [h0]
  have t1 : (((dg 1000000000 R.p.m).length : Int) == 0) = true := by rw [hz, show zP.m = 0 from rfl, dg_zero]; rfl
  have HS := Lib.hid hS; have HR := Lib.hid hR
  clear hS hR htab hr1 hr2 hlo1 hlo2 hz h0
  go_enter Tryz.func9, Tryz.ntmps9
  have b1 := (((Below.refl w.heap.size w).alloc (Nat.le_refl _) (.cells #[.bool s1, .slice a1 l1.length c1, .int .i64 e1] 24)).alloc (by simp) (.cells #[.bool s2, .slice a2 l2.length c2, .int .i64 e2] 24))
  have X_a := (Qx.below (Qx.new w (.bool s1) (.slice a1 l1.length c1) (.int .i64 e1) 24) ((Below.refl _ _).alloc (Nat.le_refl _) (.cells #[.bool s2, .slice a2 l2.length c2, .int .i64 e2] 24)))
  have F_a := (Qf.below (Qf.new w (.bool s1) (.slice a1 l1.length c1) (.int .i64 e1) 24) (Qx.lt (Qx.new w (.bool s1) (.slice a1 l1.length c1) (.int .i64 e1) 24)) ((Below.refl _ _).alloc (Nat.le_refl _) (.cells #[.bool s2, .slice a2 l2.length c2, .int .i64 e2] 24)))
  have X_b := (Qx.new (w.alloc (.cells #[.bool s1, .slice a1 l1.length c1, .int .i64 e1] 24)) (.bool s2) (.slice a2 l2.length c2) (.int .i64 e2) 24)
  have F_b := (Qf.new (w.alloc (.cells #[.bool s1, .slice a1 l1.length c1, .int .i64 e1] 24)) (.bool s2) (.slice a2 l2.length c2) (.int .i64 e2) 24)
  have z : (w.alloc (.cells #[.bool s1, .slice a1 l1.length c1, .int .i64 e1] 24)).heap.size = w.heap.size + 1 := by simp
  rw [z] at X_b F_b
  clear z
  go_wp2_with fail
  refine (HS.out _ b1).mono ?_
  rintro r w2 ⟨rfl, hc⟩
  have b2 := b1.trans (hc.mono b1.size)
  replace F_a := Qf.below F_a (Qx.lt X_a) hc
  replace X_a := Qx.below X_a hc
  replace F_b := Qf.below F_b (Qx.lt X_b) hc
  replace X_b := Qx.below X_b hc
  clear hc b1
  obtain ⟨ka0, ka1, ka2⟩ := X_a.out
  obtain ⟨kb0, kb1, kb2⟩ := X_b.out
  go_wp2_with fail
  clear ka0 ka1 ka2 kb0 kb1 kb2
  refine (HR.out _ b2).mono ?_
  rintro r w3 ⟨xr, yr, rfl, ho, hc⟩
  have b3 := b2.trans (hc.mono b2.size)
  replace F_a := Qf.below F_a (Qx.lt X_a) hc
  replace X_a := Qx.below X_a hc
  replace F_b := Qf.below F_b (Qx.lt X_b) hc
  replace X_b := Qx.below X_b hc
  clear hc b2
  have R_r := Lib.hid ho
  clear ho
  have z_r := b3.size
  have hd := (Below.refl w3.heap.size w3).alloc (Nat.le_refl _) (.cells #[.bool R.p.neg, .slice xr (dg 1000000000 R.p.m).length yr, .int .i64 R.p.e] 24)
  have b4 := b3.trans (hd.mono b3.size)
  have l_a_r := Qx.lt X_a
  have m_a_r := not_eq_lt l_a_r
  have m_r_a := not_eq_gt l_a_r
  clear l_a_r
  have l_b_r := Qx.lt X_b
  have m_b_r := not_eq_lt l_b_r
  have m_r_b := not_eq_gt l_b_r
  clear l_b_r
  replace F_a := Qf.below F_a (Qx.lt X_a) hd
  replace X_a := Qx.below X_a hd
  replace F_b := Qf.below F_b (Qx.lt X_b) hd
  replace X_b := Qx.below X_b hd
  replace R_r := Lib.hid (R_r.out.below hd)
  have X_r := Qx.new w3 (.bool R.p.neg) (.slice xr (dg 1000000000 R.p.m).length yr) (.int .i64 R.p.e) 24
  have F_r := Qf.new w3 (.bool R.p.neg) (.slice xr (dg 1000000000 R.p.m).length yr) (.int .i64 R.p.e) 24
  clear hd b3
  generalize (dg 1000000000 R.p.m).length = nR at *
  obtain ⟨kr0, kr1, kr2⟩ := X_r.out
  have B_ := Lib.hid b4
  clear b4
  go_wp2
  go_ret
  exact ⟨rfl, B_.out⟩
set_option maxHeartbeats 16000000 in
set_option maxRecDepth 20000 in
theorem less_ok (s1 s2 : Bool) (a1 a2 : Option Addr) (c1 c2 : Nat) (l1 l2 : List Nat) (e1 e2 : Int) (w : World) (h1 : l1.length ≤ 9223372036854775807) (h2 : l2.length ≤ 9223372036854775807) (hlo1 : Lo 4294967296 l1) (hlo2 : Lo 4294967296 l2) (hr1 : Rd w .u32 a1 l1) (hr2 : Rd w .u32 a2 l2) (htab : Tab w) (h0 : (remA (normA l1.length s1 (vl 1000000000 l1) e1) (normA l2.length s2 (vl 1000000000 l2) e2)).err = 0) :
    Calls Tryz.prog 9 #[.agg #[.bool s1, .slice a1 l1.length c1, .int .i64 e1], .agg #[.bool s2, .slice a2 l2.length c2, .int .i64 e2]] w fun r w' => r = .returned (.bool true) ∧ Below w.heap.size w w' := by
  have hS := fun W (hb : Below w.heap.size w W) => shown_any W (htab.below hb)
  have hR := fun W (hb : Below w.heap.size w W) => Rem_any s1 s2 a1 a2 c1 c2 l1 l2 e1 e2 W h1 h2 hlo1 hlo2 (hr1.below' (w' := W) hb (Nat.le_refl _)) (hr2.below' (w' := W) hb (Nat.le_refl _)) (htab.below hb)
  have hTa := fun W (hb : Below w.heap.size w W) => Trunc_any s1 a1 c1 l1 e1 W h1 hlo1 (hr1.below' (w' := W) hb (Nat.le_refl _)) (htab.below hb)
  have hTb := fun W (hb : Below w.heap.size w W) => Trunc_any s2 a2 c2 l2 e2 W h2 hlo2 (hr2.below' (w' := W) hb (Nat.le_refl _)) (htab.below hb)
  have pA := normA_plain l1.length s1 (vl 1000000000 l1) e1
  have pB := normA_plain l2.length s2 (vl 1000000000 l2) e2
  have iA := normA_in l1.length s1 (vl 1000000000 l1) e1
  have iB := normA_in l2.length s2 (vl 1000000000 l2) e2
  have hD := fun (p : Pl) (hp : PlainP p) (ip : inR p = true) a c W (hb : Below w.heap.size w W) ra => Rem_any p.neg s2 a a2 c c2 (dg 1000000000 p.m) l2 p.e e2 W (few_pl ip) h2 (lo_pl p) hlo2 ra (hr2.below' (w' := W) hb (Nat.le_refl _)) (htab.below hb)
  generalize (normA l1.length s1 (vl 1000000000 l1) e1) = A at *
  generalize (normA l2.length s2 (vl 1000000000 l2) e2) = B at *
  obtain ⟨hA, hB, g1, g2, g3, hRe⟩ := rem_ok h0
  rw [toWA_ok hA] at hTa
  rw [toWA_ok hB] at hTb
  rw [hRe] at hR
  have hD2 := fun (p : Pl) (hp : PlainP p) (ip : inR p = true) => hD p hp ip
  have pP := cutP_plain (way := 0) pA
  have pQ := cutP_plain (way := 0) pB
  have iP := cutP_in (way := 0) iA
  have iQ := cutP_in (way := 0) iB
  have wP := cutP_whole 0 A.p
  have wQ := cutP_whole 0 B.p
  have hDv : ∀ p : Pl, PlainP p → inR p = true → remA (normA (dg 1000000000 p.m).length p.neg (vl 1000000000 (dg 1000000000 p.m)) p.e) B = remV (cutP 0 p) (cutP 0 B.p) := fun p hp ip => by rw [norm_plain' hp ip]; unfold remA; rw [if_pos (show okP ⟨0, p⟩ B from ⟨rfl, hB⟩)]
  generalize cutP 0 A.p = P at *
  generalize cutP 0 B.p = Q at *
  have hlt : whV P % whV Q < whV Q := Nat.mod_lt _ (Nat.pos_of_ne_zero fun h => by have := whV_zero.1 h; omega)
  have hcm := rem_less (s := P.neg) pQ wQ hlt
  have hleft := rem_left pP pQ wP g3 g1 g2
  have pR := pl_plain P.neg (whV P % whV Q) 0
  have iR : inR (pl P.neg (whV P % whV Q) 0) = true := whole_in (Nat.le_trans (dl_mono (Nat.mod_le _ _)) (whV_few pP g1 wP).2)
  have wR := pl_e0 P.neg (whV P % whV Q)
  have sR := pl_neg (s := P.neg) (v := whV P % whV Q)
  generalize pl P.neg (whV P % whV Q) 0 = R at *
  have pD := addV_plain P (flipP R)
  have iD := (by have h := addA_in' ⟨0, P⟩ ⟨0, flipP R⟩; unfold addA at h; rw [if_pos (okP0 _ _)] at h; exact h : inR (addV P (flipP R)).p = true)
  have hD3 := fun a c W hb ra => hD (addV P (flipP R)).p pD iD a c W hb ra
  rw [hDv _ pD iD] at hD3
  have hAr := fun a c W r ht => Abs_any R.neg a c (dg 1000000000 R.m) R.e W (few_pl iR) (lo_pl R) r ht
  have hAq := fun a c W r ht => Abs_any Q.neg a c (dg 1000000000 Q.m) Q.e W (few_pl iQ) (lo_pl Q) r ht
  rw [norm_abs pR iR] at hAr
  rw [norm_abs pQ iQ] at hAq
  have hCm := fun a c b d W r1 ht r2 => cCmpPP (absP_plain pR) iR a c W r1 ht (absP_plain pQ) iQ b d r2
  have hNg := fun a c W r ht => DNeg_any R.neg a c (dg 1000000000 R.m) R.e W (few_pl iR) (lo_pl R) r ht
  rw [norm_flip pR iR] at hNg
  have hAd := fun a c b d W r1 ht r2 => cAddPP pP iP a c W r1 ht (flip_plain pR) (by rw [inR_flip]; exact iR) b d r2
  have hWh := fun a c W r ht => Whole_any R.neg a c (dg 1000000000 R.m) R.e W (few_pl iR) (lo_pl R) r ht
  rw [norm_plain' pR iR, show (decide ((⟨0, R⟩ : Ans).err = 0) && decide (0 ≤ (⟨0, R⟩ : Ans).p.e)) = true by simp [wR]] at hWh
  generalize hDd : addV P (flipP R) = D at *
  generalize flipP R = FR at *
  generalize absP R = SR at *
  generalize absP Q = SQ at *
  generalize remV (cutP 0 D.p) Q = Z at *
  generalize cmpP SR SQ = cm at *
  have hTa := fun W hb => (hTa W hb).mono fun _ _ h => ResY.ok h
  have hTb := fun W hb => (hTb W hb).mono fun _ _ h => ResY.ok h
  have hR := fun W hb => (hR W hb).mono fun _ _ h => ResY.ok h
  have hAr := fun a c W r ht => (hAr a c W r ht).mono fun _ _ h => ResY.ok h
  have hAq := fun a c W r ht => (hAq a c W r ht).mono fun _ _ h => ResY.ok h
  have hNg := fun a c W r ht => (hNg a c W r ht).mono fun _ _ h => (ResA.y h).ok
  have HS := Lib.hid hS; have HR := Lib.hid hR; have HTa := Lib.hid hTa; have HTb := Lib.hid hTb; have HAr := Lib.hid hAr; have HAq := Lib.hid hAq; have HCm := Lib.hid hCm; have HNg := Lib.hid hNg; have HAd := Lib.hid hAd; have HD := Lib.hid hD3; have HWh := Lib.hid hWh; have HT := Lib.hid htab
  have HL := Lib.hid hleft; have HSR := Lib.hid sR
  clear hS hR hTa hTb hAr hAq hCm hNg hAd hD hD2 hD3 hDv hWh htab hleft sR hr1 hr2 hlo1 hlo2 pA pB iA iB hRe h0 hA hB g1 g2 g3 pP pQ iP iQ wP wQ hlt pR iR wR pD iD hDd
  go_enter Tryz.func9, Tryz.ntmps9
  have b1 := (((Below.refl w.heap.size w).alloc (Nat.le_refl _) (.cells #[.bool s1, .slice a1 l1.length c1, .int .i64 e1] 24)).alloc (by simp) (.cells #[.bool s2, .slice a2 l2.length c2, .int .i64 e2] 24))
  have X_a := (Qx.below (Qx.new w (.bool s1) (.slice a1 l1.length c1) (.int .i64 e1) 24) ((Below.refl _ _).alloc (Nat.le_refl _) (.cells #[.bool s2, .slice a2 l2.length c2, .int .i64 e2] 24)))
  have F_a := (Qf.below (Qf.new w (.bool s1) (.slice a1 l1.length c1) (.int .i64 e1) 24) (Qx.lt (Qx.new w (.bool s1) (.slice a1 l1.length c1) (.int .i64 e1) 24)) ((Below.refl _ _).alloc (Nat.le_refl _) (.cells #[.bool s2, .slice a2 l2.length c2, .int .i64 e2] 24)))
  have X_b := (Qx.new (w.alloc (.cells #[.bool s1, .slice a1 l1.length c1, .int .i64 e1] 24)) (.bool s2) (.slice a2 l2.length c2) (.int .i64 e2) 24)
  have F_b := (Qf.new (w.alloc (.cells #[.bool s1, .slice a1 l1.length c1, .int .i64 e1] 24)) (.bool s2) (.slice a2 l2.length c2) (.int .i64 e2) 24)
  have z : (w.alloc (.cells #[.bool s1, .slice a1 l1.length c1, .int .i64 e1] 24)).heap.size = w.heap.size + 1 := by simp
  rw [z] at X_b F_b
  clear z
  go_wp2_with fail
  refine (HS.out _ b1).mono ?_
  rintro r w2 ⟨rfl, hc⟩
  have b2 := b1.trans (hc.mono b1.size)
  replace F_a := Qf.below F_a (Qx.lt X_a) hc
  replace X_a := Qx.below X_a hc
  replace F_b := Qf.below F_b (Qx.lt X_b) hc
  replace X_b := Qx.below X_b hc
  clear hc b1
  obtain ⟨ka0, ka1, ka2⟩ := X_a.out
  obtain ⟨kb0, kb1, kb2⟩ := X_b.out
  go_wp2_with fail
  clear ka0 ka1 ka2 kb0 kb1 kb2
  refine (HR.out _ b2).mono ?_
  rintro r w3 ⟨xr, yr, rfl, ho, hc⟩
  have b3 := b2.trans (hc.mono b2.size)
  replace F_a := Qf.below F_a (Qx.lt X_a) hc
  replace X_a := Qx.below X_a hc
  replace F_b := Qf.below F_b (Qx.lt X_b) hc
  replace X_b := Qx.below X_b hc
  clear hc b2
  have R_r := Lib.hid ho
  clear ho
  have z_r := b3.size
  have hd := (Below.refl w3.heap.size w3).alloc (Nat.le_refl _) (.cells #[.bool R.neg, .slice xr (dg 1000000000 R.m).length yr, .int .i64 R.e] 24)
  have b4 := b3.trans (hd.mono b3.size)
  have l_a_r := Qx.lt X_a
  have m_a_r := not_eq_lt l_a_r
  have m_r_a := not_eq_gt l_a_r
  clear l_a_r
  have l_b_r := Qx.lt X_b
  have m_b_r := not_eq_lt l_b_r
  have m_r_b := not_eq_gt l_b_r
  clear l_b_r
  replace F_a := Qf.below F_a (Qx.lt X_a) hd
  replace X_a := Qx.below X_a hd
  replace F_b := Qf.below F_b (Qx.lt X_b) hd
  replace X_b := Qx.below X_b hd
  replace R_r := Lib.hid (R_r.out.below hd)
  have X_r := Qx.new w3 (.bool R.neg) (.slice xr (dg 1000000000 R.m).length yr) (.int .i64 R.e) 24
  have F_r := Qf.new w3 (.bool R.neg) (.slice xr (dg 1000000000 R.m).length yr) (.int .i64 R.e) 24
  clear hd b3
  obtain ⟨ka0, ka1, ka2⟩ := X_a.out
  go_wp2_with fail
  clear ka0 ka1 ka2
  refine (HTa.out _ b4).mono ?_
  rintro r w5 ⟨xx, yx, rfl, ho, hc⟩
  have b5 := b4.trans (hc.mono b4.size)
  replace F_a := Qf.below F_a (Qx.lt X_a) hc
  replace X_a := Qx.below X_a hc
  replace F_b := Qf.below F_b (Qx.lt X_b) hc
  replace X_b := Qx.below X_b hc
  replace F_r := Qf.below F_r (Qx.lt X_r) hc
  replace X_r := Qx.below X_r hc
  replace R_r := Lib.hid (R_r.out.below hc)
  clear hc b4
  have R_x := Lib.hid ho
  clear ho
  have z_x := b5.size
  have hd := (Below.refl w5.heap.size w5).alloc (Nat.le_refl _) (.cells #[.bool P.neg, .slice xx (dg 1000000000 P.m).length yx, .int .i64 P.e] 24)
  have b6 := b5.trans (hd.mono b5.size)
  have l_a_x := Qx.lt X_a
  have m_a_x := not_eq_lt l_a_x
  have m_x_a := not_eq_gt l_a_x
  clear l_a_x
  have l_b_x := Qx.lt X_b
  have m_b_x := not_eq_lt l_b_x
  have m_x_b := not_eq_gt l_b_x
  clear l_b_x
  have l_r_x := Qx.lt X_r
  have m_r_x := not_eq_lt l_r_x
  have m_x_r := not_eq_gt l_r_x
  clear l_r_x
  replace F_a := Qf.below F_a (Qx.lt X_a) hd
  replace X_a := Qx.below X_a hd
  replace F_b := Qf.below F_b (Qx.lt X_b) hd
  replace X_b := Qx.below X_b hd
  replace F_r := Qf.below F_r (Qx.lt X_r) hd
  replace X_r := Qx.below X_r hd
  replace R_r := Lib.hid (R_r.out.below hd)
  replace R_x := Lib.hid (R_x.out.below hd)
  have X_x := Qx.new w5 (.bool P.neg) (.slice xx (dg 1000000000 P.m).length yx) (.int .i64 P.e) 24
  have F_x := Qf.new w5 (.bool P.neg) (.slice xx (dg 1000000000 P.m).length yx) (.int .i64 P.e) 24
  clear hd b5
  obtain ⟨kb0, kb1, kb2⟩ := X_b.out
  go_wp2_with fail
  clear kb0 kb1 kb2
  refine (HTb.out _ b6).mono ?_
  rintro r w7 ⟨xy, yy, rfl, ho, hc⟩
  have b7 := b6.trans (hc.mono b6.size)
  replace F_a := Qf.below F_a (Qx.lt X_a) hc
  replace X_a := Qx.below X_a hc
  replace F_b := Qf.below F_b (Qx.lt X_b) hc
  replace X_b := Qx.below X_b hc
  replace F_r := Qf.below F_r (Qx.lt X_r) hc
  replace X_r := Qx.below X_r hc
  replace F_x := Qf.below F_x (Qx.lt X_x) hc
  replace X_x := Qx.below X_x hc
  replace R_r := Lib.hid (R_r.out.below hc)
  replace R_x := Lib.hid (R_x.out.below hc)
  clear hc b6
  have R_y := Lib.hid ho
  clear ho
  have z_y := b7.size
  have hd := (Below.refl w7.heap.size w7).alloc (Nat.le_refl _) (.cells #[.bool Q.neg, .slice xy (dg 1000000000 Q.m).length yy, .int .i64 Q.e] 24)
  have b8 := b7.trans (hd.mono b7.size)
  have l_a_y := Qx.lt X_a
  have m_a_y := not_eq_lt l_a_y
  have m_y_a := not_eq_gt l_a_y
  clear l_a_y
  have l_b_y := Qx.lt X_b
  have m_b_y := not_eq_lt l_b_y
  have m_y_b := not_eq_gt l_b_y
  clear l_b_y
  have l_r_y := Qx.lt X_r
  have m_r_y := not_eq_lt l_r_y
  have m_y_r := not_eq_gt l_r_y
  clear l_r_y
  have l_x_y := Qx.lt X_x
  have m_x_y := not_eq_lt l_x_y
  have m_y_x := not_eq_gt l_x_y
  clear l_x_y
  replace F_a := Qf.below F_a (Qx.lt X_a) hd
  replace X_a := Qx.below X_a hd
  replace F_b := Qf.below F_b (Qx.lt X_b) hd
  replace X_b := Qx.below X_b hd
  replace F_r := Qf.below F_r (Qx.lt X_r) hd
  replace X_r := Qx.below X_r hd
  replace F_x := Qf.below F_x (Qx.lt X_x) hd
  replace X_x := Qx.below X_x hd
  replace R_r := Lib.hid (R_r.out.below hd)
  replace R_x := Lib.hid (R_x.out.below hd)
  replace R_y := Lib.hid (R_y.out.below hd)
  have X_y := Qx.new w7 (.bool Q.neg) (.slice xy (dg 1000000000 Q.m).length yy) (.int .i64 Q.e) 24
  have F_y := Qf.new w7 (.bool Q.neg) (.slice xy (dg 1000000000 Q.m).length yy) (.int .i64 Q.e) 24
  clear hd b7
  obtain ⟨kr0, kr1, kr2⟩ := X_r.out
  go_wp2_with fail
  clear kr0 kr1 kr2
  refine (HAr.out _ _ _ R_r.out (HT.out.below b8)).mono ?_
  rintro r w9 ⟨xs, ys, rfl, ho, hc⟩
  have b9 := b8.trans (hc.mono b8.size)
  replace F_a := Qf.below F_a (Qx.lt X_a) hc
  replace X_a := Qx.below X_a hc
  replace F_b := Qf.below F_b (Qx.lt X_b) hc
  replace X_b := Qx.below X_b hc
  replace F_r := Qf.below F_r (Qx.lt X_r) hc
  replace X_r := Qx.below X_r hc
  replace F_x := Qf.below F_x (Qx.lt X_x) hc
  replace X_x := Qx.below X_x hc
  replace F_y := Qf.below F_y (Qx.lt X_y) hc
  replace X_y := Qx.below X_y hc
  replace R_r := Lib.hid (R_r.out.below hc)
  replace R_x := Lib.hid (R_x.out.below hc)
  replace R_y := Lib.hid (R_y.out.below hc)
  clear hc b8
  have R_s := Lib.hid ho
  clear ho
  have z_s := b9.size
  have hd := (Below.refl w9.heap.size w9).alloc (Nat.le_refl _) (.cells #[.bool SR.neg, .slice xs (dg 1000000000 SR.m).length ys, .int .i64 SR.e] 24)
  have b10 := b9.trans (hd.mono b9.size)
  have l_a_s := Qx.lt X_a
  have m_a_s := not_eq_lt l_a_s
  have m_s_a := not_eq_gt l_a_s
  clear l_a_s
  have l_b_s := Qx.lt X_b
  have m_b_s := not_eq_lt l_b_s
  have m_s_b := not_eq_gt l_b_s
  clear l_b_s
  have l_r_s := Qx.lt X_r
  have m_r_s := not_eq_lt l_r_s
  have m_s_r := not_eq_gt l_r_s
  clear l_r_s
  have l_x_s := Qx.lt X_x
  have m_x_s := not_eq_lt l_x_s
  have m_s_x := not_eq_gt l_x_s
  clear l_x_s
  have l_y_s := Qx.lt X_y
  have m_y_s := not_eq_lt l_y_s
  have m_s_y := not_eq_gt l_y_s
  clear l_y_s
  replace F_a := Qf.below F_a (Qx.lt X_a) hd
  replace X_a := Qx.below X_a hd
  replace F_b := Qf.below F_b (Qx.lt X_b) hd
  replace X_b := Qx.below X_b hd
  replace F_r := Qf.below F_r (Qx.lt X_r) hd
  replace X_r := Qx.below X_r hd
  replace F_x := Qf.below F_x (Qx.lt X_x) hd
  replace X_x := Qx.below X_x hd
  replace F_y := Qf.below F_y (Qx.lt X_y) hd
  replace X_y := Qx.below X_y hd
  replace R_r := Lib.hid (R_r.out.below hd)
  replace R_x := Lib.hid (R_x.out.below hd)
  replace R_y := Lib.hid (R_y.out.below hd)
  replace R_s := Lib.hid (R_s.out.below hd)
  have X_s := Qx.new w9 (.bool SR.neg) (.slice xs (dg 1000000000 SR.m).length ys) (.int .i64 SR.e) 24
  have F_s := Qf.new w9 (.bool SR.neg) (.slice xs (dg 1000000000 SR.m).length ys) (.int .i64 SR.e) 24
  clear hd b9
  obtain ⟨ky0, ky1, ky2⟩ := X_y.out
  go_wp2_with fail
  clear ky0 ky1 ky2
  refine (HAq.out _ _ _ R_y.out (HT.out.below b10)).mono ?_
  rintro r w11 ⟨xt, yt, rfl, ho, hc⟩
  have b11 := b10.trans (hc.mono b10.size)
  replace F_a := Qf.below F_a (Qx.lt X_a) hc
  replace X_a := Qx.below X_a hc
  replace F_b := Qf.below F_b (Qx.lt X_b) hc
  replace X_b := Qx.below X_b hc
  replace F_r := Qf.below F_r (Qx.lt X_r) hc
  replace X_r := Qx.below X_r hc
  replace F_x := Qf.below F_x (Qx.lt X_x) hc
  replace X_x := Qx.below X_x hc
  replace F_y := Qf.below F_y (Qx.lt X_y) hc
  replace X_y := Qx.below X_y hc
  replace F_s := Qf.below F_s (Qx.lt X_s) hc
  replace X_s := Qx.below X_s hc
  replace R_r := Lib.hid (R_r.out.below hc)
  replace R_x := Lib.hid (R_x.out.below hc)
  replace R_y := Lib.hid (R_y.out.below hc)
  replace R_s := Lib.hid (R_s.out.below hc)
  clear hc b10
  have R_t := Lib.hid ho
  clear ho
  have z_t := b11.size
  have hd := (Below.refl w11.heap.size w11).alloc (Nat.le_refl _) (.cells #[.bool SQ.neg, .slice xt (dg 1000000000 SQ.m).length yt, .int .i64 SQ.e] 24)
  have b12 := b11.trans (hd.mono b11.size)
  have l_a_t := Qx.lt X_a
  have m_a_t := not_eq_lt l_a_t
  have m_t_a := not_eq_gt l_a_t
  clear l_a_t
  have l_b_t := Qx.lt X_b
  have m_b_t := not_eq_lt l_b_t
  have m_t_b := not_eq_gt l_b_t
  clear l_b_t
  have l_r_t := Qx.lt X_r
  have m_r_t := not_eq_lt l_r_t
  have m_t_r := not_eq_gt l_r_t
  clear l_r_t
  have l_x_t := Qx.lt X_x
  have m_x_t := not_eq_lt l_x_t
  have m_t_x := not_eq_gt l_x_t
  clear l_x_t
  have l_y_t := Qx.lt X_y
  have m_y_t := not_eq_lt l_y_t
  have m_t_y := not_eq_gt l_y_t
  clear l_y_t
  have l_s_t := Qx.lt X_s
  have m_s_t := not_eq_lt l_s_t
  have m_t_s := not_eq_gt l_s_t
  clear l_s_t
  replace F_a := Qf.below F_a (Qx.lt X_a) hd
  replace X_a := Qx.below X_a hd
  replace F_b := Qf.below F_b (Qx.lt X_b) hd
  replace X_b := Qx.below X_b hd
  replace F_r := Qf.below F_r (Qx.lt X_r) hd
  replace X_r := Qx.below X_r hd
  replace F_x := Qf.below F_x (Qx.lt X_x) hd
  replace X_x := Qx.below X_x hd
  replace F_y := Qf.below F_y (Qx.lt X_y) hd
  replace X_y := Qx.below X_y hd
  replace F_s := Qf.below F_s (Qx.lt X_s) hd
  replace X_s := Qx.below X_s hd
  replace R_r := Lib.hid (R_r.out.below hd)
  replace R_x := Lib.hid (R_x.out.below hd)
  replace R_y := Lib.hid (R_y.out.below hd)
  replace R_s := Lib.hid (R_s.out.below hd)
  replace R_t := Lib.hid (R_t.out.below hd)
  have X_t := Qx.new w11 (.bool SQ.neg) (.slice xt (dg 1000000000 SQ.m).length yt) (.int .i64 SQ.e) 24
  have F_t := Qf.new w11 (.bool SQ.neg) (.slice xt (dg 1000000000 SQ.m).length yt) (.int .i64 SQ.e) 24
  clear hd b11
  obtain ⟨ks0, ks1, ks2⟩ := X_s.out
  obtain ⟨kt0, kt1, kt2⟩ := X_t.out
  go_wp2_with fail
  clear ks0 ks1 ks2 kt0 kt1 kt2
  refine (HCm.out _ _ _ _ _ R_s.out (HT.out.below b12) R_t.out).mono ?_
  rintro r w13 ⟨rfl, hc⟩
  have b13 := b12.trans (hc.mono b12.size)
  replace F_a := Qf.below F_a (Qx.lt X_a) hc
  replace X_a := Qx.below X_a hc
  replace F_b := Qf.below F_b (Qx.lt X_b) hc
  replace X_b := Qx.below X_b hc
  replace F_r := Qf.below F_r (Qx.lt X_r) hc
  replace X_r := Qx.below X_r hc
  replace F_x := Qf.below F_x (Qx.lt X_x) hc
  replace X_x := Qx.below X_x hc
  replace F_y := Qf.below F_y (Qx.lt X_y) hc
  replace X_y := Qx.below X_y hc
  replace F_s := Qf.below F_s (Qx.lt X_s) hc
  replace X_s := Qx.below X_s hc
  replace F_t := Qf.below F_t (Qx.lt X_t) hc
  replace X_t := Qx.below X_t hc
  replace R_r := Lib.hid (R_r.out.below hc)
  replace R_x := Lib.hid (R_x.out.below hc)
  replace R_y := Lib.hid (R_y.out.below hc)
  replace R_s := Lib.hid (R_s.out.below hc)
  replace R_t := Lib.hid (R_t.out.below hc)
  clear hc b12
  clear X_s F_s
  clear R_s
  clear X_t F_t
  clear R_t
  clear X_y F_y
  clear R_y
  clear X_a F_a
  obtain ⟨kr0, kr1, kr2⟩ := X_r.out
  go_wp2_with fail
  clear kr0 kr1 kr2
  refine (HNg.out _ _ _ R_r.out (HT.out.below b13)).mono ?_
  rintro r w14 ⟨xn, yn, rfl, ho, hc⟩
  have b14 := b13.trans (hc.mono b13.size)
  replace F_b := Qf.below F_b (Qx.lt X_b) hc
  replace X_b := Qx.below X_b hc
  replace F_r := Qf.below F_r (Qx.lt X_r) hc
  replace X_r := Qx.below X_r hc
  replace F_x := Qf.below F_x (Qx.lt X_x) hc
  replace X_x := Qx.below X_x hc
  replace R_r := Lib.hid (R_r.out.below hc)
  replace R_x := Lib.hid (R_x.out.below hc)
  clear hc b13
  have R_n := Lib.hid ho
  clear ho
  have z_n := b14.size
  have hd := (Below.refl w14.heap.size w14).alloc (Nat.le_refl _) (.cells #[.bool FR.neg, .slice xn (dg 1000000000 FR.m).length yn, .int .i64 FR.e] 24)
  have b15 := b14.trans (hd.mono b14.size)
  have l_b_n := Qx.lt X_b
  have m_b_n := not_eq_lt l_b_n
  have m_n_b := not_eq_gt l_b_n
  clear l_b_n
  have l_r_n := Qx.lt X_r
  have m_r_n := not_eq_lt l_r_n
  have m_n_r := not_eq_gt l_r_n
  clear l_r_n
  have l_x_n := Qx.lt X_x
  have m_x_n := not_eq_lt l_x_n
  have m_n_x := not_eq_gt l_x_n
  clear l_x_n
  replace F_b := Qf.below F_b (Qx.lt X_b) hd
  replace X_b := Qx.below X_b hd
  replace F_r := Qf.below F_r (Qx.lt X_r) hd
  replace X_r := Qx.below X_r hd
  replace F_x := Qf.below F_x (Qx.lt X_x) hd
  replace X_x := Qx.below X_x hd
  replace R_r := Lib.hid (R_r.out.below hd)
  replace R_x := Lib.hid (R_x.out.below hd)
  replace R_n := Lib.hid (R_n.out.below hd)
  have X_n := Qx.new w14 (.bool FR.neg) (.slice xn (dg 1000000000 FR.m).length yn) (.int .i64 FR.e) 24
  have F_n := Qf.new w14 (.bool FR.neg) (.slice xn (dg 1000000000 FR.m).length yn) (.int .i64 FR.e) 24
  clear hd b14
  obtain ⟨kx0, kx1, kx2⟩ := X_x.out
  obtain ⟨kn0, kn1, kn2⟩ := X_n.out
  go_wp2_with fail
  clear kx0 kx1 kx2 kn0 kn1 kn2
  refine (HAd.out _ _ _ _ _ R_x.out (HT.out.below b15) R_n.out).mono ?_
  rintro r w16 ⟨xd, yd, rfl, ho, hc⟩
  have b16 := b15.trans (hc.mono b15.size)
  replace F_b := Qf.below F_b (Qx.lt X_b) hc
  replace X_b := Qx.below X_b hc
  replace F_r := Qf.below F_r (Qx.lt X_r) hc
  replace X_r := Qx.below X_r hc
  replace F_x := Qf.below F_x (Qx.lt X_x) hc
  replace X_x := Qx.below X_x hc
  replace F_n := Qf.below F_n (Qx.lt X_n) hc
  replace X_n := Qx.below X_n hc
  replace R_r := Lib.hid (R_r.out.below hc)
  replace R_x := Lib.hid (R_x.out.below hc)
  replace R_n := Lib.hid (R_n.out.below hc)
  clear hc b15
  have R_d := Lib.hid ho.rd
  clear ho
  have z_d := b16.size
  have hd := (Below.refl w16.heap.size w16).alloc (Nat.le_refl _) (.cells #[.bool D.p.neg, .slice xd (dg 1000000000 D.p.m).length yd, .int .i64 D.p.e] 24)
  have b17 := b16.trans (hd.mono b16.size)
  have l_b_d := Qx.lt X_b
  have m_b_d := not_eq_lt l_b_d
  have m_d_b := not_eq_gt l_b_d
  clear l_b_d
  have l_r_d := Qx.lt X_r
  have m_r_d := not_eq_lt l_r_d
  have m_d_r := not_eq_gt l_r_d
  clear l_r_d
  have l_x_d := Qx.lt X_x
  have m_x_d := not_eq_lt l_x_d
  have m_d_x := not_eq_gt l_x_d
  clear l_x_d
  have l_n_d := Qx.lt X_n
  have m_n_d := not_eq_lt l_n_d
  have m_d_n := not_eq_gt l_n_d
  clear l_n_d
  replace F_b := Qf.below F_b (Qx.lt X_b) hd
  replace X_b := Qx.below X_b hd
  replace F_r := Qf.below F_r (Qx.lt X_r) hd
  replace X_r := Qx.below X_r hd
  replace F_x := Qf.below F_x (Qx.lt X_x) hd
  replace X_x := Qx.below X_x hd
  replace F_n := Qf.below F_n (Qx.lt X_n) hd
  replace X_n := Qx.below X_n hd
  replace R_r := Lib.hid (R_r.out.below hd)
  replace R_x := Lib.hid (R_x.out.below hd)
  replace R_n := Lib.hid (R_n.out.below hd)
  replace R_d := Lib.hid (R_d.out.below hd)
  have X_d := Qx.new w16 (.bool D.p.neg) (.slice xd (dg 1000000000 D.p.m).length yd) (.int .i64 D.p.e) 24
  have F_d := Qf.new w16 (.bool D.p.neg) (.slice xd (dg 1000000000 D.p.m).length yd) (.int .i64 D.p.e) 24
  clear hd b16
  clear X_n F_n
  clear R_n
  obtain ⟨kd0, kd1, kd2⟩ := X_d.out
  obtain ⟨kb0, kb1, kb2⟩ := X_b.out
  go_wp2_with fail
  clear kd0 kd1 kd2 kb0 kb1 kb2
  refine (HD.out _ _ _ b17 R_d.out).mono ?_
  rintro r w18 ⟨xz, yz, rfl, ho, hc⟩
  have b18 := b17.trans (hc.mono b17.size)
  replace F_b := Qf.below F_b (Qx.lt X_b) hc
  replace X_b := Qx.below X_b hc
  replace F_r := Qf.below F_r (Qx.lt X_r) hc
  replace X_r := Qx.below X_r hc
  replace F_x := Qf.below F_x (Qx.lt X_x) hc
  replace X_x := Qx.below X_x hc
  replace F_d := Qf.below F_d (Qx.lt X_d) hc
  replace X_d := Qx.below X_d hc
  replace R_r := Lib.hid (R_r.out.below hc)
  replace R_x := Lib.hid (R_x.out.below hc)
  replace R_d := Lib.hid (R_d.out.below hc)
  clear hc b17
  have R_z := Lib.hid ho
  clear ho
  have z_z := b18.size
  have hd := (Below.refl w18.heap.size w18).alloc (Nat.le_refl _) (.cells #[.bool Z.p.neg, .slice xz (dg 1000000000 Z.p.m).length yz, .int .i64 Z.p.e] 24)
  have b19 := b18.trans (hd.mono b18.size)
  have l_b_z := Qx.lt X_b
  have m_b_z := not_eq_lt l_b_z
  have m_z_b := not_eq_gt l_b_z
  clear l_b_z
  have l_r_z := Qx.lt X_r
  have m_r_z := not_eq_lt l_r_z
  have m_z_r := not_eq_gt l_r_z
  clear l_r_z
  have l_x_z := Qx.lt X_x
  have m_x_z := not_eq_lt l_x_z
  have m_z_x := not_eq_gt l_x_z
  clear l_x_z
  have l_d_z := Qx.lt X_d
  have m_d_z := not_eq_lt l_d_z
  have m_z_d := not_eq_gt l_d_z
  clear l_d_z
  replace F_b := Qf.below F_b (Qx.lt X_b) hd
  replace X_b := Qx.below X_b hd
  replace F_r := Qf.below F_r (Qx.lt X_r) hd
  replace X_r := Qx.below X_r hd
  replace F_x := Qf.below F_x (Qx.lt X_x) hd
  replace X_x := Qx.below X_x hd
  replace F_d := Qf.below F_d (Qx.lt X_d) hd
  replace X_d := Qx.below X_d hd
  replace R_r := Lib.hid (R_r.out.below hd)
  replace R_x := Lib.hid (R_x.out.below hd)
  replace R_d := Lib.hid (R_d.out.below hd)
  replace R_z := Lib.hid (R_z.out.below hd)
  have X_z := Qx.new w18 (.bool Z.p.neg) (.slice xz (dg 1000000000 Z.p.m).length yz) (.int .i64 Z.p.e) 24
  have F_z := Qf.new w18 (.bool Z.p.neg) (.slice xz (dg 1000000000 Z.p.m).length yz) (.int .i64 Z.p.e) 24
  clear hd b18
  clear X_d F_d
  clear R_d
  clear X_b F_b
  obtain ⟨kr0, kr1, kr2⟩ := X_r.out
  go_wp2_with fail
  clear kr0 kr1 kr2
  refine (HWh.out _ _ _ R_r.out (HT.out.below b19)).mono ?_
  rintro r w20 ⟨rfl, hc⟩
  have b20 := b19.trans (hc.mono b19.size)
  replace F_r := Qf.below F_r (Qx.lt X_r) hc
  replace X_r := Qx.below X_r hc
  replace F_x := Qf.below F_x (Qx.lt X_x) hc
  replace X_x := Qx.below X_x hc
  replace F_z := Qf.below F_z (Qx.lt X_z) hc
  replace X_z := Qx.below X_z hc
  replace R_r := Lib.hid (R_r.out.below hc)
  replace R_x := Lib.hid (R_x.out.below hc)
  replace R_z := Lib.hid (R_z.out.below hc)
  clear hc b19
  have F1 : (((dg 1000000000 R.m).length : Int) == 0) = true ∨ ((((dg 1000000000 R.m).length : Int) == 0) = false ∧ (R.neg == P.neg) = true) := by
    rcases HSR.out with h | h
    · exact .inl (by rw [h, dg_zero]; rfl)
    · by_cases h2 : R.m = 0
      · exact .inl (by rw [h2, dg_zero]; rfl)
      · exact .inr ⟨by rw [dg_pos (by omega) (by omega : 0 < R.m)]; simp; omega, by simp [h]⟩
  have F2 : ((D.err : Int) != 0) = true ∨ (((D.err : Int) != 0) = false ∧ ((Z.err : Int) == 0) = true ∧ (((dg 1000000000 Z.p.m).length : Int) == 0) = true) := by
    by_cases h : D.err = 0
    · refine .inr ⟨by simp [h], ?_⟩
      rw [HL.out h]
      exact ⟨rfl, by rw [show (⟨0, zP⟩ : Ans).p.m = 0 from rfl, dg_zero]; rfl⟩
    · exact .inl (by simp [h])
  clear HL HSR
  generalize (dg 1000000000 R.m).length = nR at *
  generalize (dg 1000000000 Z.p.m).length = nZ at *
  obtain ⟨kr0, kr1, kr2⟩ := X_r.out
  obtain ⟨kx0, kx1, kx2⟩ := X_x.out
  obtain ⟨kz0, kz1, kz2⟩ := X_z.out
  have B_ := Lib.hid b20
  clear b20
  rcases F1 with j1 | ⟨j1, j2⟩ <;> rcases F2 with j3 | ⟨j3, j4, j5⟩
  all_goals
    go_wp2
    go_ret
    exact ⟨rfl, B_.out⟩
theorem less_walk {s1 s2 : Bool} {a1 a2 : Option Addr} {n1 n2 ca1 ca2 : Nat} {e1 e2 : Int} (w : World) (htab : Tab w) (ha : IsRow w a1 n1 ca1) (_ : (Lit.int .i64 e1).wf = true) (hb : IsRow w a2 n2 ca2) (_ : (Lit.int .i64 e2).wf = true) :
    Calls Tryz.prog 9 #[.agg #[.bool s1, .slice a1 n1 ca1, .int .i64 e1], .agg #[.bool s2, .slice a2 n2 ca2, .int .i64 e2]] w fun r w' => r = .returned (.bool true) ∧ Below w.heap.size w w' := by
  obtain ⟨l1, rfl, lo1, rd1, hm1⟩ := ha
  obtain ⟨l2, rfl, lo2, rd2, hm2⟩ := hb
  unfold maxLen at hm1 hm2
  by_cases h0 : (remA (normA l1.length s1 (vl 1000000000 l1) e1) (normA l2.length s2 (vl 1000000000 l2) e2)).err = 0
  · exact less_ok s1 s2 a1 a2 ca1 ca2 l1 l2 e1 e2 w (by omega) (by omega) lo1 lo2 rd1 rd2 htab h0
  · exact less_no s1 s2 a1 a2 ca1 ca2 l1 l2 e1 e2 w (by omega) (by omega) lo1 lo2 rd1 rd2 htab h0
end Go.Proofs.YtimfpgpomafflaaGreatDoor
