/- Walk of the law DecOrder where the numbers may be and the first is below the second. -/
import Derived.Test.YtofeckdhhaoobaaDoorDecPls
namespace Go.Proofs.YtofeckdhhaoobaaDoor
open Go.RowKit LM

set_option maxHeartbeats 16000000 in
set_option maxRecDepth 20000 in
theorem order2_n (s1 s2 s3 : Bool) (a1 a2 a3 : Option Addr) (c1 c2 c3 : Nat) (l1 l2 l3 : List Nat) (e1 e2 e3 : Int) (w : World) (h1 : l1.length ≤ 9223372036854775807) (h2 : l2.length ≤ 9223372036854775807) (h3 : l3.length ≤ 9223372036854775807) (hlo1 : Lo 4294967296 l1) (hlo2 : Lo 4294967296 l2) (hlo3 : Lo 4294967296 l3) (hr1 : Rd w .u32 a1 l1) (hr2 : Rd w .u32 a2 l2) (hr3 : Rd w .u32 a3 l3) (htab : Tab w) (hA : (normA l1.length s1 (vl 1000000000 l1) e1).err = 0) (hB : (normA l2.length s2 (vl 1000000000 l2) e2).err = 0) (hM : cmpP (normA l1.length s1 (vl 1000000000 l1) e1).p (normA l2.length s2 (vl 1000000000 l2) e2).p = -1) :
    Calls Tryd.prog 11 #[.agg #[.bool s1, .slice a1 l1.length c1, .int .i64 e1], .agg #[.bool s2, .slice a2 l2.length c2, .int .i64 e2], .agg #[.bool s3, .slice a3 l3.length c3, .int .i64 e3]] w fun r w' => r = .returned (.bool true) ∧ Below w.heap.size w w' := by
  have pA := normA_plain l1.length s1 (vl 1000000000 l1) e1
  have pB := normA_plain l2.length s2 (vl 1000000000 l2) e2
  have pC := normA_plain l3.length s3 (vl 1000000000 l3) e3
  have iA := normA_in l1.length s1 (vl 1000000000 l1) e1
  have iB := normA_in l2.length s2 (vl 1000000000 l2) e2
  have hCn := normA_err3 l3.length s3 (vl 1000000000 l3) e3
  have hfl := normA_flip_p l2.length s2 (vl 1000000000 l2) e2
  have hC1 := fun W hb => DCmp_any s1 s2 a1 a2 c1 c2 l1 l2 e1 e2 W h1 h2 hlo1 hlo2 (hr1.below' (w' := W) hb (Nat.le_refl _)) (hr2.below' (w' := W) hb (Nat.le_refl _)) (htab.below hb)
  have hC2 := fun W hb => DCmp_any s2 s1 a2 a1 c2 c1 l2 l1 e2 e1 W h2 h1 hlo2 hlo1 (hr2.below' (w' := W) hb (Nat.le_refl _)) (hr1.below' (w' := W) hb (Nat.le_refl _)) (htab.below hb)
  have hNa := fun W hb => DNorm_any s1 a1 c1 l1 e1 W h1 hlo1 (hr1.below' (w' := W) hb (Nat.le_refl _)) (htab.below hb)
  have hNb := fun W hb => DNorm_any s2 a2 c2 l2 e2 W h2 hlo2 (hr2.below' (w' := W) hb (Nat.le_refl _)) (htab.below hb)
  have hNg := fun W hb => DNeg_any s2 a2 c2 l2 e2 W h2 hlo2 (hr2.below' (w' := W) hb (Nat.le_refl _)) (htab.below hb)
  have hAd := fun W (p : Pl) (hp : PlainP p) (ip : inR p = true) a c hb rd => cAddRP (p := p) hp ip a c W rd (htab.below hb) s1 a1 c1 l1 e1 h1 hlo1 (hr1.below' (w' := W) hb (Nat.le_refl _))
  have hAC := fun W hb => DAdd_any s1 s3 a1 a3 c1 c3 l1 l3 e1 e3 W h1 h3 hlo1 hlo3 (hr1.below' (w' := W) hb (Nat.le_refl _)) (hr3.below' (w' := W) hb (Nat.le_refl _)) (htab.below hb)
  have hBC := fun W hb => DAdd_any s2 s3 a2 a3 c2 c3 l2 l3 e2 e3 W h2 h3 hlo2 hlo3 (hr2.below' (w' := W) hb (Nat.le_refl _)) (hr3.below' (w' := W) hb (Nat.le_refl _)) (htab.below hb)
  have hU := fun W hb => ((fun W hb => DCmp_any s2 s3 a2 a3 c2 c3 l2 l3 e2 e3 W h2 h3 hlo2 hlo3 (hr2.below' (w' := W) hb (Nat.le_refl _)) (hr3.below' (w' := W) hb (Nat.le_refl _)) (htab.below hb)) W hb).mono fun _ _ h => ResCm.num h
  have hV := fun W hb => ((fun W hb => DCmp_any s1 s3 a1 a3 c1 c3 l1 l3 e1 e3 W h1 h3 hlo1 hlo3 (hr1.below' (w' := W) hb (Nat.le_refl _)) (hr3.below' (w' := W) hb (Nat.le_refl _)) (htab.below hb)) W hb).mono fun _ _ h => ResCm.num h
  generalize normA l2.length (!s2) (vl 1000000000 l2) e2 = NB at *
  generalize normA l1.length s1 (vl 1000000000 l1) e1 = A at *
  generalize normA l2.length s2 (vl 1000000000 l2) e2 = B at *
  generalize normA l3.length s3 (vl 1000000000 l3) e3 = C at *
  obtain ⟨hL1, hL2⟩ := order_last hA hB pA pB pC
  have hDf := order_diff hA pA pB
  have pN : PlainP NB.p := by rw [hfl]; exact flip_plain pB
  have iN : inR NB.p = true := by rw [hfl, inR_flip]; exact iB
  have hS := fun x y c d W r1 r2 => sameD_any A.p.neg B.p.neg x y c d _ _ A.p.e B.p.e W (few_pl iA) (few_pl iB) r1 r2
  have hAd2 := fun W a c hb rd => hAd W NB.p pN iN a c hb rd
  rw [sameB_pl] at hS
  rw [← hfl] at hDf
  have hcm := cmp_zero pA pB
  rw [hM] at hL1 hL2 hDf hcm
  have hSd : decide (A.p = B.p) = false := by first | exact decide_eq_true (hcm.1 (by decide)) | exact decide_eq_false (fun k => absurd (hcm.2 k) (by decide))
  rw [hSd] at hS
  have hC1' := fun W hb => (hC1 W hb).mono fun _ _ h => ResCm.num h
  have hC2' := fun W hb => (hC2 W hb).mono fun _ _ h => ResCm.num h
  have u1 : cmU A B = -1 := by unfold cmU; rw [if_pos (show okP A B from ⟨hA, hB⟩), hM]
  have u2 : cmU B A = 1 := by unfold cmU; rw [if_pos (show okP B A from ⟨hB, hA⟩), cmp_turn pA pB, hM] <;> rfl
  rw [u1, pairE_ok hA hB] at hC1'
  rw [u2, pairE_ok hB hA] at hC2'
  clear hC1 hC2 hAd u1 u2 hSd hcm hM
  have pR1 := addA_plain A C
  have pR2 := addA_plain B C
  have iR1 := addA_in' A C
  have iR2 := addA_in' B C
  have er1 := addA_err (A := A) (B := C) (by omega) hCn
  have er2 := addA_err (A := B) (B := C) (by omega) hCn
  have er3 := addA_err (A := A) (B := ⟨0, NB.p⟩) (by omega) (by simp)
  generalize addA A ⟨0, NB.p⟩ = D at *
  generalize addA A C = R1 at *
  generalize addA B C = R2 at *
  have hK := fun x y c d W r1 ht r2 => cCmpPP pR1 iR1 x c W r1 ht pR2 iR2 y d r2
  generalize cmpP R1.p R2.p = K at *
  generalize cmU B C = U at *
  generalize cmU A C = V at *
  generalize pairE B C = E at *
  generalize pairE A C = E2 at *
  have HC1 := Lib.hid hC1'; have HC2 := Lib.hid hC2'; have HNA := Lib.hid hNa; have HNB := Lib.hid hNb; have HNG := Lib.hid hNg; have HAD := Lib.hid hAd2; have HAC := Lib.hid hAC; have HBC := Lib.hid hBC; have HU := Lib.hid hU; have HV := Lib.hid hV; have HS := Lib.hid hS; have HK := Lib.hid hK; have HTAB := Lib.hid htab
  have HL1 := Lib.hid hL1; have HL2 := Lib.hid hL2; have HDF := Lib.hid hDf
  have ER1 := Lib.hid er1; have ER2 := Lib.hid er2; have ER3 := Lib.hid er3
  clear hC1' hC2' hNa hNb hNg hAd2 hAC hBC hU hV hS hK htab hL1 hL2 hDf er1 er2 er3 pA pB pC iA iB hCn hfl pN iN hA hB pR1 pR2 iR1 iR2 hlo1 hlo2 hlo3 hr1 hr2 hr3
  go_enter Tryd.func11, Tryd.ntmps11
  have b1 := (((Below.refl w.heap.size w).alloc (Nat.le_refl _) (.cells #[.bool s1, .slice a1 l1.length c1, .int .i64 e1] 24)).alloc (by simp) (.cells #[.bool s2, .slice a2 l2.length c2, .int .i64 e2] 24)).alloc (by simp; omega) (.cells #[.bool s3, .slice a3 l3.length c3, .int .i64 e3] 24)
  have X_a := Bx.below (Bx.below (Bx.new w s1 a1 l1.length c1 e1 24) ((Below.refl _ _).alloc (Nat.le_refl _) (.cells #[.bool s2, .slice a2 l2.length c2, .int .i64 e2] 24))) ((Below.refl _ _).alloc (Nat.le_refl _) (.cells #[.bool s3, .slice a3 l3.length c3, .int .i64 e3] 24))
  have X_b := Bx.below (Bx.new (w.alloc (.cells #[.bool s1, .slice a1 l1.length c1, .int .i64 e1] 24)) s2 a2 l2.length c2 e2 24) ((Below.refl _ _).alloc (Nat.le_refl _) (.cells #[.bool s3, .slice a3 l3.length c3, .int .i64 e3] 24))
  have X_c := Bx.new ((w.alloc (.cells #[.bool s1, .slice a1 l1.length c1, .int .i64 e1] 24)).alloc (.cells #[.bool s2, .slice a2 l2.length c2, .int .i64 e2] 24)) s3 a3 l3.length c3 e3 24
  have z1 : (w.alloc (.cells #[.bool s1, .slice a1 l1.length c1, .int .i64 e1] 24)).heap.size = w.heap.size + 1 := by simp
  have z2 : ((w.alloc (.cells #[.bool s1, .slice a1 l1.length c1, .int .i64 e1] 24)).alloc (.cells #[.bool s2, .slice a2 l2.length c2, .int .i64 e2] 24)).heap.size = w.heap.size + 2 := by simp
  rw [z1] at X_b
  rw [z2] at X_c
  clear z1 z2
  go_wp2_with fail
  refine (shown_any _ (HTAB.out.below b1)).mono ?_
  rintro r w2 ⟨rfl, hc⟩
  have b2 := b1.trans (hc.mono b1.size)
  replace X_a := Bx.below X_a hc
  replace X_b := Bx.below X_b hc
  replace X_c := Bx.below X_c hc
  clear hc b1
  obtain ⟨ka0, ka1, ka2⟩ := X_a.out
  obtain ⟨kb0, kb1, kb2⟩ := X_b.out
  go_wp2_with fail
  refine (HC1.out _ b2).mono ?_
  rintro r w3 ⟨rfl, hc⟩
  clear ka0 ka1 ka2 kb0 kb1 kb2
  have b3 := b2.trans (hc.mono b2.size)
  replace X_a := Bx.below X_a hc
  replace X_b := Bx.below X_b hc
  replace X_c := Bx.below X_c hc
  clear hc b2
  obtain ⟨ka0, ka1, ka2⟩ := X_a.out
  obtain ⟨kb0, kb1, kb2⟩ := X_b.out
  go_wp2_with fail
  refine (HC2.out _ b3).mono ?_
  rintro r w4 ⟨rfl, hc⟩
  clear ka0 ka1 ka2 kb0 kb1 kb2
  have b4 := b3.trans (hc.mono b3.size)
  replace X_a := Bx.below X_a hc
  replace X_b := Bx.below X_b hc
  replace X_c := Bx.below X_c hc
  clear hc b3
  obtain ⟨ka0, ka1, ka2⟩ := X_a.out
  go_wp2_with fail
  refine (HNA.out _ b4).mono ?_
  rintro r w5 ⟨xx, yx, rfl, ho, hc⟩
  clear ka0 ka1 ka2
  have hd := (Below.refl w5.heap.size w5).alloc (Nat.le_refl _) (.cells #[.bool A.p.neg, .slice xx (dg 1000000000 A.p.m).length yx, .int .i64 A.p.e] 24)
  have hcd := hc.trans (hd.mono hc.size)
  have b5 := b4.trans (hcd.mono b4.size)
  replace X_a := Bx.below X_a hcd
  replace X_b := Bx.below X_b hcd
  replace X_c := Bx.below X_c hcd
  have X_x := Bx.new w5 A.p.neg xx (dg 1000000000 A.p.m).length yx A.p.e 24
  have R_x := ho.rd.below hd
  clear hc hd hcd ho b4
  obtain ⟨kb0, kb1, kb2⟩ := X_b.out
  go_wp2_with fail
  refine (HNB.out _ b5).mono ?_
  rintro r w6 ⟨xy, yy, rfl, ho, hc⟩
  clear kb0 kb1 kb2
  have hd := (Below.refl w6.heap.size w6).alloc (Nat.le_refl _) (.cells #[.bool B.p.neg, .slice xy (dg 1000000000 B.p.m).length yy, .int .i64 B.p.e] 24)
  have hcd := hc.trans (hd.mono hc.size)
  have b6 := b5.trans (hcd.mono b5.size)
  replace X_a := Bx.below X_a hcd
  replace X_b := Bx.below X_b hcd
  replace X_c := Bx.below X_c hcd
  replace X_x := Bx.below X_x hcd
  replace R_x := R_x.below hcd
  have X_y := Bx.new w6 B.p.neg xy (dg 1000000000 B.p.m).length yy B.p.e 24
  have R_y := ho.rd.below hd
  clear hc hd hcd ho b5
  obtain ⟨kb0, kb1, kb2⟩ := X_b.out
  go_wp2_with fail
  refine (HNG.out _ b6).mono ?_
  rintro r w7 ⟨xg, yg, rfl, ho, hc⟩
  clear kb0 kb1 kb2
  have hd := (Below.refl w7.heap.size w7).alloc (Nat.le_refl _) (.cells #[.bool NB.p.neg, .slice xg (dg 1000000000 NB.p.m).length yg, .int .i64 NB.p.e] 24)
  have hcd := hc.trans (hd.mono hc.size)
  have b7 := b6.trans (hcd.mono b6.size)
  replace X_a := Bx.below X_a hcd
  replace X_b := Bx.below X_b hcd
  replace X_c := Bx.below X_c hcd
  replace X_x := Bx.below X_x hcd
  replace X_y := Bx.below X_y hcd
  replace R_x := R_x.below hcd
  replace R_y := R_y.below hcd
  have X_g := Bx.new w7 NB.p.neg xg (dg 1000000000 NB.p.m).length yg NB.p.e 24
  have R_g := ho.rd.below hd
  clear hc hd hcd ho b6
  obtain ⟨ka0, ka1, ka2⟩ := X_a.out
  obtain ⟨kg0, kg1, kg2⟩ := X_g.out
  go_wp2_with fail
  refine (HAD.out _ _ _ b7 R_g).mono ?_
  rintro r w8 ⟨xd, yd, rfl, ho, hc⟩
  clear ka0 ka1 ka2 kg0 kg1 kg2
  have hd := (Below.refl w8.heap.size w8).alloc (Nat.le_refl _) (.cells #[.bool D.p.neg, .slice xd (dg 1000000000 D.p.m).length yd, .int .i64 D.p.e] 24)
  have hcd := hc.trans (hd.mono hc.size)
  have b8 := b7.trans (hcd.mono b7.size)
  replace X_a := Bx.below X_a hcd
  replace X_b := Bx.below X_b hcd
  replace X_c := Bx.below X_c hcd
  replace X_x := Bx.below X_x hcd
  replace X_y := Bx.below X_y hcd
  replace X_g := Bx.below X_g hcd
  replace R_x := R_x.below hcd
  replace R_y := R_y.below hcd
  replace R_g := R_g.below hcd
  have X_d := Bx.new w8 D.p.neg xd (dg 1000000000 D.p.m).length yd D.p.e 24
  have R_d := ho.rd.below hd
  clear hc hd hcd ho b7
  clear X_g
  clear R_g
  obtain ⟨kx0, kx1, kx2⟩ := X_x.out
  obtain ⟨ky0, ky1, ky2⟩ := X_y.out
  go_wp2_with fail
  refine (HS.out _ _ _ _ _ R_x R_y).mono ?_
  rintro r w9 ⟨rfl, hc⟩
  clear kx0 kx1 kx2 ky0 ky1 ky2
  have b9 := b8.trans (hc.mono b8.size)
  replace X_a := Bx.below X_a hc
  replace X_b := Bx.below X_b hc
  replace X_c := Bx.below X_c hc
  replace X_x := Bx.below X_x hc
  replace X_y := Bx.below X_y hc
  replace X_d := Bx.below X_d hc
  replace R_x := R_x.below hc
  replace R_y := R_y.below hc
  replace R_d := R_d.below hc
  clear hc b8
  clear X_x
  clear R_x
  clear X_y
  clear R_y
  have FE : (D.err = 0 ∧ ((D.err : Int) == 0) = true ∧ D.p.neg = true ∧ (D.p.m = 0 ↔ False)) ∨ (¬ D.err = 0 ∧ ((D.err : Int) == 0) = false) := by
    by_cases hd : D.err = 0
    · obtain ⟨q1, q2⟩ := HDF.out hd
      refine .inl ⟨hd, by simp [hd], ?_, ?_⟩
      · first | exact q1.1 (by decide) | exact Bool.eq_false_iff.2 (fun k => absurd (q1.2 k) (by decide))
      · exact ⟨fun k => (by first | exact trivial | exact absurd (q2.2 k) (by decide)), fun k => (by first | exact k.elim | exact q2.1 (by decide))⟩
    · exact .inr ⟨hd, by simp [hd]⟩
  clear HDF
  rcases FE with ⟨-, hd, hn, hm⟩ | ⟨-, hd⟩
  · have hm0 : 0 < D.p.m := by have : ¬ D.p.m = 0 := fun k => hm.1 k; omega
    have hl0 : 0 < (dg 1000000000 D.p.m).length := by rw [dg_pos (by omega) hm0]; simp
    rw [hn] at X_d
    generalize (dg 1000000000 D.p.m).length = nd at *
    obtain ⟨kd0, kd1, kd2⟩ := X_d.out
    have hl1 : ((nd : Int) == 0) = false := by simp; omega
    have hl2 : ¬ (nd : Int) = 0 := by omega
    clear hm hm0 hn
    clear X_d
    clear R_d
    obtain ⟨ka0, ka1, ka2⟩ := X_a.out
    obtain ⟨kc0, kc1, kc2⟩ := X_c.out
    go_wp2_with fail
    refine (HAC.out _ b9).mono ?_
    rintro r w10 ⟨xac, yac, rfl, ho, hc⟩
    clear ka0 ka1 ka2 kc0 kc1 kc2
    have hd := (Below.refl w10.heap.size w10).alloc (Nat.le_refl _) (.cells #[.bool R1.p.neg, .slice xac (dg 1000000000 R1.p.m).length yac, .int .i64 R1.p.e] 24)
    have hcd := hc.trans (hd.mono hc.size)
    have b10 := b9.trans (hcd.mono b9.size)
    replace X_a := Bx.below X_a hcd
    replace X_b := Bx.below X_b hcd
    replace X_c := Bx.below X_c hcd
    have X_ac := Bx.new w10 R1.p.neg xac (dg 1000000000 R1.p.m).length yac R1.p.e 24
    have R_ac := ho.rd.below hd
    clear hc hd hcd ho b9
    obtain ⟨kb0, kb1, kb2⟩ := X_b.out
    obtain ⟨kc0, kc1, kc2⟩ := X_c.out
    go_wp2_with fail
    refine (HBC.out _ b10).mono ?_
    rintro r w11 ⟨xbc, ybc, rfl, ho, hc⟩
    clear kb0 kb1 kb2 kc0 kc1 kc2
    have hd := (Below.refl w11.heap.size w11).alloc (Nat.le_refl _) (.cells #[.bool R2.p.neg, .slice xbc (dg 1000000000 R2.p.m).length ybc, .int .i64 R2.p.e] 24)
    have hcd := hc.trans (hd.mono hc.size)
    have b11 := b10.trans (hcd.mono b10.size)
    replace X_a := Bx.below X_a hcd
    replace X_b := Bx.below X_b hcd
    replace X_c := Bx.below X_c hcd
    replace X_ac := Bx.below X_ac hcd
    replace R_ac := R_ac.below hcd
    have X_bc := Bx.new w11 R2.p.neg xbc (dg 1000000000 R2.p.m).length ybc R2.p.e 24
    have R_bc := ho.rd.below hd
    clear hc hd hcd ho b10
    obtain ⟨kac0, kac1, kac2⟩ := X_ac.out
    obtain ⟨kbc0, kbc1, kbc2⟩ := X_bc.out
    go_wp2_with fail
    refine (HK.out _ _ _ _ _ R_ac (HTAB.out.below b11) R_bc).mono ?_
    rintro r w12 ⟨rfl, hc⟩
    clear kac0 kac1 kac2 kbc0 kbc1 kbc2
    have b12 := b11.trans (hc.mono b11.size)
    replace X_a := Bx.below X_a hc
    replace X_b := Bx.below X_b hc
    replace X_c := Bx.below X_c hc
    replace X_ac := Bx.below X_ac hc
    replace X_bc := Bx.below X_bc hc
    replace R_ac := R_ac.below hc
    replace R_bc := R_bc.below hc
    clear hc b11
    clear X_ac
    clear R_ac
    clear X_bc
    clear R_bc
    obtain ⟨kb0, kb1, kb2⟩ := X_b.out
    obtain ⟨kc0, kc1, kc2⟩ := X_c.out
    go_wp2_with fail
    refine (HU.out _ b12).mono ?_
    rintro r w13 ⟨rfl, hc⟩
    clear kb0 kb1 kb2 kc0 kc1 kc2
    have b13 := b12.trans (hc.mono b12.size)
    replace X_a := Bx.below X_a hc
    replace X_b := Bx.below X_b hc
    replace X_c := Bx.below X_c hc
    clear hc b12
    obtain ⟨ka0, ka1, ka2⟩ := X_a.out
    obtain ⟨kc0, kc1, kc2⟩ := X_c.out
    go_wp2_with fail
    refine (HV.out _ b13).mono ?_
    rintro r w14 ⟨rfl, hc⟩
    clear ka0 ka1 ka2 kc0 kc1 kc2
    have b14 := b13.trans (hc.mono b13.size)
    replace X_a := Bx.below X_a hc
    replace X_b := Bx.below X_b hc
    replace X_c := Bx.below X_c hc
    clear hc b13
    clear X_a
    clear X_b
    clear X_c
    have e1 := HL1.out; have e2 := HL2.out; have e3 := ER1.out; have e4 := ER2.out
    have F1 : ((E : Int) == 0) = false ∨ (((E : Int) == 0) = true ∧ ((decide (U ≤ 0) = false ∧ ¬ U ≤ 0) ∨ ((decide (U ≤ 0) = true ∧ U ≤ 0) ∧ (decide (0 < V) = false ∧ ¬ 0 < V)))) := by
      by_cases he : E = 0
      · refine .inr ⟨by simp [he], ?_⟩
        by_cases hu : U ≤ 0
        · exact .inr ⟨⟨decide_eq_true hu, hu⟩, ⟨decide_eq_false (by have := e1 he (by decide) hu; omega), by have := e1 he (by decide) hu; omega⟩⟩
        · exact .inl ⟨decide_eq_false hu, hu⟩
      · exact .inl (by simp [he])
    have F2 : (R1.err = 0 ∧ R2.err = 0 ∧ K = -1) ∨ (((R1.err : Int) + (R2.err : Int) + 0 != 0) = true ∧ ¬ (R1.err : Int) + (R2.err : Int) = 0) := by
      by_cases k1 : R1.err = 0
      · by_cases k2 : R2.err = 0
        · exact .inl ⟨k1, k2, e2 k1 k2⟩
        · exact .inr ⟨by simp; omega, by omega⟩
      · exact .inr ⟨by simp; omega, by omega⟩
    have m0 : (0 : Int) ≤ (R1.err : Int) := by omega
    have m1 : (R1.err : Int) ≤ 3 := by omega
    have m2 : (0 : Int) ≤ (R2.err : Int) := by omega
    have m3 : (R2.err : Int) ≤ 3 := by omega
    clear HL1 HL2 ER1 ER2 ER3 e1 e2 e3 e4 HC1 HC2 HNA HNB HNG HAD HAC HBC HU HV HS HK HTAB
    have B_ := Lib.hid b14
    clear b14
    rcases F2 with ⟨j1, j2, rfl⟩ | ⟨j1, j2⟩
    · rw [j1, j2]
      clear j1 j2 m0 m1 m2 m3
      rcases F1 with j3 | ⟨j3, ⟨j4, j5⟩ | ⟨⟨j4, j5⟩, j6⟩⟩
      all_goals
        go_wp2
        go_ret
        exact ⟨rfl, B_.out⟩
    · rcases F1 with j3 | ⟨j3, ⟨j4, j5⟩ | ⟨⟨j4, j5⟩, j6⟩⟩
      all_goals
        go_wp2
        go_ret
        exact ⟨rfl, B_.out⟩
  · clear X_d
    clear R_d
    obtain ⟨ka0, ka1, ka2⟩ := X_a.out
    obtain ⟨kc0, kc1, kc2⟩ := X_c.out
    go_wp2_with fail
    refine (HAC.out _ b9).mono ?_
    rintro r w10 ⟨xac, yac, rfl, ho, hc⟩
    clear ka0 ka1 ka2 kc0 kc1 kc2
    have hd := (Below.refl w10.heap.size w10).alloc (Nat.le_refl _) (.cells #[.bool R1.p.neg, .slice xac (dg 1000000000 R1.p.m).length yac, .int .i64 R1.p.e] 24)
    have hcd := hc.trans (hd.mono hc.size)
    have b10 := b9.trans (hcd.mono b9.size)
    replace X_a := Bx.below X_a hcd
    replace X_b := Bx.below X_b hcd
    replace X_c := Bx.below X_c hcd
    have X_ac := Bx.new w10 R1.p.neg xac (dg 1000000000 R1.p.m).length yac R1.p.e 24
    have R_ac := ho.rd.below hd
    clear hc hd hcd ho b9
    obtain ⟨kb0, kb1, kb2⟩ := X_b.out
    obtain ⟨kc0, kc1, kc2⟩ := X_c.out
    go_wp2_with fail
    refine (HBC.out _ b10).mono ?_
    rintro r w11 ⟨xbc, ybc, rfl, ho, hc⟩
    clear kb0 kb1 kb2 kc0 kc1 kc2
    have hd := (Below.refl w11.heap.size w11).alloc (Nat.le_refl _) (.cells #[.bool R2.p.neg, .slice xbc (dg 1000000000 R2.p.m).length ybc, .int .i64 R2.p.e] 24)
    have hcd := hc.trans (hd.mono hc.size)
    have b11 := b10.trans (hcd.mono b10.size)
    replace X_a := Bx.below X_a hcd
    replace X_b := Bx.below X_b hcd
    replace X_c := Bx.below X_c hcd
    replace X_ac := Bx.below X_ac hcd
    replace R_ac := R_ac.below hcd
    have X_bc := Bx.new w11 R2.p.neg xbc (dg 1000000000 R2.p.m).length ybc R2.p.e 24
    have R_bc := ho.rd.below hd
    clear hc hd hcd ho b10
    obtain ⟨kac0, kac1, kac2⟩ := X_ac.out
    obtain ⟨kbc0, kbc1, kbc2⟩ := X_bc.out
    go_wp2_with fail
    refine (HK.out _ _ _ _ _ R_ac (HTAB.out.below b11) R_bc).mono ?_
    rintro r w12 ⟨rfl, hc⟩
    clear kac0 kac1 kac2 kbc0 kbc1 kbc2
    have b12 := b11.trans (hc.mono b11.size)
    replace X_a := Bx.below X_a hc
    replace X_b := Bx.below X_b hc
    replace X_c := Bx.below X_c hc
    replace X_ac := Bx.below X_ac hc
    replace X_bc := Bx.below X_bc hc
    replace R_ac := R_ac.below hc
    replace R_bc := R_bc.below hc
    clear hc b11
    clear X_ac
    clear R_ac
    clear X_bc
    clear R_bc
    obtain ⟨kb0, kb1, kb2⟩ := X_b.out
    obtain ⟨kc0, kc1, kc2⟩ := X_c.out
    go_wp2_with fail
    refine (HU.out _ b12).mono ?_
    rintro r w13 ⟨rfl, hc⟩
    clear kb0 kb1 kb2 kc0 kc1 kc2
    have b13 := b12.trans (hc.mono b12.size)
    replace X_a := Bx.below X_a hc
    replace X_b := Bx.below X_b hc
    replace X_c := Bx.below X_c hc
    clear hc b12
    obtain ⟨ka0, ka1, ka2⟩ := X_a.out
    obtain ⟨kc0, kc1, kc2⟩ := X_c.out
    go_wp2_with fail
    refine (HV.out _ b13).mono ?_
    rintro r w14 ⟨rfl, hc⟩
    clear ka0 ka1 ka2 kc0 kc1 kc2
    have b14 := b13.trans (hc.mono b13.size)
    replace X_a := Bx.below X_a hc
    replace X_b := Bx.below X_b hc
    replace X_c := Bx.below X_c hc
    clear hc b13
    clear X_a
    clear X_b
    clear X_c
    have e1 := HL1.out; have e2 := HL2.out; have e3 := ER1.out; have e4 := ER2.out
    have F1 : ((E : Int) == 0) = false ∨ (((E : Int) == 0) = true ∧ ((decide (U ≤ 0) = false ∧ ¬ U ≤ 0) ∨ ((decide (U ≤ 0) = true ∧ U ≤ 0) ∧ (decide (0 < V) = false ∧ ¬ 0 < V)))) := by
      by_cases he : E = 0
      · refine .inr ⟨by simp [he], ?_⟩
        by_cases hu : U ≤ 0
        · exact .inr ⟨⟨decide_eq_true hu, hu⟩, ⟨decide_eq_false (by have := e1 he (by decide) hu; omega), by have := e1 he (by decide) hu; omega⟩⟩
        · exact .inl ⟨decide_eq_false hu, hu⟩
      · exact .inl (by simp [he])
    have F2 : (R1.err = 0 ∧ R2.err = 0 ∧ K = -1) ∨ (((R1.err : Int) + (R2.err : Int) + 0 != 0) = true ∧ ¬ (R1.err : Int) + (R2.err : Int) = 0) := by
      by_cases k1 : R1.err = 0
      · by_cases k2 : R2.err = 0
        · exact .inl ⟨k1, k2, e2 k1 k2⟩
        · exact .inr ⟨by simp; omega, by omega⟩
      · exact .inr ⟨by simp; omega, by omega⟩
    have m0 : (0 : Int) ≤ (R1.err : Int) := by omega
    have m1 : (R1.err : Int) ≤ 3 := by omega
    have m2 : (0 : Int) ≤ (R2.err : Int) := by omega
    have m3 : (R2.err : Int) ≤ 3 := by omega
    clear HL1 HL2 ER1 ER2 ER3 e1 e2 e3 e4 HC1 HC2 HNA HNB HNG HAD HAC HBC HU HV HS HK HTAB
    have B_ := Lib.hid b14
    clear b14
    rcases F2 with ⟨j1, j2, rfl⟩ | ⟨j1, j2⟩
    · rw [j1, j2]
      clear j1 j2 m0 m1 m2 m3
      rcases F1 with j3 | ⟨j3, ⟨j4, j5⟩ | ⟨⟨j4, j5⟩, j6⟩⟩
      all_goals
        go_wp2
        go_ret
        exact ⟨rfl, B_.out⟩
    · rcases F1 with j3 | ⟨j3, ⟨j4, j5⟩ | ⟨⟨j4, j5⟩, j6⟩⟩
      all_goals
        go_wp2
        go_ret
        exact ⟨rfl, B_.out⟩
end Go.Proofs.YtofeckdhhaoobaaDoor
