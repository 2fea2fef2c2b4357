/- Walk of the law DecRing where the sum may not be. -/
import Derived.Test.YtofeckdhhaoobaaDoorDecPls
namespace Go.Proofs.YtofeckdhhaoobaaDoor
open Go.RowKit LM

set_option maxHeartbeats 16000000 in
set_option maxRecDepth 20000 in
theorem ring2_b (s1 s2 s3 : Bool) (a1 a2 a3 : Option Addr) (c1 c2 c3 : Nat) (l1 l2 l3 : List Nat) (e1 e2 e3 : Int) (w : World) (h1 : l1.length ≤ 9223372036854775807) (h2 : l2.length ≤ 9223372036854775807) (h3 : l3.length ≤ 9223372036854775807) (hlo1 : Lo 4294967296 l1) (hlo2 : Lo 4294967296 l2) (hlo3 : Lo 4294967296 l3) (hr1 : Rd w .u32 a1 l1) (hr2 : Rd w .u32 a2 l2) (hr3 : Rd w .u32 a3 l3) (htab : Tab w) (hg1 : ¬ (addA (normA l1.length s1 (vl 1000000000 l1) e1) (normA l2.length s2 (vl 1000000000 l2) e2)).err = 0) :
    Calls Tryd.prog 10 #[.agg #[.bool s1, .slice a1 l1.length c1, .int .i64 e1], .agg #[.bool s2, .slice a2 l2.length c2, .int .i64 e2], .agg #[.bool s3, .slice a3 l3.length c3, .int .i64 e3]] w fun r w' => r = .returned (.bool true) ∧ Below w.heap.size w w' := by
  have pA := normA_plain l1.length s1 (vl 1000000000 l1) e1
  have pB := normA_plain l2.length s2 (vl 1000000000 l2) e2
  have pC := normA_plain l3.length s3 (vl 1000000000 l3) e3
  have iA := normA_in l1.length s1 (vl 1000000000 l1) e1
  have iB := normA_in l2.length s2 (vl 1000000000 l2) e2
  have tA := normA_err l1.length s1 (vl 1000000000 l1) e1
  have tB := normA_err l2.length s2 (vl 1000000000 l2) e2
  have qA := normA_err3 l1.length s1 (vl 1000000000 l1) e1
  have qB := normA_err3 l2.length s2 (vl 1000000000 l2) e2
  have qC := normA_err3 l3.length s3 (vl 1000000000 l3) e3
  have hfl := normA_flip_p l2.length s2 (vl 1000000000 l2) e2
  have hfe := neg_err l2.length s2 (vl 1000000000 l2) e2
  have hAB := fun W hb => DAdd_any s1 s2 a1 a2 c1 c2 l1 l2 e1 e2 W h1 h2 hlo1 hlo2 (hr1.below' (w' := W) hb (Nat.le_refl _)) (hr2.below' (w' := W) hb (Nat.le_refl _)) (htab.below hb)
  have hBA := fun W hb => DAdd_any s2 s1 a2 a1 c2 c1 l2 l1 e2 e1 W h2 h1 hlo2 hlo1 (hr2.below' (w' := W) hb (Nat.le_refl _)) (hr1.below' (w' := W) hb (Nat.le_refl _)) (htab.below hb)
  have hPq := fun W hb => DMul_any s1 s2 a1 a2 c1 c2 l1 l2 e1 e2 W h1 h2 hlo1 hlo2 (hr1.below' (w' := W) hb (Nat.le_refl _)) (hr2.below' (w' := W) hb (Nat.le_refl _)) (htab.below hb)
  have hPr := fun W hb => DMul_any s2 s1 a2 a1 c2 c1 l2 l1 e2 e1 W h2 h1 hlo2 hlo1 (hr2.below' (w' := W) hb (Nat.le_refl _)) (hr1.below' (w' := W) hb (Nat.le_refl _)) (htab.below hb)
  have hNg := fun W hb => DNeg_any s2 a2 c2 l2 e2 W h2 hlo2 (hr2.below' (w' := W) hb (Nat.le_refl _)) (htab.below hb)
  have hNa := fun W hb => DNorm_any s1 a1 c1 l1 e1 W h1 hlo1 (hr1.below' (w' := W) hb (Nat.le_refl _)) (htab.below hb)
  have hP1 := fun W hb => DMul_any s1 s3 a1 a3 c1 c3 l1 l3 e1 e3 W h1 h3 hlo1 hlo3 (hr1.below' (w' := W) hb (Nat.le_refl _)) (hr3.below' (w' := W) hb (Nat.le_refl _)) (htab.below hb)
  have hP2 := fun W hb => DMul_any s2 s3 a2 a3 c2 c3 l2 l3 e2 e3 W h2 h3 hlo2 hlo3 (hr2.below' (w' := W) hb (Nat.le_refl _)) (hr3.below' (w' := W) hb (Nat.le_refl _)) (htab.below hb)
  have hP3 := fun W (p : Pl) (hp : PlainP p) (ip : inR p = true) a c hb rd => cMulPR (p := p) hp ip a c W rd (htab.below hb) s3 a3 c3 l3 e3 h3 hlo3 (hr3.below' (w' := W) hb (Nat.le_refl _))
  generalize normA l2.length (!s2) (vl 1000000000 l2) e2 = NB at *
  generalize normA l1.length s1 (vl 1000000000 l1) e1 = A at *
  generalize normA l2.length s2 (vl 1000000000 l2) e2 = B at *
  generalize normA l3.length s3 (vl 1000000000 l3) e3 = C at *
  obtain ⟨hL1, hL2⟩ := ring_facts pA pB pC
  rw [← hfl] at hL1
  have pN : PlainP NB.p := by rw [hfl]; exact flip_plain pB
  have iN : inR NB.p = true := by rw [hfl, inR_flip]; exact iB
  rw [addA_turn tB tA] at hBA
  rw [mulA_turn tB tA] at hPr
  have eR := addA_err qA qB
  have eP1 := mulA_err qA qC
  have eP2 := mulA_err qB qC
  have pR := addA_plain A B
  have iR := addA_in' A B
  have eNB : (addA A B).err = 0 → NB.err = 0 := fun h => by rw [hfe]; exact (addA_ok h).2.1
  have iP := mulA_in' A B
  have pP1 := mulA_plain A C
  have pP2 := mulA_plain B C
  have iP1 := mulA_in' A C
  have iP2 := mulA_in' B C
  generalize addA A B = R at *
  generalize mulA A B = P at *
  generalize mulA A C = P1 at *
  generalize mulA B C = P2 at *
  have eP3 := mulA_err (A := ⟨0, R.p⟩) (B := C) (by simp) qC
  have iP3 := mulA_in' ⟨0, R.p⟩ C
  have hP3' := fun W a c hb rd => hP3 W R.p pR iR a c hb rd
  generalize mulA ⟨0, R.p⟩ C = P3 at *
  have eK := addV_err R.p NB.p
  have eK2 := addV_err P1.p P2.p
  have iK : inR (addV R.p NB.p).p = true := by have := addA_in' ⟨0, R.p⟩ ⟨0, NB.p⟩; rw [addA_pp, if_pos rfl] at this; exact this
  have iK2 : inR (addV P1.p P2.p).p = true := by have := addA_in' ⟨0, P1.p⟩ ⟨0, P2.p⟩; rw [addA_pp, if_pos rfl] at this; exact this
  have hBk := fun x y c d W r1 ht r2 => cAddPP pR iR x c W r1 ht pN iN y d r2
  have hTw := fun x y c d W r1 ht r2 => cAddPP pP1 iP1 x c W r1 ht pP2 iP2 y d r2
  generalize addV R.p NB.p = K at *
  generalize addV P1.p P2.p = K2 at *
  have hS := fun x y c d W (p : Pl) (ip : inR p = true) r1 r2 => sameD_any p.neg p.neg x y c d _ _ p.e p.e W (few_pl ip) (few_pl ip) r1 r2
  simp only [sameB_self7] at hS
  have HAB := Lib.hid hAB; have HBA := Lib.hid hBA; have HPQ := Lib.hid hPq; have HPR := Lib.hid hPr; have HNG := Lib.hid hNg; have HNA := Lib.hid hNa; have HP1 := Lib.hid hP1; have HP2 := Lib.hid hP2; have HP3 := Lib.hid hP3'; have HBK := Lib.hid hBk; have HTW := Lib.hid hTw; have HS := Lib.hid hS; have HTAB := Lib.hid htab
  have HL2 := Lib.hid hL2; have ER := Lib.hid (And.intro eR (And.intro eP1 (And.intro eP2 (And.intro eP3 eK2))))
  have IR := Lib.hid iR; have IP := Lib.hid iP; have IP3 := Lib.hid iP3; have IA := Lib.hid iA
  have HG1 := Lib.hid hg1
  clear hg1
  clear hAB hBA hPq hPr hNg hNa hP1 hP2 hP3 hP3' hBk hTw hS htab hL1 hL2 eR eP1 eP2 eP3 eK eK2 pA pB pC iA iB tA tB qA qB qC hfl hfe pN iN pR iR eNB iP pP1 pP2 iP1 iP2 iP3 iK iK2 hlo1 hlo2 hlo3 hr1 hr2 hr3
  go_enter Tryd.func10, Tryd.ntmps10
  have b1 := (((Below.refl w.heap.size w).alloc (Nat.le_refl _) (.cells #[.bool s1, .slice a1 l1.length c1, .int .i64 e1] 24)).alloc (by simp) (.cells #[.bool s2, .slice a2 l2.length c2, .int .i64 e2] 24)).alloc (by simp; omega) (.cells #[.bool s3, .slice a3 l3.length c3, .int .i64 e3] 24)
  have X_a := Bx.below (Bx.below (Bx.new w s1 a1 l1.length c1 e1 24) ((Below.refl _ _).alloc (Nat.le_refl _) (.cells #[.bool s2, .slice a2 l2.length c2, .int .i64 e2] 24))) ((Below.refl _ _).alloc (Nat.le_refl _) (.cells #[.bool s3, .slice a3 l3.length c3, .int .i64 e3] 24))
  have X_b := Bx.below (Bx.new (w.alloc (.cells #[.bool s1, .slice a1 l1.length c1, .int .i64 e1] 24)) s2 a2 l2.length c2 e2 24) ((Below.refl _ _).alloc (Nat.le_refl _) (.cells #[.bool s3, .slice a3 l3.length c3, .int .i64 e3] 24))
  have X_c := Bx.new ((w.alloc (.cells #[.bool s1, .slice a1 l1.length c1, .int .i64 e1] 24)).alloc (.cells #[.bool s2, .slice a2 l2.length c2, .int .i64 e2] 24)) s3 a3 l3.length c3 e3 24
  have z1 : (w.alloc (.cells #[.bool s1, .slice a1 l1.length c1, .int .i64 e1] 24)).heap.size = w.heap.size + 1 := by simp
  have z2 : ((w.alloc (.cells #[.bool s1, .slice a1 l1.length c1, .int .i64 e1] 24)).alloc (.cells #[.bool s2, .slice a2 l2.length c2, .int .i64 e2] 24)).heap.size = w.heap.size + 2 := by simp
  rw [z1] at X_b
  rw [z2] at X_c
  clear z1 z2
  go_wp2_with fail
  refine (shown_any _ (HTAB.out.below b1)).mono ?_
  rintro r w2 ⟨rfl, hc⟩
  have b2 := b1.trans (hc.mono b1.size)
  replace X_a := Bx.below X_a hc
  replace X_b := Bx.below X_b hc
  replace X_c := Bx.below X_c hc
  clear hc b1
  obtain ⟨ka0, ka1, ka2⟩ := X_a.out
  obtain ⟨kb0, kb1, kb2⟩ := X_b.out
  go_wp2_with fail
  refine (HAB.out _ b2).mono ?_
  rintro r w3 ⟨xab, yab, rfl, ho, hc⟩
  clear ka0 ka1 ka2 kb0 kb1 kb2
  have hd := (Below.refl w3.heap.size w3).alloc (Nat.le_refl _) (.cells #[.bool R.p.neg, .slice xab (dg 1000000000 R.p.m).length yab, .int .i64 R.p.e] 24)
  have hcd := hc.trans (hd.mono hc.size)
  have b3 := b2.trans (hcd.mono b2.size)
  replace X_a := Bx.below X_a hcd
  replace X_b := Bx.below X_b hcd
  replace X_c := Bx.below X_c hcd
  have X_ab := Bx.new w3 R.p.neg xab (dg 1000000000 R.p.m).length yab R.p.e 24
  have R_ab := ho.rd.below hd
  clear hc hd hcd ho b2
  obtain ⟨kb0, kb1, kb2⟩ := X_b.out
  obtain ⟨ka0, ka1, ka2⟩ := X_a.out
  go_wp2_with fail
  refine (HBA.out _ b3).mono ?_
  rintro r w4 ⟨xba, yba, rfl, ho, hc⟩
  clear kb0 kb1 kb2 ka0 ka1 ka2
  have hd := (Below.refl w4.heap.size w4).alloc (Nat.le_refl _) (.cells #[.bool R.p.neg, .slice xba (dg 1000000000 R.p.m).length yba, .int .i64 R.p.e] 24)
  have hcd := hc.trans (hd.mono hc.size)
  have b4 := b3.trans (hcd.mono b3.size)
  replace X_a := Bx.below X_a hcd
  replace X_b := Bx.below X_b hcd
  replace X_c := Bx.below X_c hcd
  replace X_ab := Bx.below X_ab hcd
  replace R_ab := R_ab.below hcd
  have X_ba := Bx.new w4 R.p.neg xba (dg 1000000000 R.p.m).length yba R.p.e 24
  have R_ba := ho.rd.below hd
  clear hc hd hcd ho b3
  obtain ⟨ka0, ka1, ka2⟩ := X_a.out
  obtain ⟨kb0, kb1, kb2⟩ := X_b.out
  go_wp2_with fail
  refine (HPQ.out _ b4).mono ?_
  rintro r w5 ⟨xp, yp, rfl, ho, hc⟩
  clear ka0 ka1 ka2 kb0 kb1 kb2
  have hd := (Below.refl w5.heap.size w5).alloc (Nat.le_refl _) (.cells #[.bool P.p.neg, .slice xp (dg 1000000000 P.p.m).length yp, .int .i64 P.p.e] 24)
  have hcd := hc.trans (hd.mono hc.size)
  have b5 := b4.trans (hcd.mono b4.size)
  replace X_a := Bx.below X_a hcd
  replace X_b := Bx.below X_b hcd
  replace X_c := Bx.below X_c hcd
  replace X_ab := Bx.below X_ab hcd
  replace X_ba := Bx.below X_ba hcd
  replace R_ab := R_ab.below hcd
  replace R_ba := R_ba.below hcd
  have X_p := Bx.new w5 P.p.neg xp (dg 1000000000 P.p.m).length yp P.p.e 24
  have R_p := ho.rd.below hd
  clear hc hd hcd ho b4
  obtain ⟨kb0, kb1, kb2⟩ := X_b.out
  obtain ⟨ka0, ka1, ka2⟩ := X_a.out
  go_wp2_with fail
  refine (HPR.out _ b5).mono ?_
  rintro r w6 ⟨xq, yq, rfl, ho, hc⟩
  clear kb0 kb1 kb2 ka0 ka1 ka2
  have hd := (Below.refl w6.heap.size w6).alloc (Nat.le_refl _) (.cells #[.bool P.p.neg, .slice xq (dg 1000000000 P.p.m).length yq, .int .i64 P.p.e] 24)
  have hcd := hc.trans (hd.mono hc.size)
  have b6 := b5.trans (hcd.mono b5.size)
  replace X_a := Bx.below X_a hcd
  replace X_b := Bx.below X_b hcd
  replace X_c := Bx.below X_c hcd
  replace X_ab := Bx.below X_ab hcd
  replace X_ba := Bx.below X_ba hcd
  replace X_p := Bx.below X_p hcd
  replace R_ab := R_ab.below hcd
  replace R_ba := R_ba.below hcd
  replace R_p := R_p.below hcd
  have X_q := Bx.new w6 P.p.neg xq (dg 1000000000 P.p.m).length yq P.p.e 24
  have R_q := ho.rd.below hd
  clear hc hd hcd ho b5
  obtain ⟨kab0, kab1, kab2⟩ := X_ab.out
  obtain ⟨kba0, kba1, kba2⟩ := X_ba.out
  go_wp2_with fail
  refine (HS.out _ _ _ _ _ R.p IR.out R_ab R_ba).mono ?_
  rintro r w7 ⟨rfl, hc⟩
  clear kab0 kab1 kab2 kba0 kba1 kba2
  have b7 := b6.trans (hc.mono b6.size)
  replace X_a := Bx.below X_a hc
  replace X_b := Bx.below X_b hc
  replace X_c := Bx.below X_c hc
  replace X_ab := Bx.below X_ab hc
  replace X_ba := Bx.below X_ba hc
  replace X_p := Bx.below X_p hc
  replace X_q := Bx.below X_q hc
  replace R_ab := R_ab.below hc
  replace R_ba := R_ba.below hc
  replace R_p := R_p.below hc
  replace R_q := R_q.below hc
  clear hc b6
  clear X_ba
  clear R_ba
  obtain ⟨kp0, kp1, kp2⟩ := X_p.out
  obtain ⟨kq0, kq1, kq2⟩ := X_q.out
  go_wp2_with fail
  refine (HS.out _ _ _ _ _ P.p IP.out R_p R_q).mono ?_
  rintro r w8 ⟨rfl, hc⟩
  clear kp0 kp1 kp2 kq0 kq1 kq2
  have b8 := b7.trans (hc.mono b7.size)
  replace X_a := Bx.below X_a hc
  replace X_b := Bx.below X_b hc
  replace X_c := Bx.below X_c hc
  replace X_ab := Bx.below X_ab hc
  replace X_p := Bx.below X_p hc
  replace X_q := Bx.below X_q hc
  replace R_ab := R_ab.below hc
  replace R_p := R_p.below hc
  replace R_q := R_q.below hc
  clear hc b7
  clear X_p
  clear R_p
  clear X_q
  clear R_q
  obtain ⟨kb0, kb1, kb2⟩ := X_b.out
  go_wp2_with fail
  refine (HNG.out _ b8).mono ?_
  rintro r w9 ⟨xn, yn, rfl, ho, hc⟩
  clear kb0 kb1 kb2
  have hd := (Below.refl w9.heap.size w9).alloc (Nat.le_refl _) (.cells #[.bool NB.p.neg, .slice xn (dg 1000000000 NB.p.m).length yn, .int .i64 NB.p.e] 24)
  have hcd := hc.trans (hd.mono hc.size)
  have b9 := b8.trans (hcd.mono b8.size)
  replace X_a := Bx.below X_a hcd
  replace X_b := Bx.below X_b hcd
  replace X_c := Bx.below X_c hcd
  replace X_ab := Bx.below X_ab hcd
  replace R_ab := R_ab.below hcd
  have X_n := Bx.new w9 NB.p.neg xn (dg 1000000000 NB.p.m).length yn NB.p.e 24
  have R_n := ho.rd.below hd
  clear hc hd hcd ho b8
  obtain ⟨kab0, kab1, kab2⟩ := X_ab.out
  obtain ⟨kn0, kn1, kn2⟩ := X_n.out
  go_wp2_with fail
  refine (HBK.out _ _ _ _ _ R_ab (HTAB.out.below b9) R_n).mono ?_
  rintro r w10 ⟨xk, yk, rfl, ho, hc⟩
  clear kab0 kab1 kab2 kn0 kn1 kn2
  have hd := (Below.refl w10.heap.size w10).alloc (Nat.le_refl _) (.cells #[.bool K.p.neg, .slice xk (dg 1000000000 K.p.m).length yk, .int .i64 K.p.e] 24)
  have hcd := hc.trans (hd.mono hc.size)
  have b10 := b9.trans (hcd.mono b9.size)
  replace X_a := Bx.below X_a hcd
  replace X_b := Bx.below X_b hcd
  replace X_c := Bx.below X_c hcd
  replace X_ab := Bx.below X_ab hcd
  replace X_n := Bx.below X_n hcd
  replace R_ab := R_ab.below hcd
  replace R_n := R_n.below hcd
  have X_k := Bx.new w10 K.p.neg xk (dg 1000000000 K.p.m).length yk K.p.e 24
  have R_k := ho.rd.below hd
  clear hc hd hcd ho b9
  clear X_n
  clear R_n
  obtain ⟨ka0, ka1, ka2⟩ := X_a.out
  go_wp2_with fail
  refine (HNA.out _ b10).mono ?_
  rintro r w11 ⟨xx, yx, rfl, ho, hc⟩
  clear ka0 ka1 ka2
  have hd := (Below.refl w11.heap.size w11).alloc (Nat.le_refl _) (.cells #[.bool A.p.neg, .slice xx (dg 1000000000 A.p.m).length yx, .int .i64 A.p.e] 24)
  have hcd := hc.trans (hd.mono hc.size)
  have b11 := b10.trans (hcd.mono b10.size)
  replace X_a := Bx.below X_a hcd
  replace X_b := Bx.below X_b hcd
  replace X_c := Bx.below X_c hcd
  replace X_ab := Bx.below X_ab hcd
  replace X_k := Bx.below X_k hcd
  replace R_ab := R_ab.below hcd
  replace R_k := R_k.below hcd
  have X_x := Bx.new w11 A.p.neg xx (dg 1000000000 A.p.m).length yx A.p.e 24
  have R_x := ho.rd.below hd
  clear hc hd hcd ho b10
  have f1 : ((R.err : Int) == 0) = false := by simp [HG1.out]
  clear X_k
  clear R_k
  clear X_x
  clear R_x
  obtain ⟨ka0, ka1, ka2⟩ := X_a.out
  obtain ⟨kc0, kc1, kc2⟩ := X_c.out
  go_wp2_with fail
  refine (HP1.out _ b11).mono ?_
  rintro r w12 ⟨xac, yac, rfl, ho, hc⟩
  clear ka0 ka1 ka2 kc0 kc1 kc2
  have hd := (Below.refl w12.heap.size w12).alloc (Nat.le_refl _) (.cells #[.bool P1.p.neg, .slice xac (dg 1000000000 P1.p.m).length yac, .int .i64 P1.p.e] 24)
  have hcd := hc.trans (hd.mono hc.size)
  have b12 := b11.trans (hcd.mono b11.size)
  replace X_a := Bx.below X_a hcd
  replace X_b := Bx.below X_b hcd
  replace X_c := Bx.below X_c hcd
  replace X_ab := Bx.below X_ab hcd
  replace R_ab := R_ab.below hcd
  have X_ac := Bx.new w12 P1.p.neg xac (dg 1000000000 P1.p.m).length yac P1.p.e 24
  have R_ac := ho.rd.below hd
  clear hc hd hcd ho b11
  obtain ⟨kb0, kb1, kb2⟩ := X_b.out
  obtain ⟨kc0, kc1, kc2⟩ := X_c.out
  go_wp2_with fail
  refine (HP2.out _ b12).mono ?_
  rintro r w13 ⟨xbc, ybc, rfl, ho, hc⟩
  clear kb0 kb1 kb2 kc0 kc1 kc2
  have hd := (Below.refl w13.heap.size w13).alloc (Nat.le_refl _) (.cells #[.bool P2.p.neg, .slice xbc (dg 1000000000 P2.p.m).length ybc, .int .i64 P2.p.e] 24)
  have hcd := hc.trans (hd.mono hc.size)
  have b13 := b12.trans (hcd.mono b12.size)
  replace X_a := Bx.below X_a hcd
  replace X_b := Bx.below X_b hcd
  replace X_c := Bx.below X_c hcd
  replace X_ab := Bx.below X_ab hcd
  replace X_ac := Bx.below X_ac hcd
  replace R_ab := R_ab.below hcd
  replace R_ac := R_ac.below hcd
  have X_bc := Bx.new w13 P2.p.neg xbc (dg 1000000000 P2.p.m).length ybc P2.p.e 24
  have R_bc := ho.rd.below hd
  clear hc hd hcd ho b12
  clear X_a
  clear X_b
  obtain ⟨kab0, kab1, kab2⟩ := X_ab.out
  obtain ⟨kc0, kc1, kc2⟩ := X_c.out
  go_wp2_with fail
  refine (HP3.out _ _ _ b13 R_ab).mono ?_
  rintro r w14 ⟨xone, yone, rfl, ho, hc⟩
  clear kab0 kab1 kab2 kc0 kc1 kc2
  have hd := (Below.refl w14.heap.size w14).alloc (Nat.le_refl _) (.cells #[.bool P3.p.neg, .slice xone (dg 1000000000 P3.p.m).length yone, .int .i64 P3.p.e] 24)
  have hcd := hc.trans (hd.mono hc.size)
  have b14 := b13.trans (hcd.mono b13.size)
  replace X_c := Bx.below X_c hcd
  replace X_ab := Bx.below X_ab hcd
  replace X_ac := Bx.below X_ac hcd
  replace X_bc := Bx.below X_bc hcd
  replace R_ab := R_ab.below hcd
  replace R_ac := R_ac.below hcd
  replace R_bc := R_bc.below hcd
  have X_one := Bx.new w14 P3.p.neg xone (dg 1000000000 P3.p.m).length yone P3.p.e 24
  have R_one := ho.rd.below hd
  clear hc hd hcd ho b13
  clear X_ab
  clear R_ab
  clear X_c
  obtain ⟨kac0, kac1, kac2⟩ := X_ac.out
  obtain ⟨kbc0, kbc1, kbc2⟩ := X_bc.out
  go_wp2_with fail
  refine (HTW.out _ _ _ _ _ R_ac (HTAB.out.below b14) R_bc).mono ?_
  rintro r w15 ⟨xtwo, ytwo, rfl, ho, hc⟩
  clear kac0 kac1 kac2 kbc0 kbc1 kbc2
  have hd := (Below.refl w15.heap.size w15).alloc (Nat.le_refl _) (.cells #[.bool K2.p.neg, .slice xtwo (dg 1000000000 K2.p.m).length ytwo, .int .i64 K2.p.e] 24)
  have hcd := hc.trans (hd.mono hc.size)
  have b15 := b14.trans (hcd.mono b14.size)
  replace X_ac := Bx.below X_ac hcd
  replace X_bc := Bx.below X_bc hcd
  replace X_one := Bx.below X_one hcd
  replace R_ac := R_ac.below hcd
  replace R_bc := R_bc.below hcd
  replace R_one := R_one.below hcd
  have X_two := Bx.new w15 K2.p.neg xtwo (dg 1000000000 K2.p.m).length ytwo K2.p.e 24
  have R_two := ho.rd.below hd
  clear hc hd hcd ho b14
  clear X_ac
  clear R_ac
  clear X_bc
  clear R_bc
  have F : (R.err = 0 ∧ P1.err = 0 ∧ P2.err = 0 ∧ P3.err = 0 ∧ K2.err = 0 ∧ P3.p = K2.p) ∨ ((R.err : Int) + P1.err + P2.err + P3.err + K2.err == 0) = false ∧ ¬ (R.err : Int) + P1.err + P2.err + P3.err + K2.err = 0 := by
    by_cases k : R.err = 0 ∧ P1.err = 0 ∧ P2.err = 0 ∧ P3.err = 0 ∧ K2.err = 0
    · exact .inl ⟨k.1, k.2.1, k.2.2.1, k.2.2.2.1, k.2.2.2.2, HL2.out k.1 k.2.1 k.2.2.1 k.2.2.2.1 k.2.2.2.2⟩
    · have k2 : ¬ (R.err : Int) + P1.err + P2.err + P3.err + K2.err = 0 := by omega
      exact .inr ⟨by rw [beq_eq_false_iff_ne]; exact k2, k2⟩
  obtain ⟨n1, n2, n3, n4, n5⟩ := ER.out
  have g1 : (R.err : Int) ≤ 3 := by omega
  have g2 : (P1.err : Int) ≤ 3 := by omega
  have g3 : (P2.err : Int) ≤ 3 := by omega
  have g4 : (P3.err : Int) ≤ 3 := by omega
  have g5 : (K2.err : Int) ≤ 3 := by omega
  have g6 : (0 : Int) ≤ (R.err : Int) := by omega
  have g7 : (0 : Int) ≤ (P1.err : Int) := by omega
  have g8 : (0 : Int) ≤ (P2.err : Int) := by omega
  have g9 : (0 : Int) ≤ (P3.err : Int) := by omega
  have g10 : (0 : Int) ≤ (K2.err : Int) := by omega
  clear n1 n2 n3 n4 n5 HL2 ER HAB HBA HPQ HPR HNG HNA HP1 HP2 HP3 HBK HTW HTAB HG1
  rcases F with ⟨j1, j2, j3, j4, j5, j6⟩ | ⟨j1, j2⟩
  · simp [j1] at f1
  · clear X_one
    clear R_one
    clear X_two
    clear R_two
    go_wp2
    go_ret
    exact ⟨rfl, b15⟩
end Go.Proofs.YtofeckdhhaoobaaDoor
