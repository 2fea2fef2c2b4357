/- quot: Rem. -/
import Derived.Test.YtimfpgpomafflaaGreatDoorQuotH
import Derived.Deep.AppendLies
namespace Go.Proofs.YtimfpgpomafflaaGreatDoor
open Go.RowKit LM

def whV (p : Pl) : Nat := p.m * 10 ^ p.e.toNat
/-- what Rem tells -/
def remV (p q : Pl) : Ans := if 400 ≤ hd p ∨ 400 ≤ hd q then ⟨3, zP⟩ else if q.m = 0 then ⟨4, zP⟩ else ⟨0, pl p.neg (whV p % whV q) 0⟩
def remA (A B : Ans) : Ans := if okP A B then remV (cutP 0 A.p) (cutP 0 B.p) else ⟨pairE A B, zP⟩
theorem whV_few {p : Pl} (hp : PlainP p) (h : hd p < 400) (he : 0 ≤ p.e) : p.e.toNat ≤ 400 ∧ dl (whV p) ≤ 400 := by
  unfold hd at h
  rcases Nat.eq_zero_or_pos p.m with h0 | h0
  · have hz := zp_of hp h0
    constructor
    · rw [hz]; exact Nat.zero_le _
    · unfold whV; rw [h0, Nat.zero_mul]; unfold dl; rw [dg_zero]; exact Nat.zero_le _
  · have h1 := dl_pos h0
    refine ⟨by omega, ?_⟩
    have h2 := lt_dl p.m
    have h3 : whV p < 10 ^ (dl p.m + p.e.toNat) := by unfold whV; rw [Nat.pow_add]; exact Nat.mul_lt_mul_of_pos_right h2 (Nat.pow_pos (by omega))
    have h4 := dl_lt h3
    omega
set_option maxHeartbeats 16000000 in
set_option maxRecDepth 20000 in
theorem Rem_any (s1 s2 : Bool) (a1 a2 : Option Addr) (c1 c2 : Nat) (l1 l2 : List Nat) (e1 e2 : Int) (w : World) (h1 : l1.length ≤ 9223372036854775807) (h2 : l2.length ≤ 9223372036854775807) (hlo1 : Lo 4294967296 l1) (hlo2 : Lo 4294967296 l2) (hr1 : Rd w .u32 a1 l1) (hr2 : Rd w .u32 a2 l2) (htab : Tab w) :
    Calls Tryz.prog 14 #[.agg #[.bool s1, .slice a1 l1.length c1, .int .i64 e1], .agg #[.bool s2, .slice a2 l2.length c2, .int .i64 e2]] w (ResY (remA (normA l1.length s1 (vl 1000000000 l1) e1) (normA l2.length s2 (vl 1000000000 l2) e2)) w) := by
  have hP := fun W hb => plainPairQ_any s1 s2 a1 a2 c1 c2 l1 l2 e1 e2 W h1 h2 hlo1 hlo2 (hr1.below' (w' := W) hb (Nat.le_refl _)) (hr2.below' hb (Nat.le_refl _)) (htab.below hb)
  have hiA := normA_in l1.length s1 (vl 1000000000 l1) e1
  have hiB := normA_in l2.length s2 (vl 1000000000 l2) e2
  have hpA := normA_plain l1.length s1 (vl 1000000000 l1) e1
  have hpB := normA_plain l2.length s2 (vl 1000000000 l2) e2
  generalize normA l1.length s1 (vl 1000000000 l1) e1 = A at *
  generalize normA l2.length s2 (vl 1000000000 l2) e2 = B at *
  have hres : remA A B = if okP A B then remV (cutP 0 A.p) (cutP 0 B.p) else ⟨pairE A B, zP⟩ := rfl
  generalize remA A B = R at *
  have HP := Lib.hid hP; have HR := Lib.hid hres; have HT := Lib.hid htab; have HIA := Lib.hid hiA; have HIB := Lib.hid hiB; have HPA := Lib.hid hpA; have HPB := Lib.hid hpB
  clear hP hres htab hr1 hr2 hlo1 hlo2 hiA hiB hpA hpB
  go_enter Tryz.func14, Tryz.ntmps14
  have b1 := ((((Below.refl w.heap.size w).alloc (Nat.le_refl _) (.cells #[.bool s1, .slice a1 l1.length c1, .int .i64 e1] 24)).alloc (by simp) (.cells #[.bool s2, .slice a2 l2.length c2, .int .i64 e2] 24)).alloc (by simp; omega) (.cells #[.bool false, .slice none 0 0, .int .i64 0] 24))
  have X_a := (Qx.below (Qx.below (Qx.new w (.bool s1) (.slice a1 l1.length c1) (.int .i64 e1) 24) ((Below.refl _ _).alloc (Nat.le_refl _) (.cells #[.bool s2, .slice a2 l2.length c2, .int .i64 e2] 24))) ((Below.refl _ _).alloc (Nat.le_refl _) (.cells #[.bool false, .slice none 0 0, .int .i64 0] 24)))
  have F_a := (Qf.below (Qf.below (Qf.new w (.bool s1) (.slice a1 l1.length c1) (.int .i64 e1) 24) (Qx.lt (Qx.new w (.bool s1) (.slice a1 l1.length c1) (.int .i64 e1) 24)) ((Below.refl _ _).alloc (Nat.le_refl _) (.cells #[.bool s2, .slice a2 l2.length c2, .int .i64 e2] 24))) (Qx.lt (Qx.below (Qx.new w (.bool s1) (.slice a1 l1.length c1) (.int .i64 e1) 24) ((Below.refl _ _).alloc (Nat.le_refl _) (.cells #[.bool s2, .slice a2 l2.length c2, .int .i64 e2] 24)))) ((Below.refl _ _).alloc (Nat.le_refl _) (.cells #[.bool false, .slice none 0 0, .int .i64 0] 24)))
  have X_b := (Qx.below (Qx.new (w.alloc (.cells #[.bool s1, .slice a1 l1.length c1, .int .i64 e1] 24)) (.bool s2) (.slice a2 l2.length c2) (.int .i64 e2) 24) ((Below.refl _ _).alloc (Nat.le_refl _) (.cells #[.bool false, .slice none 0 0, .int .i64 0] 24)))
  have F_b := (Qf.below (Qf.new (w.alloc (.cells #[.bool s1, .slice a1 l1.length c1, .int .i64 e1] 24)) (.bool s2) (.slice a2 l2.length c2) (.int .i64 e2) 24) (Qx.lt (Qx.new (w.alloc (.cells #[.bool s1, .slice a1 l1.length c1, .int .i64 e1] 24)) (.bool s2) (.slice a2 l2.length c2) (.int .i64 e2) 24)) ((Below.refl _ _).alloc (Nat.le_refl _) (.cells #[.bool false, .slice none 0 0, .int .i64 0] 24)))
  have z : (w.alloc (.cells #[.bool s1, .slice a1 l1.length c1, .int .i64 e1] 24)).heap.size = w.heap.size + 1 := by simp
  rw [z] at X_b F_b
  clear z
  have X_r := (Qx.new ((w.alloc (.cells #[.bool s1, .slice a1 l1.length c1, .int .i64 e1] 24)).alloc (.cells #[.bool s2, .slice a2 l2.length c2, .int .i64 e2] 24)) (.bool false) (.slice none 0 0) (.int .i64 0) 24)
  have F_r := (Qf.new ((w.alloc (.cells #[.bool s1, .slice a1 l1.length c1, .int .i64 e1] 24)).alloc (.cells #[.bool s2, .slice a2 l2.length c2, .int .i64 e2] 24)) (.bool false) (.slice none 0 0) (.int .i64 0) 24)
  have z : ((w.alloc (.cells #[.bool s1, .slice a1 l1.length c1, .int .i64 e1] 24)).alloc (.cells #[.bool s2, .slice a2 l2.length c2, .int .i64 e2] 24)).heap.size = w.heap.size + 1 + 1 := by simp
  rw [z] at X_r F_r
  clear z
  obtain ⟨ka0, ka1, ka2⟩ := X_a.out
  obtain ⟨kb0, kb1, kb2⟩ := X_b.out
  go_wp2_with fail
  clear ka0 ka1 ka2 kb0 kb1 kb2
  refine (HP.out _ b1).mono ?_
  rintro r w2 ⟨hc, hh⟩
  have b2 := b1.trans (hc.mono b1.size)
  replace F_a := Qf.below F_a (Qx.lt X_a) hc
  replace X_a := Qx.below X_a hc
  replace F_b := Qf.below F_b (Qx.lt X_b) hc
  replace X_b := Qx.below X_b hc
  replace F_r := Qf.below F_r (Qx.lt X_r) hc
  replace X_r := Qx.below X_r hc
  clear hc b1
  clear X_a F_a
  clear X_b F_b
  rcases hh with ⟨hA, hB, xp, yp, xq, yq, rfl, ho1, ho2⟩ | ⟨hbad, rfl⟩
  · have R_p := Lib.hid ho1
    have R_q := Lib.hid ho2
    clear ho1 ho2
    have hR := HR.out
    rw [if_pos ⟨hA, hB⟩] at hR
    clear HR hA hB
    have HR := Lib.hid hR
    clear hR
    have z_x := b2.size
    have hd := (Below.refl w2.heap.size w2).alloc (Nat.le_refl _) (.cells #[.bool A.p.neg, .slice xp (dg 1000000000 A.p.m).length yp, .int .i64 A.p.e] 24)
    have b3 := b2.trans (hd.mono b2.size)
    have l_r_x := Qx.lt X_r
    have m_r_x := not_eq_lt l_r_x
    have m_x_r := not_eq_gt l_r_x
    clear l_r_x
    replace F_r := Qf.below F_r (Qx.lt X_r) hd
    replace X_r := Qx.below X_r hd
    replace R_p := Lib.hid (R_p.out.below hd)
    replace R_q := Lib.hid (R_q.out.below hd)
    have X_x := Qx.new w2 (.bool A.p.neg) (.slice xp (dg 1000000000 A.p.m).length yp) (.int .i64 A.p.e) 24
    have F_x := Qf.new w2 (.bool A.p.neg) (.slice xp (dg 1000000000 A.p.m).length yp) (.int .i64 A.p.e) 24
    clear hd b2
    have z_y := b3.size
    have hd := (Below.refl (w2.alloc (.cells #[.bool A.p.neg, .slice xp (dg 1000000000 A.p.m).length yp, .int .i64 A.p.e] 24)).heap.size (w2.alloc (.cells #[.bool A.p.neg, .slice xp (dg 1000000000 A.p.m).length yp, .int .i64 A.p.e] 24))).alloc (Nat.le_refl _) (.cells #[.bool B.p.neg, .slice xq (dg 1000000000 B.p.m).length yq, .int .i64 B.p.e] 24)
    have b4 := b3.trans (hd.mono b3.size)
    have l_r_y := Qx.lt X_r
    have m_r_y := not_eq_lt l_r_y
    have m_y_r := not_eq_gt l_r_y
    clear l_r_y
    have l_x_y := Qx.lt X_x
    have m_x_y := not_eq_lt l_x_y
    have m_y_x := not_eq_gt l_x_y
    clear l_x_y
    replace F_r := Qf.below F_r (Qx.lt X_r) hd
    replace X_r := Qx.below X_r hd
    replace F_x := Qf.below F_x (Qx.lt X_x) hd
    replace X_x := Qx.below X_x hd
    replace R_p := Lib.hid (R_p.out.below hd)
    replace R_q := Lib.hid (R_q.out.below hd)
    have X_y := Qx.new (w2.alloc (.cells #[.bool A.p.neg, .slice xp (dg 1000000000 A.p.m).length yp, .int .i64 A.p.e] 24)) (.bool B.p.neg) (.slice xq (dg 1000000000 B.p.m).length yq) (.int .i64 B.p.e) 24
    have F_y := Qf.new (w2.alloc (.cells #[.bool A.p.neg, .slice xp (dg 1000000000 A.p.m).length yp, .int .i64 A.p.e] 24)) (.bool B.p.neg) (.slice xq (dg 1000000000 B.p.m).length yq) (.int .i64 B.p.e) 24
    clear hd b3
    have z : (w2.alloc (.cells #[.bool A.p.neg, .slice xp (dg 1000000000 A.p.m).length yp, .int .i64 A.p.e] 24)).heap.size = w2.heap.size + 1 := by simp
    rw [z] at X_y F_y m_r_y m_y_r m_x_y m_y_x
    clear z
    obtain ⟨kx0, kx1, kx2⟩ := X_x.out
    obtain ⟨ky0, ky1, ky2⟩ := X_y.out
    go_wp2_with fail
    clear kx0 kx1 kx2 ky0 ky1 ky2
    generalize ((w2.alloc (.cells #[.bool A.p.neg, .slice xp (dg 1000000000 A.p.m).length yp, .int .i64 A.p.e] 24)).alloc (.cells #[.bool B.p.neg, .slice xq (dg 1000000000 B.p.m).length yq, .int .i64 B.p.e] 24)) = w5 at *
    have hC1 : ∀ W (hb : Below w5.heap.size w5 W), Calls Tryz.prog 41 #[.agg #[.bool A.p.neg, .slice xp (dg 1000000000 A.p.m).length yp, .int .i64 A.p.e], .int .i64 0] W (ResC (cutP 0 A.p) W) := fun W hb => cutWhole_any 0 (by omega) A.p HIA.out xp yp W (R_p.out.below hb) (HT.out.below (b4.trans (hb.mono b4.size)))
    have hC2 : ∀ W (hb : Below w5.heap.size w5 W), Calls Tryz.prog 41 #[.agg #[.bool B.p.neg, .slice xq (dg 1000000000 B.p.m).length yq, .int .i64 B.p.e], .int .i64 0] W (ResC (cutP 0 B.p) W) := fun W hb => cutWhole_any 0 (by omega) B.p HIB.out xq yq W (R_q.out.below hb) (HT.out.below (b4.trans (hb.mono b4.size)))
    have i1 := cutP_in (way := 0) HIA.out
    have i2 := cutP_in (way := 0) HIB.out
    have n1 := cutP_plain (way := 0) HPA.out
    have n2 := cutP_plain (way := 0) HPB.out
    have m1 := cutP_whole 0 A.p
    have m2 := cutP_whole 0 B.p
    generalize cutP 0 A.p = P1 at *
    generalize cutP 0 B.p = P2 at *
    have HC1 := Lib.hid hC1; have HC2 := Lib.hid hC2; have HI1 := Lib.hid i1; have HI2 := Lib.hid i2; have HN1 := Lib.hid n1; have HN2 := Lib.hid n2; have HM1 := Lib.hid m1; have HM2 := Lib.hid m2
    clear hC1 hC2 i1 i2 n1 n2 m1 m2 HP HIA HIB HPA HPB
    obtain ⟨kx0, kx1, kx2⟩ := X_x.out
    obtain ⟨ky0, ky1, ky2⟩ := X_y.out
    have kf_x := F_x.out
    unfold Qf at kf_x
    have kf_y := F_y.out
    unfold Qf at kf_y
    have lx := Qx.lt X_x
    have ly := Qx.lt X_y
    go_region_law
      (first
        | (go_simp; go_at_call 41; have chk := z5; refine (HC2.out _ z5).mono ?_; rintro e wt ⟨x6, y6, rfl, ho6, hb6⟩; have z6 := z5.trans (hb6.mono z5.size); have j0 := cellB kx0 z6; have j1 := cellB kx1 z6; have j2 := cellB kx2 z6; have j3 := cellB ky0 z6; have j4 := cellB ky1 z6; have j5 := cellB ky2 z6; have jfx := fun j => (z6.frozen (p := ⟨w2.heap.size, j, none⟩) lx).trans (kf_x j); have jfy := fun j => (z6.frozen (p := ⟨w2.heap.size + 1, j, none⟩) ly).trans (kf_y j))
        | (go_simp; go_at_call 41; refine (HC1.out _ (Below.refl w5.heap.size w5).drew).mono ?_; rintro e ws ⟨x5, y5, rfl, ho5, hb5⟩; have z5 := (Below.refl w5.heap.size w5).drew.trans hb5; have i0 := cellB kx0 z5; have i1 := cellB kx1 z5; have i2 := cellB kx2 z5; have i3 := cellB ky0 z5; have i4 := cellB ky1 z5; have i5 := cellB ky2 z5; have ifx := fun j => (z5.frozen (p := ⟨w2.heap.size, j, none⟩) lx).trans (kf_x j); have ify := fun j => (z5.frozen (p := ⟨w2.heap.size + 1, j, none⟩) ly).trans (kf_y j)))
    all_goals
      replace F_r := Qf.below F_r (Qx.lt X_r) z6
      replace X_r := Qx.below X_r z6
      replace F_x := Qf.below F_x (Qx.lt X_x) z6
      replace X_x := Qx.below X_x z6
      replace F_y := Qf.below F_y (Qx.lt X_y) z6
      replace X_y := Qx.below X_y z6
      have b90 := b4.trans (z6.mono b4.size)
      clear R_p R_q
      have R_p := Lib.hid (ho5.below hb6)
      have R_q := Lib.hid ho6
      clear hb5 hb6 ho5 ho6 z5 z6 i0 i1 i2 i3 i4 i5 j0 j1 j2 j3 j4 j5 ifx ify jfx jfy kx0 kx1 kx2 ky0 ky1 ky2 kf_x kf_y lx ly b4 HC1 HC2
      have b91 := Below.box b90 (g := w2.heap.size) (by omega) (.bool P1.neg) (.slice x5 (dg 1000000000 P1.m).length y5) (.int .i64 P1.e)
      replace R_p := Lib.hid (Rd.box R_p.out X_x (by decide) (.bool P1.neg) (.slice x5 (dg 1000000000 P1.m).length y5) (.int .i64 P1.e))
      replace R_q := Lib.hid (Rd.box R_q.out X_x (by decide) (.bool P1.neg) (.slice x5 (dg 1000000000 P1.m).length y5) (.int .i64 P1.e))
      replace F_r := Qf.set (g := w2.heap.size) F_r (.bool P1.neg) (.slice x5 (dg 1000000000 P1.m).length y5) (.int .i64 P1.e)
      replace F_x := Qf.set (g := w2.heap.size) F_x (.bool P1.neg) (.slice x5 (dg 1000000000 P1.m).length y5) (.int .i64 P1.e)
      replace F_y := Qf.set (g := w2.heap.size) F_y (.bool P1.neg) (.slice x5 (dg 1000000000 P1.m).length y5) (.int .i64 P1.e)
      replace X_r := Qx.far (g := w2.heap.size) X_r (by omega) (.bool P1.neg) (.slice x5 (dg 1000000000 P1.m).length y5) (.int .i64 P1.e)
      replace X_y := Qx.far (g := w2.heap.size) X_y (by omega) (.bool P1.neg) (.slice x5 (dg 1000000000 P1.m).length y5) (.int .i64 P1.e)
      replace X_x := Qx.set X_x (.bool P1.neg) (.slice x5 (dg 1000000000 P1.m).length y5) (.int .i64 P1.e)
      clear b90
      have b92 := Below.box b91 (g := w2.heap.size + 1) (by omega) (.bool P2.neg) (.slice x6 (dg 1000000000 P2.m).length y6) (.int .i64 P2.e)
      replace R_p := Lib.hid (Rd.box R_p.out X_y (by decide) (.bool P2.neg) (.slice x6 (dg 1000000000 P2.m).length y6) (.int .i64 P2.e))
      replace R_q := Lib.hid (Rd.box R_q.out X_y (by decide) (.bool P2.neg) (.slice x6 (dg 1000000000 P2.m).length y6) (.int .i64 P2.e))
      replace F_r := Qf.set (g := w2.heap.size + 1) F_r (.bool P2.neg) (.slice x6 (dg 1000000000 P2.m).length y6) (.int .i64 P2.e)
      replace F_x := Qf.set (g := w2.heap.size + 1) F_x (.bool P2.neg) (.slice x6 (dg 1000000000 P2.m).length y6) (.int .i64 P2.e)
      replace F_y := Qf.set (g := w2.heap.size + 1) F_y (.bool P2.neg) (.slice x6 (dg 1000000000 P2.m).length y6) (.int .i64 P2.e)
      replace X_r := Qx.far (g := w2.heap.size + 1) X_r (by omega) (.bool P2.neg) (.slice x6 (dg 1000000000 P2.m).length y6) (.int .i64 P2.e)
      replace X_x := Qx.far (g := w2.heap.size + 1) X_x (by omega) (.bool P2.neg) (.slice x6 (dg 1000000000 P2.m).length y6) (.int .i64 P2.e)
      replace X_y := Qx.set X_y (.bool P2.neg) (.slice x6 (dg 1000000000 P2.m).length y6) (.int .i64 P2.e)
      clear b91
      generalize ((((((wt.setCell ⟨w2.heap.size, 0, none⟩ (.bool P1.neg)).setCell ⟨w2.heap.size, 1, none⟩ (.slice x5 (dg 1000000000 P1.m).length y5)).setCell ⟨w2.heap.size, 2, none⟩ (.int .i64 P1.e)).setCell ⟨w2.heap.size + 1, 0, none⟩ (.bool P2.neg)).setCell ⟨w2.heap.size + 1, 1, none⟩ (.slice x6 (dg 1000000000 P2.m).length y6)).setCell ⟨w2.heap.size + 1, 2, none⟩ (.int .i64 P2.e)) = w95 at *
      have hH1 := fun W hr ht => head_any P1 HI1.out x5 y5 W hr ht
      have hH2 := fun W hr ht => head_any P2 HI2.out x6 y6 W hr ht
      obtain ⟨H1, hH1e⟩ : ∃ H, H = hd P1 := ⟨_, rfl⟩
      obtain ⟨H2, hH2e⟩ : ∃ H, H = hd P2 := ⟨_, rfl⟩
      rw [← hH1e] at hH1
      rw [← hH2e] at hH2
      have HH1 := Lib.hid hH1; have HH2 := Lib.hid hH2; have HE1 := Lib.hid hH1e; have HE2 := Lib.hid hH2e
      clear hH1 hH2 hH1e hH2e
      obtain ⟨kx0, kx1, kx2⟩ := X_x.out
      go_wp2_with fail
      clear kx0 kx1 kx2
      refine (HH1.out _ R_p.out (HT.out.below b92)).mono ?_
      rintro r w96 ⟨rfl, hc⟩
      have b96 := b92.trans (hc.mono b92.size)
      replace F_r := Qf.below F_r (Qx.lt X_r) hc
      replace X_r := Qx.below X_r hc
      replace F_x := Qf.below F_x (Qx.lt X_x) hc
      replace X_x := Qx.below X_x hc
      replace F_y := Qf.below F_y (Qx.lt X_y) hc
      replace X_y := Qx.below X_y hc
      replace R_p := Lib.hid (R_p.out.below hc)
      replace R_q := Lib.hid (R_q.out.below hc)
      clear hc b92
      by_cases h0 : 400 ≤ H1
      · have hR := HR.out
        unfold remV at hR
        rw [if_pos (.inl (by rw [← HE1.out]; exact h0))] at hR
        have HR2 := Lib.hid hR
        clear hR HR
        obtain ⟨kr0, kr1, kr2⟩ := X_r.out
        have kf_r := F_r.out
        unfold Qf at kf_r
        go_wp2
        refine bodyPost_ret (v := .tuple #[.agg #[.bool false, .slice none 0 0, .int .i64 0], .int .i64 3]) (by simp [results, Tryz.results14, go_sem, kr0, kr1, kr2]) rfl ?_
        exact resY_err HR2.out (Below.box b96 (g := w.heap.size + 1 + 1) (by omega) _ _ _)
      obtain ⟨ky0, ky1, ky2⟩ := X_y.out
      go_wp2_with fail
      clear ky0 ky1 ky2
      refine (HH2.out _ R_q.out (HT.out.below b96)).mono ?_
      rintro r w97 ⟨rfl, hc⟩
      have b97 := b96.trans (hc.mono b96.size)
      replace F_r := Qf.below F_r (Qx.lt X_r) hc
      replace X_r := Qx.below X_r hc
      replace F_x := Qf.below F_x (Qx.lt X_x) hc
      replace X_x := Qx.below X_x hc
      replace F_y := Qf.below F_y (Qx.lt X_y) hc
      replace X_y := Qx.below X_y hc
      replace R_p := Lib.hid (R_p.out.below hc)
      replace R_q := Lib.hid (R_q.out.below hc)
      clear hc b96
      by_cases h1 : 400 ≤ H2
      · have hR := HR.out
        unfold remV at hR
        rw [if_pos (.inr (by rw [← HE2.out]; exact h1))] at hR
        have HR2 := Lib.hid hR
        clear hR HR
        obtain ⟨kr0, kr1, kr2⟩ := X_r.out
        have kf_r := F_r.out
        unfold Qf at kf_r
        go_wp2
        refine bodyPost_ret (v := .tuple #[.agg #[.bool false, .slice none 0 0, .int .i64 0], .int .i64 3]) (by simp [results, Tryz.results14, go_sem, kr0, kr1, kr2]) rfl ?_
        exact resY_err HR2.out (Below.box b97 (g := w.heap.size + 1 + 1) (by omega) _ _ _)
      have hR := HR.out
      unfold remV at hR
      rw [if_neg (by rw [← HE1.out, ← HE2.out]; omega)] at hR
      have hf1 := whV_few HN1.out (by rw [← HE1.out]; omega) HM1.out
      have hf2 := whV_few HN2.out (by rw [← HE2.out]; omega) HM2.out
      have hU1 := fun W hr => units_any P1 HI1.out P1.e.toNat (by have := HM1.out; omega) (by omega) x5 y5 W hr
      have hU2 := fun W hr => units_any P2 HI2.out P2.e.toNat (by have := HM2.out; omega) (by omega) x6 y6 W hr
      have hV1 : P1.m * 10 ^ P1.e.toNat = whV P1 := rfl
      have hV2 : P2.m * 10 ^ P2.e.toNat = whV P2 := rfl
      rw [hV1] at hU1
      rw [hV2] at hU2
      have hz2 : whV P2 = 0 ↔ P2.m = 0 := by unfold whV; exact ⟨fun h => (Nat.mul_eq_zero.1 h).resolve_right (by have := Nat.pow_pos (n := P2.e.toNat) (show 0 < 10 by omega); omega), fun h => by rw [h, Nat.zero_mul]⟩
      clear hV1 hV2 HE1 HE2 HR
      generalize whV P1 = v1 at *
      generalize whV P2 = v2 at *
      have hv1 := dg9_few' (m := v1) hf1.2
      have hv2 := dg9_few' (m := v2) hf2.2
      have HU1 := Lib.hid (fun W (hb : Below w97.heap.size w97 W) => hU1 W (R_p.out.below hb)); have HU2 := Lib.hid (fun W (hb : Below w97.heap.size w97 W) => hU2 W (R_q.out.below hb))
      clear hU1 hU2
      by_cases h2 : v2 = 0
      · rw [if_pos (hz2.1 h2)] at hR
        have HR2 := Lib.hid hR
        have hD : ∀ a b c d W (r1 : Rd W .u32 a (dg 1000000000 v1)) (r2 : Rd W .u32 b (dg 1000000000 v2)), _ := fun a b c d W r1 r2 => DivMod_zero a b c d (dg 1000000000 v1) (dg 1000000000 v2) W (by omega) (by omega) (lo9 _) (lo9 _) r1 r2 (by rw [vl_dg (by omega)]; exact h2)
        have HD := Lib.hid hD
        clear hD hR hz2 hv1 hv2 hf1 hf2 h2
        obtain ⟨kx0, kx1, kx2⟩ := X_x.out
        obtain ⟨ky0, ky1, ky2⟩ := X_y.out
        go_wp2_with fail
        go_region_held3 (fun w' => w'.cell? ⟨w2.heap.size, 0, none⟩ = some (.bool P1.neg) ∧ w'.cell? ⟨w2.heap.size, 1, none⟩ = some (.slice x5 (dg 1000000000 P1.m).length y5) ∧ w'.cell? ⟨w2.heap.size, 2, none⟩ = some (.int .i64 P1.e) ∧ w'.cell? ⟨w2.heap.size + 1, 0, none⟩ = some (.bool P2.neg) ∧ w'.cell? ⟨w2.heap.size + 1, 1, none⟩ = some (.slice x6 (dg 1000000000 P2.m).length y6) ∧ w'.cell? ⟨w2.heap.size + 1, 2, none⟩ = some (.int .i64 P2.e)) (first | with_reducible exact ⟨g0, g1, g2, g3, g4, g5⟩ | with_reducible exact ⟨j0, j1, j2, j3, j4, j5⟩ | with_reducible exact ⟨i0, i1, i2, i3, i4, i5⟩ | with_reducible exact ⟨kx0, kx1, kx2, ky0, ky1, ky2⟩ | exact ⟨kx0, kx1, kx2, ky0, ky1, ky2⟩ | go_keep)
          (first
            | (go_at_call 43; have chk := z6; refine (HD.out _ _ _ _ _ (ho5.below hb6) ho6).mono ?_; rintro e wu ⟨rfl, hb7⟩; have z7 := z6.trans (hb7.mono z6.size); have g0 := cellB j0 hb7; have g1 := cellB j1 hb7; have g2 := cellB j2 hb7; have g3 := cellB j3 hb7; have g4 := cellB j4 hb7; have g5 := cellB j5 hb7)
            | (go_at_call 44; have chk := z5; refine (HU2.out _ z5).mono ?_; rintro e wt2 ⟨x8, y8, rfl, ho6, hb6⟩; have z6 := z5.trans (hb6.mono z5.size); have j0 := cellB i0 hb6; have j1 := cellB i1 hb6; have j2 := cellB i2 hb6; have j3 := cellB i3 hb6; have j4 := cellB i4 hb6; have j5 := cellB i5 hb6)
            | (go_at_call 44; refine (HU1.out _ (Below.refl w97.heap.size w97).drew).mono ?_; rintro e ws2 ⟨x7, y7, rfl, ho5, hb5⟩; have z5 := (Below.refl w97.heap.size w97).drew.trans hb5; have i0 := cellB kx0 z5; have i1 := cellB kx1 z5; have i2 := cellB kx2 z5; have i3 := cellB ky0 z5; have i4 := cellB ky1 z5; have i5 := cellB ky2 z5))
        replace F_r := Qf.below F_r (Qx.lt X_r) z7
        replace X_r := Qx.below X_r z7
        replace F_x := Qf.below F_x (Qx.lt X_x) z7
        replace X_x := Qx.below X_x z7
        have b99 := b97.trans (z7.mono b97.size)
        clear X_y F_y
        clear R_p R_q
        clear g0 g1 g2 g3 g4 g5 j0 j1 j2 j3 j4 j5 i0 i1 i2 i3 i4 i5 kx0 kx1 kx2 ky0 ky1 ky2 hb5 hb6 hb7 z5 z6 z7 ho5 ho6
        obtain ⟨kr0, kr1, kr2⟩ := X_r.out
        have kf_r := F_r.out
        unfold Qf at kf_r
        go_wp2
        refine bodyPost_ret (v := .tuple #[.agg #[.bool false, .slice none 0 0, .int .i64 0], .int .i64 4]) (by simp [results, Tryz.results14, go_sem, kr0, kr1, kr2]) rfl ?_
        exact resY_err HR2.out (Below.box b99 (g := w.heap.size + 1 + 1) (by omega) _ _ _)
      · rw [if_neg (fun h => h2 (hz2.2 h))] at hR
        have hD := fun a b c d W (r1 : Rd W .u32 a (dg 1000000000 v1)) (r2 : Rd W .u32 b (dg 1000000000 v2)) => divmod9 v1 v2 a b c d W (by omega) (by omega) (by omega) r1 r2
        have hlt : dl (v1 % v2) ≤ 400 := by
          have h5 := Nat.mod_lt v1 (show 0 < v2 by omega)
          have h6 := lt_dl v2
          have h7 := dl_lt (Nat.lt_trans h5 h6)
          omega
        have hNn := norm_whole (s := P1.neg) hlt
        have hle := dg9_few' (m := v1 % v2) hlt
        generalize v1 % v2 = v3 at *
        generalize v1 / v2 = v4 at *
        have hN := fun x y W r ht => DNorm_any P1.neg x y (dg 1000000000 v3) 0 W (by omega) (lo9 _) r ht
        rw [hNn, ← hR] at hN
        have HN := Lib.hid hN; have HD := Lib.hid hD
        clear hD hR hz2 hv1 hv2 hf1 hf2 hN hNn hlt hle h2
        generalize (dg 1000000000 v3).length = n3 at *
        obtain ⟨kx0, kx1, kx2⟩ := X_x.out
        obtain ⟨ky0, ky1, ky2⟩ := X_y.out
        go_wp2_with fail
        go_region_held3 (fun w' => w'.cell? ⟨w2.heap.size, 0, none⟩ = some (.bool P1.neg) ∧ w'.cell? ⟨w2.heap.size, 1, none⟩ = some (.slice x5 (dg 1000000000 P1.m).length y5) ∧ w'.cell? ⟨w2.heap.size, 2, none⟩ = some (.int .i64 P1.e) ∧ w'.cell? ⟨w2.heap.size + 1, 0, none⟩ = some (.bool P2.neg) ∧ w'.cell? ⟨w2.heap.size + 1, 1, none⟩ = some (.slice x6 (dg 1000000000 P2.m).length y6) ∧ w'.cell? ⟨w2.heap.size + 1, 2, none⟩ = some (.int .i64 P2.e)) (first | with_reducible exact ⟨g0, g1, g2, g3, g4, g5⟩ | with_reducible exact ⟨j0, j1, j2, j3, j4, j5⟩ | with_reducible exact ⟨i0, i1, i2, i3, i4, i5⟩ | with_reducible exact ⟨kx0, kx1, kx2, ky0, ky1, ky2⟩ | exact ⟨kx0, kx1, kx2, ky0, ky1, ky2⟩ | go_keep)
          (first
            | (go_at_call 43; have chk := z6; refine (HD.out _ _ _ _ _ (ho5.below hb6) ho6).mono ?_; rintro e wu ⟨xa, ya, xb, yb, rfl, hoa, hob, hb7⟩; have z7 := z6.trans (hb7.mono z6.size); have g0 := cellB j0 hb7; have g1 := cellB j1 hb7; have g2 := cellB j2 hb7; have g3 := cellB j3 hb7; have g4 := cellB j4 hb7; have g5 := cellB j5 hb7)
            | (go_at_call 44; have chk := z5; refine (HU2.out _ z5).mono ?_; rintro e wt2 ⟨x8, y8, rfl, ho6, hb6⟩; have z6 := z5.trans (hb6.mono z5.size); have j0 := cellB i0 hb6; have j1 := cellB i1 hb6; have j2 := cellB i2 hb6; have j3 := cellB i3 hb6; have j4 := cellB i4 hb6; have j5 := cellB i5 hb6)
            | (go_at_call 44; refine (HU1.out _ (Below.refl w97.heap.size w97).drew).mono ?_; rintro e ws2 ⟨x7, y7, rfl, ho5, hb5⟩; have z5 := (Below.refl w97.heap.size w97).drew.trans hb5; have i0 := cellB kx0 z5; have i1 := cellB kx1 z5; have i2 := cellB kx2 z5; have i3 := cellB ky0 z5; have i4 := cellB ky1 z5; have i5 := cellB ky2 z5))
        replace F_r := Qf.below F_r (Qx.lt X_r) z7
        replace X_r := Qx.below X_r z7
        replace F_x := Qf.below F_x (Qx.lt X_x) z7
        replace X_x := Qx.below X_x z7
        have b99 := b97.trans (z7.mono b97.size)
        clear X_y F_y
        clear R_p R_q
        have R_b := Lib.hid hob
        clear g0 g1 g2 g3 g4 g5 j0 j1 j2 j3 j4 j5 i0 i1 i2 i3 i4 i5 kx0 kx1 kx2 ky0 ky1 ky2 hb5 hb6 hb7 z5 z6 z7 ho5 ho6 hoa hob HD HU1 HU2
        obtain ⟨kx0, kx1, kx2⟩ := X_x.out
        go_wp2_with fail
        clear kx0 kx1 kx2
        refine (HN.out _ _ _ R_b.out (HT.out.below b99)).mono ?_
        rintro r w100 ⟨xn, yn, rfl, ho, hc⟩
        have b100 := b99.trans (hc.mono b99.size)
        replace F_r := Qf.below F_r (Qx.lt X_r) hc
        replace X_r := Qx.below X_r hc
        replace F_x := Qf.below F_x (Qx.lt X_x) hc
        replace X_x := Qx.below X_x hc
        replace R_b := Lib.hid (R_b.out.below hc)
        clear hc b99
        have R_n := Lib.hid ho.rd
        clear ho
        obtain ⟨kr0, kr1, kr2⟩ := X_r.out
        have kf_r := F_r.out
        unfold Qf at kf_r
        go_wp2
        refine bodyPost_ret (v := .tuple #[.agg #[.bool R.p.neg, .slice xn (dg 1000000000 R.p.m).length yn, .int .i64 R.p.e], .int .i64 (R.err : Nat)]) (by simp [results, Tryz.results14, go_sem, kr0, kr1, kr2]) rfl ?_
        exact ⟨xn, yn, rfl, Rd.box R_n.out X_r (by decide) _ _ _, (Below.box b100 (g := w.heap.size + 1 + 1) (by omega) _ _ _)⟩
  · have hR := HR.out
    rw [if_neg (show ¬ okP A B from hbad)] at hR
    have HR2 := Lib.hid hR
    have t0 : (((pairE A B : Nat) : Int) != 0) = true := by have := pairE_bad hbad; simp; omega
    clear hR HR hbad
    generalize pairE A B = pe at *
    have z_x := b2.size
    have hd := (Below.refl w2.heap.size w2).alloc (Nat.le_refl _) (.cells #[.bool false, .slice none 0 0, .int .i64 0] 24)
    have b3 := b2.trans (hd.mono b2.size)
    have l_r_x := Qx.lt X_r
    have m_r_x := not_eq_lt l_r_x
    have m_x_r := not_eq_gt l_r_x
    clear l_r_x
    replace F_r := Qf.below F_r (Qx.lt X_r) hd
    replace X_r := Qx.below X_r hd
    have X_x := Qx.new w2 (.bool false) (.slice none 0 0) (.int .i64 0) 24
    have F_x := Qf.new w2 (.bool false) (.slice none 0 0) (.int .i64 0) 24
    clear hd b2
    have z_y := b3.size
    have hd := (Below.refl (w2.alloc (.cells #[.bool false, .slice none 0 0, .int .i64 0] 24)).heap.size (w2.alloc (.cells #[.bool false, .slice none 0 0, .int .i64 0] 24))).alloc (Nat.le_refl _) (.cells #[.bool false, .slice none 0 0, .int .i64 0] 24)
    have b4 := b3.trans (hd.mono b3.size)
    have l_r_y := Qx.lt X_r
    have m_r_y := not_eq_lt l_r_y
    have m_y_r := not_eq_gt l_r_y
    clear l_r_y
    have l_x_y := Qx.lt X_x
    have m_x_y := not_eq_lt l_x_y
    have m_y_x := not_eq_gt l_x_y
    clear l_x_y
    replace F_r := Qf.below F_r (Qx.lt X_r) hd
    replace X_r := Qx.below X_r hd
    replace F_x := Qf.below F_x (Qx.lt X_x) hd
    replace X_x := Qx.below X_x hd
    have X_y := Qx.new (w2.alloc (.cells #[.bool false, .slice none 0 0, .int .i64 0] 24)) (.bool false) (.slice none 0 0) (.int .i64 0) 24
    have F_y := Qf.new (w2.alloc (.cells #[.bool false, .slice none 0 0, .int .i64 0] 24)) (.bool false) (.slice none 0 0) (.int .i64 0) 24
    clear hd b3
    have z : (w2.alloc (.cells #[.bool false, .slice none 0 0, .int .i64 0] 24)).heap.size = w2.heap.size + 1 := by simp
    rw [z] at X_y F_y m_r_y m_y_r m_x_y m_y_x
    clear z
    obtain ⟨kr0, kr1, kr2⟩ := X_r.out
    have kf_r := F_r.out
    unfold Qf at kf_r
    go_wp2
    refine bodyPost_ret (v := .tuple #[.agg #[.bool false, .slice none 0 0, .int .i64 0], .int .i64 (pe : Nat)]) (by simp [results, Tryz.results14, go_sem, kr0, kr1, kr2]) rfl ?_
    exact resY_err HR2.out (Below.box b4 (g := w.heap.size + 1 + 1) (by omega) _ _ _)
end Go.Proofs.YtimfpgpomafflaaGreatDoor
