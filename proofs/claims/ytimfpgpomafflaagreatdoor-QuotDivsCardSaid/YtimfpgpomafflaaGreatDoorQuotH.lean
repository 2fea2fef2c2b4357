/- quot: Div. -/
import Derived.Test.YtimfpgpomafflaaGreatDoorQuotG
namespace Go.Proofs.YtimfpgpomafflaaGreatDoor
open Go.RowKit LM

/-- what Div tells -/
def divV (p q : Pl) : Ans := if q.m = 0 then ⟨4, zP⟩ else if p.m = 0 then ⟨0, zP⟩ else tellA (!(p.neg == q.neg)) (lqV p.m q.m (lqE p.m q.m)) (p.e - q.e + lqE p.m q.m)
def divA (A B : Ans) : Ans := if okP A B then divV A.p B.p else ⟨pairE A B, zP⟩
theorem div_norm {u v : Nat} {s : Bool} {e : Int} (hu : 0 < u) (hv : 0 < v) (h1 : -30000 ≤ e) (h2 : e ≤ 30000) : normA (dg 1000000000 (lqV u v (lqE u v))).length s (vl 1000000000 (dg 1000000000 (lqV u v (lqE u v)))) e = tellA s (lqV u v (lqE u v)) e := by
  have h := lqV_le hu hv
  have h3 : (dg 10 (lqV u v (lqE u v))).length ≤ 35 := dg_len_of_lt (by omega) (Nat.lt_of_le_of_lt h (by decide))
  have h4 := dg_len_9 (lqV u v (lqE u v))
  have hn : nearB (dg 1000000000 (lqV u v (lqE u v))).length e = true := decide_eq_true (by omega)
  unfold normA
  rw [vl_dg (by omega), if_pos hn]
set_option maxHeartbeats 16000000 in
set_option maxRecDepth 20000 in
theorem Div_any (s1 s2 : Bool) (a1 a2 : Option Addr) (c1 c2 : Nat) (l1 l2 : List Nat) (e1 e2 : Int) (w : World) (h1 : l1.length ≤ 9223372036854775807) (h2 : l2.length ≤ 9223372036854775807) (hlo1 : Lo 4294967296 l1) (hlo2 : Lo 4294967296 l2) (hr1 : Rd w .u32 a1 l1) (hr2 : Rd w .u32 a2 l2) (htab : Tab w) :
    Calls Tryz.prog 11 #[.agg #[.bool s1, .slice a1 l1.length c1, .int .i64 e1], .agg #[.bool s2, .slice a2 l2.length c2, .int .i64 e2]] w (ResY (divA (normA l1.length s1 (vl 1000000000 l1) e1) (normA l2.length s2 (vl 1000000000 l2) e2)) w) := by
  have hP := fun W hb => plainPairQ_any s1 s2 a1 a2 c1 c2 l1 l2 e1 e2 W h1 h2 hlo1 hlo2 (hr1.below' (w' := W) hb (Nat.le_refl _)) (hr2.below' hb (Nat.le_refl _)) (htab.below hb)
  have hiA := normA_in l1.length s1 (vl 1000000000 l1) e1
  have hiB := normA_in l2.length s2 (vl 1000000000 l2) e2
  generalize normA l1.length s1 (vl 1000000000 l1) e1 = A at *
  generalize normA l2.length s2 (vl 1000000000 l2) e2 = B at *
  have hres : divA A B = if okP A B then divV A.p B.p else ⟨pairE A B, zP⟩ := rfl
  generalize divA A B = R at *
  have HP := Lib.hid hP; have HR := Lib.hid hres; have HT := Lib.hid htab; have HIA := Lib.hid hiA; have HIB := Lib.hid hiB
  clear hP hres htab hr1 hr2 hlo1 hlo2 hiA hiB
  go_enter Tryz.func11, Tryz.ntmps11
  have b1 := ((((Below.refl w.heap.size w).alloc (Nat.le_refl _) (.cells #[.bool s1, .slice a1 l1.length c1, .int .i64 e1] 24)).alloc (by simp) (.cells #[.bool s2, .slice a2 l2.length c2, .int .i64 e2] 24)).alloc (by simp; omega) (.cells #[.bool false, .slice none 0 0, .int .i64 0] 24))
  have X_a := (Qx.below (Qx.below (Qx.new w (.bool s1) (.slice a1 l1.length c1) (.int .i64 e1) 24) ((Below.refl _ _).alloc (Nat.le_refl _) (.cells #[.bool s2, .slice a2 l2.length c2, .int .i64 e2] 24))) ((Below.refl _ _).alloc (Nat.le_refl _) (.cells #[.bool false, .slice none 0 0, .int .i64 0] 24)))
  have F_a := (Qf.below (Qf.below (Qf.new w (.bool s1) (.slice a1 l1.length c1) (.int .i64 e1) 24) (Qx.lt (Qx.new w (.bool s1) (.slice a1 l1.length c1) (.int .i64 e1) 24)) ((Below.refl _ _).alloc (Nat.le_refl _) (.cells #[.bool s2, .slice a2 l2.length c2, .int .i64 e2] 24))) (Qx.lt (Qx.below (Qx.new w (.bool s1) (.slice a1 l1.length c1) (.int .i64 e1) 24) ((Below.refl _ _).alloc (Nat.le_refl _) (.cells #[.bool s2, .slice a2 l2.length c2, .int .i64 e2] 24)))) ((Below.refl _ _).alloc (Nat.le_refl _) (.cells #[.bool false, .slice none 0 0, .int .i64 0] 24)))
  have X_b := (Qx.below (Qx.new (w.alloc (.cells #[.bool s1, .slice a1 l1.length c1, .int .i64 e1] 24)) (.bool s2) (.slice a2 l2.length c2) (.int .i64 e2) 24) ((Below.refl _ _).alloc (Nat.le_refl _) (.cells #[.bool false, .slice none 0 0, .int .i64 0] 24)))
  have F_b := (Qf.below (Qf.new (w.alloc (.cells #[.bool s1, .slice a1 l1.length c1, .int .i64 e1] 24)) (.bool s2) (.slice a2 l2.length c2) (.int .i64 e2) 24) (Qx.lt (Qx.new (w.alloc (.cells #[.bool s1, .slice a1 l1.length c1, .int .i64 e1] 24)) (.bool s2) (.slice a2 l2.length c2) (.int .i64 e2) 24)) ((Below.refl _ _).alloc (Nat.le_refl _) (.cells #[.bool false, .slice none 0 0, .int .i64 0] 24)))
  have z : (w.alloc (.cells #[.bool s1, .slice a1 l1.length c1, .int .i64 e1] 24)).heap.size = w.heap.size + 1 := by simp
  rw [z] at X_b F_b
  clear z
  have X_r := (Qx.new ((w.alloc (.cells #[.bool s1, .slice a1 l1.length c1, .int .i64 e1] 24)).alloc (.cells #[.bool s2, .slice a2 l2.length c2, .int .i64 e2] 24)) (.bool false) (.slice none 0 0) (.int .i64 0) 24)
  have F_r := (Qf.new ((w.alloc (.cells #[.bool s1, .slice a1 l1.length c1, .int .i64 e1] 24)).alloc (.cells #[.bool s2, .slice a2 l2.length c2, .int .i64 e2] 24)) (.bool false) (.slice none 0 0) (.int .i64 0) 24)
  have z : ((w.alloc (.cells #[.bool s1, .slice a1 l1.length c1, .int .i64 e1] 24)).alloc (.cells #[.bool s2, .slice a2 l2.length c2, .int .i64 e2] 24)).heap.size = w.heap.size + 1 + 1 := by simp
  rw [z] at X_r F_r
  clear z
  obtain ⟨ka0, ka1, ka2⟩ := X_a.out
  obtain ⟨kb0, kb1, kb2⟩ := X_b.out
  go_wp2_with fail
  clear ka0 ka1 ka2 kb0 kb1 kb2
  refine (HP.out _ b1).mono ?_
  rintro r w2 ⟨hc, hh⟩
  have b2 := b1.trans (hc.mono b1.size)
  replace F_a := Qf.below F_a (Qx.lt X_a) hc
  replace X_a := Qx.below X_a hc
  replace F_b := Qf.below F_b (Qx.lt X_b) hc
  replace X_b := Qx.below X_b hc
  replace F_r := Qf.below F_r (Qx.lt X_r) hc
  replace X_r := Qx.below X_r hc
  clear hc b1
  clear X_a F_a
  clear X_b F_b
  rcases hh with ⟨hA, hB, xp, yp, xq, yq, rfl, ho1, ho2⟩ | ⟨hbad, rfl⟩
  · have R_p := Lib.hid ho1
    have R_q := Lib.hid ho2
    clear ho1 ho2
    have hR := HR.out
    rw [if_pos ⟨hA, hB⟩] at hR
    clear HR hA hB
    have HR := Lib.hid hR
    clear hR
    have z_x := b2.size
    have hd := (Below.refl w2.heap.size w2).alloc (Nat.le_refl _) (.cells #[.bool A.p.neg, .slice xp (dg 1000000000 A.p.m).length yp, .int .i64 A.p.e] 24)
    have b3 := b2.trans (hd.mono b2.size)
    have l_r_x := Qx.lt X_r
    have m_r_x := not_eq_lt l_r_x
    have m_x_r := not_eq_gt l_r_x
    clear l_r_x
    replace F_r := Qf.below F_r (Qx.lt X_r) hd
    replace X_r := Qx.below X_r hd
    replace R_p := Lib.hid (R_p.out.below hd)
    replace R_q := Lib.hid (R_q.out.below hd)
    have X_x := Qx.new w2 (.bool A.p.neg) (.slice xp (dg 1000000000 A.p.m).length yp) (.int .i64 A.p.e) 24
    have F_x := Qf.new w2 (.bool A.p.neg) (.slice xp (dg 1000000000 A.p.m).length yp) (.int .i64 A.p.e) 24
    clear hd b2
    have z_y := b3.size
    have hd := (Below.refl (w2.alloc (.cells #[.bool A.p.neg, .slice xp (dg 1000000000 A.p.m).length yp, .int .i64 A.p.e] 24)).heap.size (w2.alloc (.cells #[.bool A.p.neg, .slice xp (dg 1000000000 A.p.m).length yp, .int .i64 A.p.e] 24))).alloc (Nat.le_refl _) (.cells #[.bool B.p.neg, .slice xq (dg 1000000000 B.p.m).length yq, .int .i64 B.p.e] 24)
    have b4 := b3.trans (hd.mono b3.size)
    have l_r_y := Qx.lt X_r
    have m_r_y := not_eq_lt l_r_y
    have m_y_r := not_eq_gt l_r_y
    clear l_r_y
    have l_x_y := Qx.lt X_x
    have m_x_y := not_eq_lt l_x_y
    have m_y_x := not_eq_gt l_x_y
    clear l_x_y
    replace F_r := Qf.below F_r (Qx.lt X_r) hd
    replace X_r := Qx.below X_r hd
    replace F_x := Qf.below F_x (Qx.lt X_x) hd
    replace X_x := Qx.below X_x hd
    replace R_p := Lib.hid (R_p.out.below hd)
    replace R_q := Lib.hid (R_q.out.below hd)
    have X_y := Qx.new (w2.alloc (.cells #[.bool A.p.neg, .slice xp (dg 1000000000 A.p.m).length yp, .int .i64 A.p.e] 24)) (.bool B.p.neg) (.slice xq (dg 1000000000 B.p.m).length yq) (.int .i64 B.p.e) 24
    have F_y := Qf.new (w2.alloc (.cells #[.bool A.p.neg, .slice xp (dg 1000000000 A.p.m).length yp, .int .i64 A.p.e] 24)) (.bool B.p.neg) (.slice xq (dg 1000000000 B.p.m).length yq) (.int .i64 B.p.e) 24
    clear hd b3
    have z : (w2.alloc (.cells #[.bool A.p.neg, .slice xp (dg 1000000000 A.p.m).length yp, .int .i64 A.p.e] 24)).heap.size = w2.heap.size + 1 := by simp
    rw [z] at X_y F_y m_r_y m_y_r m_x_y m_y_x
    clear z
    by_cases h0 : B.p.m = 0
    · have hR := HR.out
      unfold divV at hR
      rw [if_pos h0] at hR
      have HR2 := Lib.hid hR
      clear hR HR
      have t0 : (((dg 1000000000 B.p.m).length : Int) == 0) = true := by rw [h0, dg_zero]; rfl
      generalize (dg 1000000000 B.p.m).length = nB at *
      obtain ⟨ky0, ky1, ky2⟩ := X_y.out
      obtain ⟨kr0, kr1, kr2⟩ := X_r.out
      have kf_r := F_r.out
      unfold Qf at kf_r
      go_wp2
      refine bodyPost_ret (v := .tuple #[.agg #[.bool false, .slice none 0 0, .int .i64 0], .int .i64 4]) (by simp [results, Tryz.results11, go_sem, kr0, kr1, kr2]) rfl ?_
      exact resY_err HR2.out (Below.box b4 (g := w.heap.size + 1 + 1) (by omega) _ _ _)
    have t0 : (((dg 1000000000 B.p.m).length : Int) == 0) = false := by rw [dg_pos (by omega) (by omega : 0 < B.p.m)]; simp; omega
    by_cases h3 : A.p.m = 0
    · have hR := HR.out
      unfold divV at hR
      rw [if_neg h0, if_pos h3] at hR
      have HR2 := Lib.hid hR
      clear hR HR
      have t1 : (((dg 1000000000 A.p.m).length : Int) == 0) = true := by rw [h3, dg_zero]; rfl
      generalize (dg 1000000000 B.p.m).length = nB at *
      generalize (dg 1000000000 A.p.m).length = nA at *
      obtain ⟨kx0, kx1, kx2⟩ := X_x.out
      obtain ⟨ky0, ky1, ky2⟩ := X_y.out
      obtain ⟨kr0, kr1, kr2⟩ := X_r.out
      have kf_r := F_r.out
      unfold Qf at kf_r
      go_wp2
      refine bodyPost_ret (v := .tuple #[.agg #[.bool false, .slice none 0 0, .int .i64 0], .int .i64 0]) (by simp [results, Tryz.results11, go_sem, kr0, kr1, kr2]) rfl ?_
      exact resY_err HR2.out (Below.box b4 (g := w.heap.size + 1 + 1) (by omega) _ _ _)
    · have hR := HR.out
      unfold divV at hR
      rw [if_neg h0, if_neg h3] at hR
      clear HR
      have t1 : (((dg 1000000000 A.p.m).length : Int) == 0) = false := by rw [dg_pos (by omega) (by omega : 0 < A.p.m)]; simp; omega
      have bA := inR_bounds HIA.out
      have bB := inR_bounds HIB.out
      obtain ⟨be1, be2⟩ := lqE_bounds bA.1 bB.1
      have hL := fun W r1 r2 ht => longQuot_any A.p.m B.p.m (by omega) bA.1 bB.1 xp xq yp yq W r1 r2 ht
      have hdn := div_norm (u := A.p.m) (v := B.p.m) (s := !(A.p.neg == B.p.neg)) (e := A.p.e - B.p.e + lqE A.p.m B.p.m) (by omega) (by omega) (by omega) (by omega)
      have hfew : (dg 1000000000 (lqV A.p.m B.p.m (lqE A.p.m B.p.m))).length ≤ 9223372036854775807 := by
        have h := lqV_le (u := A.p.m) (v := B.p.m) (by omega) (by omega)
        have h3 : (dg 10 (lqV A.p.m B.p.m (lqE A.p.m B.p.m))).length ≤ 35 := dg_len_of_lt (by omega) (Nat.lt_of_le_of_lt h (by decide))
        have h4 := dg_len_9 (lqV A.p.m B.p.m (lqE A.p.m B.p.m))
        omega
      unfold ResLq at hL
      generalize lqV A.p.m B.p.m (lqE A.p.m B.p.m) = L at *
      generalize lqE A.p.m B.p.m = EE at *
      have hN := fun x y W r ht => DNorm_any (!(A.p.neg == B.p.neg)) x y (dg 1000000000 L) (A.p.e - B.p.e + EE) W hfew (lo9 _) r ht
      rw [hdn, ← hR] at hN
      obtain ⟨-, ba1, ba2⟩ := bA
      obtain ⟨-, bb1, bb2⟩ := bB
      have HL := Lib.hid hL; have HN := Lib.hid hN
      clear hL hN hR hdn hfew HIA HIB HP h0 h3
      generalize (dg 1000000000 B.p.m).length = nB at *
      generalize (dg 1000000000 A.p.m).length = nA at *
      generalize (dg 1000000000 L).length = nL at *
      obtain ⟨kx0, kx1, kx2⟩ := X_x.out
      obtain ⟨ky0, ky1, ky2⟩ := X_y.out
      go_wp2_with fail
      clear kx0 kx1 kx2 ky0 ky1 ky2
      refine (HL.out _ R_p.out R_q.out (HT.out.below b4)).mono ?_
      rintro r w5 ⟨xl, yl, rfl, h1, hc⟩
      have b5 := b4.trans (hc.mono b4.size)
      replace F_r := Qf.below F_r (Qx.lt X_r) hc
      replace X_r := Qx.below X_r hc
      replace F_x := Qf.below F_x (Qx.lt X_x) hc
      replace X_x := Qx.below X_x hc
      replace F_y := Qf.below F_y (Qx.lt X_y) hc
      replace X_y := Qx.below X_y hc
      replace R_p := Lib.hid (R_p.out.below hc)
      replace R_q := Lib.hid (R_q.out.below hc)
      clear hc b4
      have R_l := Lib.hid h1
      clear h1
      obtain ⟨kx0, kx1, kx2⟩ := X_x.out
      obtain ⟨ky0, ky1, ky2⟩ := X_y.out
      go_wp2_with fail
      clear kx0 kx1 kx2 ky0 ky1 ky2
      refine (HN.out _ _ _ R_l.out (HT.out.below b5)).mono ?_
      rintro r w6 ⟨xn, yn, rfl, ho, hc⟩
      have b6 := b5.trans (hc.mono b5.size)
      replace F_r := Qf.below F_r (Qx.lt X_r) hc
      replace X_r := Qx.below X_r hc
      replace F_x := Qf.below F_x (Qx.lt X_x) hc
      replace X_x := Qx.below X_x hc
      replace F_y := Qf.below F_y (Qx.lt X_y) hc
      replace X_y := Qx.below X_y hc
      replace R_p := Lib.hid (R_p.out.below hc)
      replace R_q := Lib.hid (R_q.out.below hc)
      replace R_l := Lib.hid (R_l.out.below hc)
      clear hc b5
      have R_n := Lib.hid ho.rd
      clear ho
      obtain ⟨kr0, kr1, kr2⟩ := X_r.out
      have kf_r := F_r.out
      unfold Qf at kf_r
      go_wp2
      refine bodyPost_ret (v := .tuple #[.agg #[.bool R.p.neg, .slice xn (dg 1000000000 R.p.m).length yn, .int .i64 R.p.e], .int .i64 (R.err : Nat)]) (by simp [results, Tryz.results11, go_sem, kr0, kr1, kr2]) rfl ?_
      exact ⟨xn, yn, rfl, Rd.box R_n.out X_r (by decide) _ _ _, (Below.box b6 (g := w.heap.size + 1 + 1) (by omega) _ _ _)⟩
  · have hR := HR.out
    rw [if_neg (show ¬ okP A B from hbad)] at hR
    have HR2 := Lib.hid hR
    have t0 : (((pairE A B : Nat) : Int) != 0) = true := by have := pairE_bad hbad; simp; omega
    clear hR HR hbad
    generalize pairE A B = pe at *
    have z_x := b2.size
    have hd := (Below.refl w2.heap.size w2).alloc (Nat.le_refl _) (.cells #[.bool false, .slice none 0 0, .int .i64 0] 24)
    have b3 := b2.trans (hd.mono b2.size)
    have l_r_x := Qx.lt X_r
    have m_r_x := not_eq_lt l_r_x
    have m_x_r := not_eq_gt l_r_x
    clear l_r_x
    replace F_r := Qf.below F_r (Qx.lt X_r) hd
    replace X_r := Qx.below X_r hd
    have X_x := Qx.new w2 (.bool false) (.slice none 0 0) (.int .i64 0) 24
    have F_x := Qf.new w2 (.bool false) (.slice none 0 0) (.int .i64 0) 24
    clear hd b2
    have z_y := b3.size
    have hd := (Below.refl (w2.alloc (.cells #[.bool false, .slice none 0 0, .int .i64 0] 24)).heap.size (w2.alloc (.cells #[.bool false, .slice none 0 0, .int .i64 0] 24))).alloc (Nat.le_refl _) (.cells #[.bool false, .slice none 0 0, .int .i64 0] 24)
    have b4 := b3.trans (hd.mono b3.size)
    have l_r_y := Qx.lt X_r
    have m_r_y := not_eq_lt l_r_y
    have m_y_r := not_eq_gt l_r_y
    clear l_r_y
    have l_x_y := Qx.lt X_x
    have m_x_y := not_eq_lt l_x_y
    have m_y_x := not_eq_gt l_x_y
    clear l_x_y
    replace F_r := Qf.below F_r (Qx.lt X_r) hd
    replace X_r := Qx.below X_r hd
    replace F_x := Qf.below F_x (Qx.lt X_x) hd
    replace X_x := Qx.below X_x hd
    have X_y := Qx.new (w2.alloc (.cells #[.bool false, .slice none 0 0, .int .i64 0] 24)) (.bool false) (.slice none 0 0) (.int .i64 0) 24
    have F_y := Qf.new (w2.alloc (.cells #[.bool false, .slice none 0 0, .int .i64 0] 24)) (.bool false) (.slice none 0 0) (.int .i64 0) 24
    clear hd b3
    have z : (w2.alloc (.cells #[.bool false, .slice none 0 0, .int .i64 0] 24)).heap.size = w2.heap.size + 1 := by simp
    rw [z] at X_y F_y m_r_y m_y_r m_x_y m_y_x
    clear z
    obtain ⟨kr0, kr1, kr2⟩ := X_r.out
    have kf_r := F_r.out
    unfold Qf at kf_r
    go_wp2
    refine bodyPost_ret (v := .tuple #[.agg #[.bool false, .slice none 0 0, .int .i64 0], .int .i64 (pe : Nat)]) (by simp [results, Tryz.results11, go_sem, kr0, kr1, kr2]) rfl ?_
    exact resY_err HR2.out (Below.box b4 (g := w.heap.size + 1 + 1) (by omega) _ _ _)
end Go.Proofs.YtimfpgpomafflaaGreatDoor
