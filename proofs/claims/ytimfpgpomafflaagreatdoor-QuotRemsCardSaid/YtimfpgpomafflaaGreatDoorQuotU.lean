/- The document's Rem. -/
import Derived.Test.YtimfpgpomafflaaGreatDoorQuotR
import Derived.Test.YtimfpgpomafflaaGreatDoorQuotV
import Derived.Test.YtimfpgpomafflaaGreatDoorDecQs
namespace Go.Proofs.YtimfpgpomafflaaGreatDoor
open Go.RowKit LM

theorem hd_zero {p : Pl} (hp : PlainP p) (h : p.m = 0) : hd p = -1 := by
  rw [zp_of hp h]; unfold hd dl zP; rw [dg_zero]; rfl
set_option maxHeartbeats 8000000 in
set_option maxRecDepth 20000 in
theorem RRem_no (s1 s2 : Bool) (a1 a2 : Option Addr) (c1 c2 : Nat) (l1 l2 : List Nat) (e1 e2 : Int) (w : World) (h1 : l1.length ≤ 9223372036854775807) (h2 : l2.length ≤ 9223372036854775807) (hlo1 : Lo 4294967296 l1) (hlo2 : Lo 4294967296 l2) (hr1 : Rd w .u32 a1 l1) (hr2 : Rd w .u32 a2 l2) (h0 : ¬ okP (normA l1.length s1 (vl 1000000000 l1) e1) (normA l2.length s2 (vl 1000000000 l2) e2)) :
    Calls Tryz.prog 15 #[.agg #[.bool s1, .slice a1 l1.length c1, .int .i64 e1], .agg #[.bool s2, .slice a2 l2.length c2, .int .i64 e2]] w (ResY (remA (normA l1.length s1 (vl 1000000000 l1) e1) (normA l2.length s2 (vl 1000000000 l2) e2)) w) := by
  have hP := fun W hb => Two_any s1 s2 a1 a2 c1 c2 l1 l2 e1 e2 W h1 h2 hlo1 hlo2 (hr1.below' (w' := W) hb (Nat.le_refl _)) (hr2.below' hb (Nat.le_refl _))
  have hiA := normA_in l1.length s1 (vl 1000000000 l1) e1
  have hiB := normA_in l2.length s2 (vl 1000000000 l2) e2
  have hpA := normA_plain l1.length s1 (vl 1000000000 l1) e1
  have hpB := normA_plain l2.length s2 (vl 1000000000 l2) e2
  generalize normA l1.length s1 (vl 1000000000 l1) e1 = A at *
  generalize normA l2.length s2 (vl 1000000000 l2) e2 = B at *
  have hres : remA A B = if okP A B then remV (cutP 0 A.p) (cutP 0 B.p) else ⟨pairE A B, zP⟩ := rfl
  generalize remA A B = R at *
  rw [if_neg h0] at hres
  have t0 : (((pairE A B : Nat) : Int) != 0) = true := by have := pairE_bad h0; simp; omega
  have HP := Lib.hid hP; have HR := Lib.hid hres
  unfold ResTw at HP
  clear hP hres hiA hiB hpA hpB hr1 hr2 hlo1 hlo2 h0
  generalize pairE A B = pe at *
  go_enter Tryz.func15, Tryz.ntmps15
  have b1 := ((((Below.refl w.heap.size w).alloc (Nat.le_refl _) (.cells #[.bool s1, .slice a1 l1.length c1, .int .i64 e1] 24)).alloc (by simp) (.cells #[.bool s2, .slice a2 l2.length c2, .int .i64 e2] 24)).alloc (by simp; omega) (.cells #[.bool false, .slice none 0 0, .int .i64 0] 24))
  have X_a := (Qx.below (Qx.below (Qx.new w (.bool s1) (.slice a1 l1.length c1) (.int .i64 e1) 24) ((Below.refl _ _).alloc (Nat.le_refl _) (.cells #[.bool s2, .slice a2 l2.length c2, .int .i64 e2] 24))) ((Below.refl _ _).alloc (Nat.le_refl _) (.cells #[.bool false, .slice none 0 0, .int .i64 0] 24)))
  have F_a := (Qf.below (Qf.below (Qf.new w (.bool s1) (.slice a1 l1.length c1) (.int .i64 e1) 24) (Qx.lt (Qx.new w (.bool s1) (.slice a1 l1.length c1) (.int .i64 e1) 24)) ((Below.refl _ _).alloc (Nat.le_refl _) (.cells #[.bool s2, .slice a2 l2.length c2, .int .i64 e2] 24))) (Qx.lt (Qx.below (Qx.new w (.bool s1) (.slice a1 l1.length c1) (.int .i64 e1) 24) ((Below.refl _ _).alloc (Nat.le_refl _) (.cells #[.bool s2, .slice a2 l2.length c2, .int .i64 e2] 24)))) ((Below.refl _ _).alloc (Nat.le_refl _) (.cells #[.bool false, .slice none 0 0, .int .i64 0] 24)))
  have X_b := (Qx.below (Qx.new (w.alloc (.cells #[.bool s1, .slice a1 l1.length c1, .int .i64 e1] 24)) (.bool s2) (.slice a2 l2.length c2) (.int .i64 e2) 24) ((Below.refl _ _).alloc (Nat.le_refl _) (.cells #[.bool false, .slice none 0 0, .int .i64 0] 24)))
  have F_b := (Qf.below (Qf.new (w.alloc (.cells #[.bool s1, .slice a1 l1.length c1, .int .i64 e1] 24)) (.bool s2) (.slice a2 l2.length c2) (.int .i64 e2) 24) (Qx.lt (Qx.new (w.alloc (.cells #[.bool s1, .slice a1 l1.length c1, .int .i64 e1] 24)) (.bool s2) (.slice a2 l2.length c2) (.int .i64 e2) 24)) ((Below.refl _ _).alloc (Nat.le_refl _) (.cells #[.bool false, .slice none 0 0, .int .i64 0] 24)))
  have z : (w.alloc (.cells #[.bool s1, .slice a1 l1.length c1, .int .i64 e1] 24)).heap.size = w.heap.size + 1 := by simp
  rw [z] at X_b F_b
  clear z
  have X_r := (Qx.new ((w.alloc (.cells #[.bool s1, .slice a1 l1.length c1, .int .i64 e1] 24)).alloc (.cells #[.bool s2, .slice a2 l2.length c2, .int .i64 e2] 24)) (.bool false) (.slice none 0 0) (.int .i64 0) 24)
  have F_r := (Qf.new ((w.alloc (.cells #[.bool s1, .slice a1 l1.length c1, .int .i64 e1] 24)).alloc (.cells #[.bool s2, .slice a2 l2.length c2, .int .i64 e2] 24)) (.bool false) (.slice none 0 0) (.int .i64 0) 24)
  have z : ((w.alloc (.cells #[.bool s1, .slice a1 l1.length c1, .int .i64 e1] 24)).alloc (.cells #[.bool s2, .slice a2 l2.length c2, .int .i64 e2] 24)).heap.size = w.heap.size + 1 + 1 := by simp
  rw [z] at X_r F_r
  clear z
  obtain ⟨ka0, ka1, ka2⟩ := X_a.out
  obtain ⟨kb0, kb1, kb2⟩ := X_b.out
  go_wp2_with fail
  clear ka0 ka1 ka2 kb0 kb1 kb2
  refine (HP.out _ b1).mono ?_
  rintro r w2 ⟨xp, yp, xq, yq, rfl, ho1, ho2, hc⟩
  have b2 := b1.trans (hc.mono b1.size)
  replace F_a := Qf.below F_a (Qx.lt X_a) hc
  replace X_a := Qx.below X_a hc
  replace F_b := Qf.below F_b (Qx.lt X_b) hc
  replace X_b := Qx.below X_b hc
  replace F_r := Qf.below F_r (Qx.lt X_r) hc
  replace X_r := Qx.below X_r hc
  clear hc b1
  have R_p := Lib.hid ho1
  have R_q := Lib.hid ho2
  clear ho1 ho2
  clear X_a F_a
  clear X_b F_b
  have z_x := b2.size
  have hd := (Below.refl w2.heap.size w2).alloc (Nat.le_refl _) (.cells #[.bool A.p.neg, .slice xp (dg 10 A.p.m).length yp, .int .i64 A.p.e] 53)
  have b3 := b2.trans (hd.mono b2.size)
  have l_r_x := Qx.lt X_r
  have m_r_x := not_eq_lt l_r_x
  have m_x_r := not_eq_gt l_r_x
  clear l_r_x
  replace F_r := Qf.below F_r (Qx.lt X_r) hd
  replace X_r := Qx.below X_r hd
  replace R_p := Lib.hid (R_p.out.below hd)
  replace R_q := Lib.hid (R_q.out.below hd)
  have X_x := Qx.new w2 (.bool A.p.neg) (.slice xp (dg 10 A.p.m).length yp) (.int .i64 A.p.e) 53
  have F_x := Qf.new w2 (.bool A.p.neg) (.slice xp (dg 10 A.p.m).length yp) (.int .i64 A.p.e) 53
  clear hd b2
  have z_y := b3.size
  have hd := (Below.refl (w2.alloc (.cells #[.bool A.p.neg, .slice xp (dg 10 A.p.m).length yp, .int .i64 A.p.e] 53)).heap.size (w2.alloc (.cells #[.bool A.p.neg, .slice xp (dg 10 A.p.m).length yp, .int .i64 A.p.e] 53))).alloc (Nat.le_refl _) (.cells #[.bool B.p.neg, .slice xq (dg 10 B.p.m).length yq, .int .i64 B.p.e] 53)
  have b4 := b3.trans (hd.mono b3.size)
  have l_r_y := Qx.lt X_r
  have m_r_y := not_eq_lt l_r_y
  have m_y_r := not_eq_gt l_r_y
  clear l_r_y
  have l_x_y := Qx.lt X_x
  have m_x_y := not_eq_lt l_x_y
  have m_y_x := not_eq_gt l_x_y
  clear l_x_y
  replace F_r := Qf.below F_r (Qx.lt X_r) hd
  replace X_r := Qx.below X_r hd
  replace F_x := Qf.below F_x (Qx.lt X_x) hd
  replace X_x := Qx.below X_x hd
  replace R_p := Lib.hid (R_p.out.below hd)
  replace R_q := Lib.hid (R_q.out.below hd)
  have X_y := Qx.new (w2.alloc (.cells #[.bool A.p.neg, .slice xp (dg 10 A.p.m).length yp, .int .i64 A.p.e] 53)) (.bool B.p.neg) (.slice xq (dg 10 B.p.m).length yq) (.int .i64 B.p.e) 53
  have F_y := Qf.new (w2.alloc (.cells #[.bool A.p.neg, .slice xp (dg 10 A.p.m).length yp, .int .i64 A.p.e] 53)) (.bool B.p.neg) (.slice xq (dg 10 B.p.m).length yq) (.int .i64 B.p.e) 53
  clear hd b3
  have z : (w2.alloc (.cells #[.bool A.p.neg, .slice xp (dg 10 A.p.m).length yp, .int .i64 A.p.e] 53)).heap.size = w2.heap.size + 1 := by simp
  rw [z] at X_y F_y m_r_y m_y_r m_x_y m_y_x
  clear z
  obtain ⟨kr0, kr1, kr2⟩ := X_r.out
  have kf_r := F_r.out
  unfold Qf at kf_r
  go_wp2
  refine bodyPost_ret (v := .tuple #[.agg #[.bool false, .slice none 0 0, .int .i64 0], .int .i64 (pe : Nat)]) (by simp [results, Tryz.results15, go_sem, kr0, kr1, kr2]) rfl ?_
  exact resY_err HR.out (Below.box b4 (g := w.heap.size + 1 + 1) (by omega) _ _ _)
set_option maxHeartbeats 16000000 in
set_option maxRecDepth 20000 in
theorem RRem_ok (s1 s2 : Bool) (a1 a2 : Option Addr) (c1 c2 : Nat) (l1 l2 : List Nat) (e1 e2 : Int) (w : World) (h1 : l1.length ≤ 9223372036854775807) (h2 : l2.length ≤ 9223372036854775807) (hlo1 : Lo 4294967296 l1) (hlo2 : Lo 4294967296 l2) (hr1 : Rd w .u32 a1 l1) (hr2 : Rd w .u32 a2 l2) (h0 : okP (normA l1.length s1 (vl 1000000000 l1) e1) (normA l2.length s2 (vl 1000000000 l2) e2))  :
    Calls Tryz.prog 15 #[.agg #[.bool s1, .slice a1 l1.length c1, .int .i64 e1], .agg #[.bool s2, .slice a2 l2.length c2, .int .i64 e2]] w (ResY (remA (normA l1.length s1 (vl 1000000000 l1) e1) (normA l2.length s2 (vl 1000000000 l2) e2)) w) := by
  have hP := fun W hb => Two_any s1 s2 a1 a2 c1 c2 l1 l2 e1 e2 W h1 h2 hlo1 hlo2 (hr1.below' (w' := W) hb (Nat.le_refl _)) (hr2.below' hb (Nat.le_refl _))
  have hiA := normA_in l1.length s1 (vl 1000000000 l1) e1
  have hiB := normA_in l2.length s2 (vl 1000000000 l2) e2
  have hpA := normA_plain l1.length s1 (vl 1000000000 l1) e1
  have hpB := normA_plain l2.length s2 (vl 1000000000 l2) e2
  generalize normA l1.length s1 (vl 1000000000 l1) e1 = A at *
  generalize normA l2.length s2 (vl 1000000000 l2) e2 = B at *
  have hres : remA A B = if okP A B then remV (cutP 0 A.p) (cutP 0 B.p) else ⟨pairE A B, zP⟩ := rfl
  generalize remA A B = R at *
  rw [if_pos h0] at hres
  have hpe : pairE A B = 0 := pairE_ok h0.1 h0.2
  have hC1 := fun x y W r => Rounded_any 0 (by omega) A.p hpA hiA x y W r
  have hC2 := fun x y W r => Rounded_any 0 (by omega) B.p hpB hiB x y W r
  have i1 := cutP_in (way := 0) hiA
  have i2 := cutP_in (way := 0) hiB
  have n1 := cutP_plain (way := 0) hpA
  have n2 := cutP_plain (way := 0) hpB
  have m1 := cutP_whole 0 A.p
  have m2 := cutP_whole 0 B.p
  have v1 : A.p.neg = (cutP 0 A.p).neg ∨ (cutP 0 A.p).m = 0 := by
    by_cases he : 0 ≤ A.p.e
    · rw [whole_cut he]; exact .inl rfl
    · rw [cut_part (by omega)]
      rcases pl_neg (s := A.p.neg) (v := cutV 0 A.p) with h | h
      · exact .inr h
      · exact .inl h.symm
  generalize cutP 0 A.p = P1 at *
  generalize cutP 0 B.p = P2 at *
  have b1' := inR_bounds i1
  have b2' := inR_bounds i2
  unfold ResTw at hP
  rw [hpe] at hP
  have HP := Lib.hid hP; have HC1 := Lib.hid hC1; have HC2 := Lib.hid hC2
  clear hP hC1 hC2 hpe h0 hiA hiB hpA hpB hr1 hr2 hlo1 hlo2 i1 i2

  go_enter Tryz.func15, Tryz.ntmps15
  have b1 := ((((Below.refl w.heap.size w).alloc (Nat.le_refl _) (.cells #[.bool s1, .slice a1 l1.length c1, .int .i64 e1] 24)).alloc (by simp) (.cells #[.bool s2, .slice a2 l2.length c2, .int .i64 e2] 24)).alloc (by simp; omega) (.cells #[.bool false, .slice none 0 0, .int .i64 0] 24))
  have X_a := (Qx.below (Qx.below (Qx.new w (.bool s1) (.slice a1 l1.length c1) (.int .i64 e1) 24) ((Below.refl _ _).alloc (Nat.le_refl _) (.cells #[.bool s2, .slice a2 l2.length c2, .int .i64 e2] 24))) ((Below.refl _ _).alloc (Nat.le_refl _) (.cells #[.bool false, .slice none 0 0, .int .i64 0] 24)))
  have F_a := (Qf.below (Qf.below (Qf.new w (.bool s1) (.slice a1 l1.length c1) (.int .i64 e1) 24) (Qx.lt (Qx.new w (.bool s1) (.slice a1 l1.length c1) (.int .i64 e1) 24)) ((Below.refl _ _).alloc (Nat.le_refl _) (.cells #[.bool s2, .slice a2 l2.length c2, .int .i64 e2] 24))) (Qx.lt (Qx.below (Qx.new w (.bool s1) (.slice a1 l1.length c1) (.int .i64 e1) 24) ((Below.refl _ _).alloc (Nat.le_refl _) (.cells #[.bool s2, .slice a2 l2.length c2, .int .i64 e2] 24)))) ((Below.refl _ _).alloc (Nat.le_refl _) (.cells #[.bool false, .slice none 0 0, .int .i64 0] 24)))
  have X_b := (Qx.below (Qx.new (w.alloc (.cells #[.bool s1, .slice a1 l1.length c1, .int .i64 e1] 24)) (.bool s2) (.slice a2 l2.length c2) (.int .i64 e2) 24) ((Below.refl _ _).alloc (Nat.le_refl _) (.cells #[.bool false, .slice none 0 0, .int .i64 0] 24)))
  have F_b := (Qf.below (Qf.new (w.alloc (.cells #[.bool s1, .slice a1 l1.length c1, .int .i64 e1] 24)) (.bool s2) (.slice a2 l2.length c2) (.int .i64 e2) 24) (Qx.lt (Qx.new (w.alloc (.cells #[.bool s1, .slice a1 l1.length c1, .int .i64 e1] 24)) (.bool s2) (.slice a2 l2.length c2) (.int .i64 e2) 24)) ((Below.refl _ _).alloc (Nat.le_refl _) (.cells #[.bool false, .slice none 0 0, .int .i64 0] 24)))
  have z : (w.alloc (.cells #[.bool s1, .slice a1 l1.length c1, .int .i64 e1] 24)).heap.size = w.heap.size + 1 := by simp
  rw [z] at X_b F_b
  clear z
  have X_r := (Qx.new ((w.alloc (.cells #[.bool s1, .slice a1 l1.length c1, .int .i64 e1] 24)).alloc (.cells #[.bool s2, .slice a2 l2.length c2, .int .i64 e2] 24)) (.bool false) (.slice none 0 0) (.int .i64 0) 24)
  have F_r := (Qf.new ((w.alloc (.cells #[.bool s1, .slice a1 l1.length c1, .int .i64 e1] 24)).alloc (.cells #[.bool s2, .slice a2 l2.length c2, .int .i64 e2] 24)) (.bool false) (.slice none 0 0) (.int .i64 0) 24)
  have z : ((w.alloc (.cells #[.bool s1, .slice a1 l1.length c1, .int .i64 e1] 24)).alloc (.cells #[.bool s2, .slice a2 l2.length c2, .int .i64 e2] 24)).heap.size = w.heap.size + 1 + 1 := by simp
  rw [z] at X_r F_r
  clear z
  obtain ⟨ka0, ka1, ka2⟩ := X_a.out
  obtain ⟨kb0, kb1, kb2⟩ := X_b.out
  go_wp2_with fail
  clear ka0 ka1 ka2 kb0 kb1 kb2
  refine (HP.out _ b1).mono ?_
  rintro r w2 ⟨xp, yp, xq, yq, rfl, ho1, ho2, hc⟩
  have b2 := b1.trans (hc.mono b1.size)
  replace F_a := Qf.below F_a (Qx.lt X_a) hc
  replace X_a := Qx.below X_a hc
  replace F_b := Qf.below F_b (Qx.lt X_b) hc
  replace X_b := Qx.below X_b hc
  replace F_r := Qf.below F_r (Qx.lt X_r) hc
  replace X_r := Qx.below X_r hc
  clear hc b1
  have R_p := Lib.hid ho1
  have R_q := Lib.hid ho2
  clear ho1 ho2
  clear X_a F_a
  clear X_b F_b
  have z_x := b2.size
  have hd := (Below.refl w2.heap.size w2).alloc (Nat.le_refl _) (.cells #[.bool A.p.neg, .slice xp (dg 10 A.p.m).length yp, .int .i64 A.p.e] 53)
  have b3 := b2.trans (hd.mono b2.size)
  have l_r_x := Qx.lt X_r
  have m_r_x := not_eq_lt l_r_x
  have m_x_r := not_eq_gt l_r_x
  clear l_r_x
  replace F_r := Qf.below F_r (Qx.lt X_r) hd
  replace X_r := Qx.below X_r hd
  replace R_p := Lib.hid (R_p.out.below hd)
  replace R_q := Lib.hid (R_q.out.below hd)
  have X_x := Qx.new w2 (.bool A.p.neg) (.slice xp (dg 10 A.p.m).length yp) (.int .i64 A.p.e) 53
  have F_x := Qf.new w2 (.bool A.p.neg) (.slice xp (dg 10 A.p.m).length yp) (.int .i64 A.p.e) 53
  clear hd b2
  have z_y := b3.size
  have hd := (Below.refl (w2.alloc (.cells #[.bool A.p.neg, .slice xp (dg 10 A.p.m).length yp, .int .i64 A.p.e] 53)).heap.size (w2.alloc (.cells #[.bool A.p.neg, .slice xp (dg 10 A.p.m).length yp, .int .i64 A.p.e] 53))).alloc (Nat.le_refl _) (.cells #[.bool B.p.neg, .slice xq (dg 10 B.p.m).length yq, .int .i64 B.p.e] 53)
  have b4 := b3.trans (hd.mono b3.size)
  have l_r_y := Qx.lt X_r
  have m_r_y := not_eq_lt l_r_y
  have m_y_r := not_eq_gt l_r_y
  clear l_r_y
  have l_x_y := Qx.lt X_x
  have m_x_y := not_eq_lt l_x_y
  have m_y_x := not_eq_gt l_x_y
  clear l_x_y
  replace F_r := Qf.below F_r (Qx.lt X_r) hd
  replace X_r := Qx.below X_r hd
  replace F_x := Qf.below F_x (Qx.lt X_x) hd
  replace X_x := Qx.below X_x hd
  replace R_p := Lib.hid (R_p.out.below hd)
  replace R_q := Lib.hid (R_q.out.below hd)
  have X_y := Qx.new (w2.alloc (.cells #[.bool A.p.neg, .slice xp (dg 10 A.p.m).length yp, .int .i64 A.p.e] 53)) (.bool B.p.neg) (.slice xq (dg 10 B.p.m).length yq) (.int .i64 B.p.e) 53
  have F_y := Qf.new (w2.alloc (.cells #[.bool A.p.neg, .slice xp (dg 10 A.p.m).length yp, .int .i64 A.p.e] 53)) (.bool B.p.neg) (.slice xq (dg 10 B.p.m).length yq) (.int .i64 B.p.e) 53
  clear hd b3
  have z : (w2.alloc (.cells #[.bool A.p.neg, .slice xp (dg 10 A.p.m).length yp, .int .i64 A.p.e] 53)).heap.size = w2.heap.size + 1 := by simp
  rw [z] at X_y F_y m_r_y m_y_r m_x_y m_y_x
  clear z
  obtain ⟨kx0, kx1, kx2⟩ := X_x.out
  go_wp2_with fail
  clear kx0 kx1 kx2
  refine (HC1.out _ _ _ R_p.out).mono ?_
  rintro r w5 ⟨xl, yl, rfl, ho, hc⟩
  have b5 := b4.trans (hc.mono b4.size)
  replace F_r := Qf.below F_r (Qx.lt X_r) hc
  replace X_r := Qx.below X_r hc
  replace F_x := Qf.below F_x (Qx.lt X_x) hc
  replace X_x := Qx.below X_x hc
  replace F_y := Qf.below F_y (Qx.lt X_y) hc
  replace X_y := Qx.below X_y hc
  replace R_p := Lib.hid (R_p.out.below hc)
  replace R_q := Lib.hid (R_q.out.below hc)
  clear hc b4
  have R_l := Lib.hid ho
  clear ho
  have z_l := b5.size
  have hd := (Below.refl w5.heap.size w5).alloc (Nat.le_refl _) (.cells #[.bool P1.neg, .slice xl (dg 10 P1.m).length yl, .int .i64 P1.e] 53)
  have b6 := b5.trans (hd.mono b5.size)
  have l_r_l := Qx.lt X_r
  have m_r_l := not_eq_lt l_r_l
  have m_l_r := not_eq_gt l_r_l
  clear l_r_l
  have l_x_l := Qx.lt X_x
  have m_x_l := not_eq_lt l_x_l
  have m_l_x := not_eq_gt l_x_l
  clear l_x_l
  have l_y_l := Qx.lt X_y
  have m_y_l := not_eq_lt l_y_l
  have m_l_y := not_eq_gt l_y_l
  clear l_y_l
  replace F_r := Qf.below F_r (Qx.lt X_r) hd
  replace X_r := Qx.below X_r hd
  replace F_x := Qf.below F_x (Qx.lt X_x) hd
  replace X_x := Qx.below X_x hd
  replace F_y := Qf.below F_y (Qx.lt X_y) hd
  replace X_y := Qx.below X_y hd
  replace R_p := Lib.hid (R_p.out.below hd)
  replace R_q := Lib.hid (R_q.out.below hd)
  replace R_l := Lib.hid (R_l.out.below hd)
  have X_l := Qx.new w5 (.bool P1.neg) (.slice xl (dg 10 P1.m).length yl) (.int .i64 P1.e) 53
  have F_l := Qf.new w5 (.bool P1.neg) (.slice xl (dg 10 P1.m).length yl) (.int .i64 P1.e) 53
  clear hd b5
  obtain ⟨ky0, ky1, ky2⟩ := X_y.out
  go_wp2_with fail
  clear ky0 ky1 ky2
  refine (HC2.out _ _ _ R_q.out).mono ?_
  rintro r w7 ⟨xm, ym, rfl, ho, hc⟩
  have b7 := b6.trans (hc.mono b6.size)
  replace F_r := Qf.below F_r (Qx.lt X_r) hc
  replace X_r := Qx.below X_r hc
  replace F_x := Qf.below F_x (Qx.lt X_x) hc
  replace X_x := Qx.below X_x hc
  replace F_y := Qf.below F_y (Qx.lt X_y) hc
  replace X_y := Qx.below X_y hc
  replace F_l := Qf.below F_l (Qx.lt X_l) hc
  replace X_l := Qx.below X_l hc
  replace R_p := Lib.hid (R_p.out.below hc)
  replace R_q := Lib.hid (R_q.out.below hc)
  replace R_l := Lib.hid (R_l.out.below hc)
  clear hc b6
  have R_m := Lib.hid ho
  clear ho
  clear X_y F_y
  clear R_q
  clear R_p
  have z_m := b7.size
  have hd := (Below.refl w7.heap.size w7).alloc (Nat.le_refl _) (.cells #[.bool P2.neg, .slice xm (dg 10 P2.m).length ym, .int .i64 P2.e] 53)
  have b8 := b7.trans (hd.mono b7.size)
  have l_r_m := Qx.lt X_r
  have m_r_m := not_eq_lt l_r_m
  have m_m_r := not_eq_gt l_r_m
  clear l_r_m
  have l_x_m := Qx.lt X_x
  have m_x_m := not_eq_lt l_x_m
  have m_m_x := not_eq_gt l_x_m
  clear l_x_m
  have l_l_m := Qx.lt X_l
  have m_l_m := not_eq_lt l_l_m
  have m_m_l := not_eq_gt l_l_m
  clear l_l_m
  replace F_r := Qf.below F_r (Qx.lt X_r) hd
  replace X_r := Qx.below X_r hd
  replace F_x := Qf.below F_x (Qx.lt X_x) hd
  replace X_x := Qx.below X_x hd
  replace F_l := Qf.below F_l (Qx.lt X_l) hd
  replace X_l := Qx.below X_l hd
  replace R_l := Lib.hid (R_l.out.below hd)
  replace R_m := Lib.hid (R_m.out.below hd)
  have X_m := Qx.new w7 (.bool P2.neg) (.slice xm (dg 10 P2.m).length ym) (.int .i64 P2.e) 53
  have F_m := Qf.new w7 (.bool P2.neg) (.slice xm (dg 10 P2.m).length ym) (.int .i64 P2.e) 53
  clear hd b7
  have hh1 := fun W => Head_any P1.neg xl (dg 10 P1.m).length yl P1.e W (by have h := b1'.1; unfold dl at h; omega) (by omega) (by omega)
  have hh2 := fun W => Head_any P2.neg xm (dg 10 P2.m).length ym P2.e W (by have h := b2'.1; unfold dl at h; omega) (by omega) (by omega)
  have hH1 : P1.e + ((dg 10 P1.m).length : Nat) - 1 = hd P1 := rfl
  have hH2 : P2.e + ((dg 10 P2.m).length : Nat) - 1 = hd P2 := rfl
  rw [hH1] at hh1
  rw [hH2] at hh2
  obtain ⟨H1, hH1e⟩ : ∃ H, H = hd P1 := ⟨_, rfl⟩
  obtain ⟨H2, hH2e⟩ : ∃ H, H = hd P2 := ⟨_, rfl⟩
  rw [← hH1e] at hh1
  rw [← hH2e] at hh2
  have HH1 := Lib.hid hh1; have HH2 := Lib.hid hh2; have HE1 := Lib.hid hH1e; have HE2 := Lib.hid hH2e; have HR := Lib.hid hres; have HN1 := Lib.hid n1; have HN2 := Lib.hid n2; have HM1 := Lib.hid m1; have HM2 := Lib.hid m2; have HV1 := Lib.hid v1; have HB1 := Lib.hid b1'; have HB2 := Lib.hid b2'
  clear hh1 hh2 hH1 hH2 hH1e hH2e hres n1 n2 m1 m2 v1 b1' b2'
  by_cases z1 : P1.m = 0
  · have t1 : ¬ (0 : Int) < ((dg 10 P1.m).length : Int) := by rw [z1, dg_zero]; simp
    have HZ1 := Lib.hid (hd_zero HN1.out z1)
    clear z1
    by_cases z2 : P2.m = 0
    · have t2 : ¬ (0 : Int) < ((dg 10 P2.m).length : Int) := by rw [z2, dg_zero]; simp
      have t3 : (((dg 10 P2.m).length : Int) == 0) = true := by rw [z2, dg_zero]; rfl
      have hR := HR.out
      unfold remV at hR
      rw [if_neg (by have h2 := hd_zero HN2.out z2; have h1 := HZ1.out; omega), if_pos z2] at hR
      have HR2 := Lib.hid hR
      clear hR HR z2
      generalize (dg 10 P2.m).length = nm at *
      generalize (dg 10 P1.m).length = nl at *
      obtain ⟨kl0, kl1, kl2⟩ := X_l.out
      obtain ⟨km0, km1, km2⟩ := X_m.out
      obtain ⟨kr0, kr1, kr2⟩ := X_r.out
      have kf_r := F_r.out
      unfold Qf at kf_r
      go_wp2
      refine bodyPost_ret (v := .tuple #[.agg #[.bool false, .slice none 0 0, .int .i64 0], .int .i64 4]) (by simp [results, Tryz.results15, go_sem, kr0, kr1, kr2]) rfl ?_
      exact resY_err HR2.out (Below.box b8 (g := w.heap.size + 1 + 1) (by omega) _ _ _)
    · have t2 : (0 : Int) < ((dg 10 P2.m).length : Int) := by have k := dl_pos (show 0 < P2.m by omega); unfold dl at k; omega
      have t3 : (((dg 10 P2.m).length : Int) == 0) = false := by rw [beq_eq_false_iff_ne]; have k := dl_pos (show 0 < P2.m by omega); unfold dl at k; omega
      obtain ⟨kl0, kl1, kl2⟩ := X_l.out
      obtain ⟨km0, km1, km2⟩ := X_m.out
      go_wp2_with fail
      clear kl0 kl1 kl2 km0 km1 km2
      refine (HH2.out _).mono ?_
      rintro r w9 ⟨rfl, hc⟩
      have b9 := b8.trans (hc.mono b8.size)
      replace F_r := Qf.below F_r (Qx.lt X_r) hc
      replace X_r := Qx.below X_r hc
      replace F_x := Qf.below F_x (Qx.lt X_x) hc
      replace X_x := Qx.below X_x hc
      replace F_l := Qf.below F_l (Qx.lt X_l) hc
      replace X_l := Qx.below X_l hc
      replace F_m := Qf.below F_m (Qx.lt X_m) hc
      replace X_m := Qx.below X_m hc
      replace R_l := Lib.hid (R_l.out.below hc)
      replace R_m := Lib.hid (R_m.out.below hc)
      clear hc b8
      by_cases h2 : 400 ≤ H2
      · have hR := HR.out
        unfold remV at hR
        rw [if_pos (.inr (by rw [← HE2.out]; exact h2))] at hR
        have HR2 := Lib.hid hR
        clear hR HR
        obtain ⟨kl0, kl1, kl2⟩ := X_l.out
        obtain ⟨km0, km1, km2⟩ := X_m.out
        obtain ⟨kr0, kr1, kr2⟩ := X_r.out
        have kf_r := F_r.out
        unfold Qf at kf_r
        go_wp2
        refine bodyPost_ret (v := .tuple #[.agg #[.bool false, .slice none 0 0, .int .i64 0], .int .i64 3]) (by simp [results, Tryz.results15, go_sem, kr0, kr1, kr2]) rfl ?_
        exact resY_err HR2.out (Below.box b9 (g := w.heap.size + 1 + 1) (by omega) _ _ _)
      · have hR := HR.out
        unfold remV at hR
        rw [if_neg (by rw [← HE2.out]; have h1 := HZ1.out; omega), if_neg z2] at hR
        have g1 : hd P1 < 400 := by have h1 := HZ1.out; omega
        have hf1 := whV_few HN1.out g1 HM1.out
        have hf2 := whV_few HN2.out (by rw [← HE2.out]; omega) HM2.out
        have b1' := HB1.out
        have b2' := HB2.out
        have hS1 := fun W r => RShift_rd P1.m xl yl (N := P1.e) P1.e.toNat (by have := HM1.out; omega) W (by have h := b1'.1; unfold dl at h; omega) (by omega) r
        have hS2 := fun W r => RShift_rd P2.m xm ym (N := P2.e) P2.e.toNat (by have := HM2.out; omega) W (by have h := b2'.1; unfold dl at h; omega) (by omega) r
        rw [show P1.m * 10 ^ P1.e.toNat = whV P1 from rfl] at hS1
        rw [show P2.m * 10 ^ P2.e.toNat = whV P2 from rfl] at hS2
        have hpos : 0 < whV P2 := Nat.pos_of_ne_zero fun h => z2 (whV_zero.1 h)
        have hDv := fun x y b d W r1 r2 => div10 (whV P1) (whV P2) x b y d W (by have h := hf1.2; unfold dl at h; omega) (by have h := hf2.2; unfold dl at h; omega) hpos r1 r2
        have hlt : dl (whV P1 % whV P2) ≤ 400 := Nat.le_trans (dl_mono (Nat.le_of_lt (Nat.mod_lt _ hpos))) hf2.2
        have hnn : pl A.p.neg (whV P1 % whV P2) 0 = pl P1.neg (whV P1 % whV P2) 0 := by
          rcases HV1.out with h | h
          · rw [h]
          · rw [whV_zero.2 h, Nat.zero_mod]; rfl
        have hMk := fun x y W r => Make_any A.p.neg x y (whV P1 % whV P2) 0 W (by have h := hlt; unfold dl at h; omega) (by omega) (by omega) r
        rw [hnn] at hMk
        have hin : inR (pl P1.neg (whV P1 % whV P2) 0) = true := whole_in hlt
        have hTo := fun x y W r => ToD_any (pl P1.neg (whV P1 % whV P2) 0) x y W (by have h := (inR_bounds hin).1; unfold dl at h; omega) r
        generalize pl P1.neg (whV P1 % whV P2) 0 = RP at *
        generalize whV P1 = v1 at *
        generalize whV P2 = v2 at *
        unfold ResDv at hDv
        generalize v1 % v2 = v3 at *
        generalize v1 / v2 = v4 at *
        have hTo := fun x y W r => (hTo x y W r).mono fun _ _ h => h.r
        have HS1 := Lib.hid (fun W (hb : Below w9.heap.size w9 W) => hS1 W (R_l.out.below hb)); have HS2 := Lib.hid (fun W (hb : Below w9.heap.size w9 W) => hS2 W (R_m.out.below hb)); have HDv := Lib.hid hDv; have HMk := Lib.hid hMk; have HTo := Lib.hid hTo
        have HR2 := Lib.hid hR
        clear hS1 hS2 hDv hMk hTo hR HR hf1 hf2 hpos hlt hnn hin b1' b2' z2 g1 HH1 HH2 HC1 HC2 HP
        obtain ⟨kl0, kl1, kl2⟩ := X_l.out
        obtain ⟨km0, km1, km2⟩ := X_m.out
        go_wp2_with fail
        go_region_held3 (fun w' => w'.cell? ⟨w5.heap.size, 1, none⟩ = some (.slice xl (dg 10 P1.m).length yl) ∧ w'.cell? ⟨w5.heap.size, 2, none⟩ = some (.int .i64 P1.e) ∧ w'.cell? ⟨w7.heap.size, 1, none⟩ = some (.slice xm (dg 10 P2.m).length ym) ∧ w'.cell? ⟨w7.heap.size, 2, none⟩ = some (.int .i64 P2.e)) (first | with_reducible exact ⟨g1, g2, g4, g5⟩ | with_reducible exact ⟨j1, j2, j4, j5⟩ | with_reducible exact ⟨i1, i2, i4, i5⟩ | with_reducible exact ⟨kl1, kl2, km1, km2⟩ | exact ⟨kl1, kl2, km1, km2⟩ | go_keep)
          (first
            | (go_at_call 47; have chk := z6; refine (HDv.out _ _ _ _ _ (ho5.below hb6) ho6).mono ?_; rintro e wu ⟨xa, ya, xb, yb, rfl, hoa, hob, hb7⟩; have z7 := z6.trans (hb7.mono z6.size); have g1 := cellB j1 hb7; have g2 := cellB j2 hb7; have g4 := cellB j4 hb7; have g5 := cellB j5 hb7)
            | (go_at_call 48; have chk := z5; refine (HS2.out _ z5).mono ?_; rintro e wt2 ⟨x8, y8, rfl, ho6, hb6⟩; have z6 := z5.trans (hb6.mono z5.size); have j1 := cellB i1 hb6; have j2 := cellB i2 hb6; have j4 := cellB i4 hb6; have j5 := cellB i5 hb6)
            | (go_at_call 48; refine (HS1.out _ (Below.refl w9.heap.size w9).drew).mono ?_; rintro e ws2 ⟨x7, y7, rfl, ho5, hb5⟩; have z5 := (Below.refl w9.heap.size w9).drew.trans hb5; have i1 := cellB kl1 z5; have i2 := cellB kl2 z5; have i4 := cellB km1 z5; have i5 := cellB km2 z5))
        clear g1 g2 g4 g5 j1 j2 j4 j5 i1 i2 i4 i5 kl0 kl1 kl2 km0 km1 km2
        replace F_r := Qf.below F_r (Qx.lt X_r) z7
        replace X_r := Qx.below X_r z7
        replace F_x := Qf.below F_x (Qx.lt X_x) z7
        replace X_x := Qx.below X_x z7
        have b99 := b9.trans (z7.mono b9.size)
        clear X_l F_l X_m F_m R_l R_m
        have R_b := Lib.hid hob
        clear hb5 hb6 hb7 z5 z6 z7 ho5 ho6 hoa hob HDv HS1 HS2
        obtain ⟨kx0, kx1, kx2⟩ := X_x.out
        go_wp2_with fail
        clear kx0 kx1 kx2
        refine (HMk.out _ _ _ R_b.out).mono ?_
        rintro r w100 ⟨xk, yk, rfl, ho, hc⟩
        have b100 := b99.trans (hc.mono b99.size)
        replace F_r := Qf.below F_r (Qx.lt X_r) hc
        replace X_r := Qx.below X_r hc
        replace F_x := Qf.below F_x (Qx.lt X_x) hc
        replace X_x := Qx.below X_x hc
        replace R_b := Lib.hid (R_b.out.below hc)
        clear hc b99
        have R_k := Lib.hid ho
        clear ho
        go_wp2_with fail
        refine (HTo.out _ _ _ R_k.out).mono ?_
        rintro r w101 ⟨xn, yn, rfl, ho, hc⟩
        have b101 := b100.trans (hc.mono b100.size)
        replace F_r := Qf.below F_r (Qx.lt X_r) hc
        replace X_r := Qx.below X_r hc
        replace F_x := Qf.below F_x (Qx.lt X_x) hc
        replace X_x := Qx.below X_x hc
        replace R_b := Lib.hid (R_b.out.below hc)
        replace R_k := Lib.hid (R_k.out.below hc)
        clear hc b100
        have R_n := Lib.hid ho
        clear ho
        have hR := HR2.out
        subst hR
        obtain ⟨kr0, kr1, kr2⟩ := X_r.out
        have kf_r := F_r.out
        unfold Qf at kf_r
        go_wp2
        refine bodyPost_ret (v := .tuple #[.agg #[.bool RP.neg, .slice xn (dg 1000000000 RP.m).length yn, .int .i64 RP.e], .int .i64 0]) (by simp [results, Tryz.results15, go_sem, kr0, kr1, kr2]) rfl ?_
        exact ⟨xn, yn, rfl, Rd.box R_n.out X_r (by decide) _ _ _, (Below.box b101 (g := w.heap.size + 1 + 1) (by omega) _ _ _)⟩
  · have t1 : (0 : Int) < ((dg 10 P1.m).length : Int) := by have k := dl_pos (show 0 < P1.m by omega); unfold dl at k; omega
    obtain ⟨kl0, kl1, kl2⟩ := X_l.out
    go_wp2_with fail
    clear kl0 kl1 kl2
    refine (HH1.out _).mono ?_
    rintro r w9 ⟨rfl, hc⟩
    have b9 := b8.trans (hc.mono b8.size)
    replace F_r := Qf.below F_r (Qx.lt X_r) hc
    replace X_r := Qx.below X_r hc
    replace F_x := Qf.below F_x (Qx.lt X_x) hc
    replace X_x := Qx.below X_x hc
    replace F_l := Qf.below F_l (Qx.lt X_l) hc
    replace X_l := Qx.below X_l hc
    replace F_m := Qf.below F_m (Qx.lt X_m) hc
    replace X_m := Qx.below X_m hc
    replace R_l := Lib.hid (R_l.out.below hc)
    replace R_m := Lib.hid (R_m.out.below hc)
    clear hc b8
    by_cases h1 : 400 ≤ H1
    · have hR := HR.out
      unfold remV at hR
      rw [if_pos (.inl (by rw [← HE1.out]; exact h1))] at hR
      have HR2 := Lib.hid hR
      clear hR HR
      obtain ⟨kl0, kl1, kl2⟩ := X_l.out
      obtain ⟨kr0, kr1, kr2⟩ := X_r.out
      have kf_r := F_r.out
      unfold Qf at kf_r
      go_wp2
      refine bodyPost_ret (v := .tuple #[.agg #[.bool false, .slice none 0 0, .int .i64 0], .int .i64 3]) (by simp [results, Tryz.results15, go_sem, kr0, kr1, kr2]) rfl ?_
      exact resY_err HR2.out (Below.box b9 (g := w.heap.size + 1 + 1) (by omega) _ _ _)
    · by_cases z2 : P2.m = 0
      · have t2 : ¬ (0 : Int) < ((dg 10 P2.m).length : Int) := by rw [z2, dg_zero]; simp
        have t3 : (((dg 10 P2.m).length : Int) == 0) = true := by rw [z2, dg_zero]; rfl
        have hR := HR.out
        unfold remV at hR
        rw [if_neg (by have h2 := hd_zero HN2.out z2; have h1e := HE1.out; omega), if_pos z2] at hR
        have HR2 := Lib.hid hR
        clear hR HR z2
        generalize (dg 10 P2.m).length = nm at *
        generalize (dg 10 P1.m).length = nl at *
        obtain ⟨kl0, kl1, kl2⟩ := X_l.out
        obtain ⟨km0, km1, km2⟩ := X_m.out
        obtain ⟨kr0, kr1, kr2⟩ := X_r.out
        have kf_r := F_r.out
        unfold Qf at kf_r
        go_wp2
        refine bodyPost_ret (v := .tuple #[.agg #[.bool false, .slice none 0 0, .int .i64 0], .int .i64 4]) (by simp [results, Tryz.results15, go_sem, kr0, kr1, kr2]) rfl ?_
        exact resY_err HR2.out (Below.box b9 (g := w.heap.size + 1 + 1) (by omega) _ _ _)
      · have t2 : (0 : Int) < ((dg 10 P2.m).length : Int) := by have k := dl_pos (show 0 < P2.m by omega); unfold dl at k; omega
        have t3 : (((dg 10 P2.m).length : Int) == 0) = false := by rw [beq_eq_false_iff_ne]; have k := dl_pos (show 0 < P2.m by omega); unfold dl at k; omega
        obtain ⟨kl0, kl1, kl2⟩ := X_l.out
        obtain ⟨km0, km1, km2⟩ := X_m.out
        go_wp2_with fail
        clear kl0 kl1 kl2 km0 km1 km2
        refine (HH2.out _).mono ?_
        rintro r w10 ⟨rfl, hc⟩
        have b10 := b9.trans (hc.mono b9.size)
        replace F_r := Qf.below F_r (Qx.lt X_r) hc
        replace X_r := Qx.below X_r hc
        replace F_x := Qf.below F_x (Qx.lt X_x) hc
        replace X_x := Qx.below X_x hc
        replace F_l := Qf.below F_l (Qx.lt X_l) hc
        replace X_l := Qx.below X_l hc
        replace F_m := Qf.below F_m (Qx.lt X_m) hc
        replace X_m := Qx.below X_m hc
        replace R_l := Lib.hid (R_l.out.below hc)
        replace R_m := Lib.hid (R_m.out.below hc)
        clear hc b9
        by_cases h2 : 400 ≤ H2
        · have hR := HR.out
          unfold remV at hR
          rw [if_pos (.inr (by rw [← HE2.out]; exact h2))] at hR
          have HR2 := Lib.hid hR
          clear hR HR
          obtain ⟨kl0, kl1, kl2⟩ := X_l.out
          obtain ⟨km0, km1, km2⟩ := X_m.out
          obtain ⟨kr0, kr1, kr2⟩ := X_r.out
          have kf_r := F_r.out
          unfold Qf at kf_r
          go_wp2
          refine bodyPost_ret (v := .tuple #[.agg #[.bool false, .slice none 0 0, .int .i64 0], .int .i64 3]) (by simp [results, Tryz.results15, go_sem, kr0, kr1, kr2]) rfl ?_
          exact resY_err HR2.out (Below.box b10 (g := w.heap.size + 1 + 1) (by omega) _ _ _)
        · have hR := HR.out
          unfold remV at hR
          rw [if_neg (by rw [← HE2.out]; have h1e := HE1.out; omega), if_neg z2] at hR
          have g1 : hd P1 < 400 := by have h1e := HE1.out; omega
          have hf1 := whV_few HN1.out g1 HM1.out
          have hf2 := whV_few HN2.out (by rw [← HE2.out]; omega) HM2.out
          have b1' := HB1.out
          have b2' := HB2.out
          have hS1 := fun W r => RShift_rd P1.m xl yl (N := P1.e) P1.e.toNat (by have := HM1.out; omega) W (by have h := b1'.1; unfold dl at h; omega) (by omega) r
          have hS2 := fun W r => RShift_rd P2.m xm ym (N := P2.e) P2.e.toNat (by have := HM2.out; omega) W (by have h := b2'.1; unfold dl at h; omega) (by omega) r
          rw [show P1.m * 10 ^ P1.e.toNat = whV P1 from rfl] at hS1
          rw [show P2.m * 10 ^ P2.e.toNat = whV P2 from rfl] at hS2
          have hpos : 0 < whV P2 := Nat.pos_of_ne_zero fun h => z2 (whV_zero.1 h)
          have hDv := fun x y b d W r1 r2 => div10 (whV P1) (whV P2) x b y d W (by have h := hf1.2; unfold dl at h; omega) (by have h := hf2.2; unfold dl at h; omega) hpos r1 r2
          have hlt : dl (whV P1 % whV P2) ≤ 400 := Nat.le_trans (dl_mono (Nat.le_of_lt (Nat.mod_lt _ hpos))) hf2.2
          have hnn : pl A.p.neg (whV P1 % whV P2) 0 = pl P1.neg (whV P1 % whV P2) 0 := by
            rcases HV1.out with h | h
            · rw [h]
            · rw [whV_zero.2 h, Nat.zero_mod]; rfl
          have hMk := fun x y W r => Make_any A.p.neg x y (whV P1 % whV P2) 0 W (by have h := hlt; unfold dl at h; omega) (by omega) (by omega) r
          rw [hnn] at hMk
          have hin : inR (pl P1.neg (whV P1 % whV P2) 0) = true := whole_in hlt
          have hTo := fun x y W r => ToD_any (pl P1.neg (whV P1 % whV P2) 0) x y W (by have h := (inR_bounds hin).1; unfold dl at h; omega) r
          generalize pl P1.neg (whV P1 % whV P2) 0 = RP at *
          generalize whV P1 = v1 at *
          generalize whV P2 = v2 at *
          unfold ResDv at hDv
          generalize v1 % v2 = v3 at *
          generalize v1 / v2 = v4 at *
          have hTo := fun x y W r => (hTo x y W r).mono fun _ _ h => h.r
          have HS1 := Lib.hid (fun W (hb : Below w10.heap.size w10 W) => hS1 W (R_l.out.below hb)); have HS2 := Lib.hid (fun W (hb : Below w10.heap.size w10 W) => hS2 W (R_m.out.below hb)); have HDv := Lib.hid hDv; have HMk := Lib.hid hMk; have HTo := Lib.hid hTo
          have HR2 := Lib.hid hR
          clear hS1 hS2 hDv hMk hTo hR HR hf1 hf2 hpos hlt hnn hin b1' b2' z2 g1 HH1 HH2 HC1 HC2 HP
          obtain ⟨kl0, kl1, kl2⟩ := X_l.out
          obtain ⟨km0, km1, km2⟩ := X_m.out
          go_wp2_with fail
          go_region_held3 (fun w' => w'.cell? ⟨w5.heap.size, 1, none⟩ = some (.slice xl (dg 10 P1.m).length yl) ∧ w'.cell? ⟨w5.heap.size, 2, none⟩ = some (.int .i64 P1.e) ∧ w'.cell? ⟨w7.heap.size, 1, none⟩ = some (.slice xm (dg 10 P2.m).length ym) ∧ w'.cell? ⟨w7.heap.size, 2, none⟩ = some (.int .i64 P2.e)) (first | with_reducible exact ⟨g1, g2, g4, g5⟩ | with_reducible exact ⟨j1, j2, j4, j5⟩ | with_reducible exact ⟨i1, i2, i4, i5⟩ | with_reducible exact ⟨kl1, kl2, km1, km2⟩ | exact ⟨kl1, kl2, km1, km2⟩ | go_keep)
            (first
              | (go_at_call 47; have chk := z6; refine (HDv.out _ _ _ _ _ (ho5.below hb6) ho6).mono ?_; rintro e wu ⟨xa, ya, xb, yb, rfl, hoa, hob, hb7⟩; have z7 := z6.trans (hb7.mono z6.size); have g1 := cellB j1 hb7; have g2 := cellB j2 hb7; have g4 := cellB j4 hb7; have g5 := cellB j5 hb7)
              | (go_at_call 48; have chk := z5; refine (HS2.out _ z5).mono ?_; rintro e wt2 ⟨x8, y8, rfl, ho6, hb6⟩; have z6 := z5.trans (hb6.mono z5.size); have j1 := cellB i1 hb6; have j2 := cellB i2 hb6; have j4 := cellB i4 hb6; have j5 := cellB i5 hb6)
              | (go_at_call 48; refine (HS1.out _ (Below.refl w10.heap.size w10).drew).mono ?_; rintro e ws2 ⟨x7, y7, rfl, ho5, hb5⟩; have z5 := (Below.refl w10.heap.size w10).drew.trans hb5; have i1 := cellB kl1 z5; have i2 := cellB kl2 z5; have i4 := cellB km1 z5; have i5 := cellB km2 z5))
          clear g1 g2 g4 g5 j1 j2 j4 j5 i1 i2 i4 i5 kl0 kl1 kl2 km0 km1 km2
          replace F_r := Qf.below F_r (Qx.lt X_r) z7
          replace X_r := Qx.below X_r z7
          replace F_x := Qf.below F_x (Qx.lt X_x) z7
          replace X_x := Qx.below X_x z7
          have b99 := b10.trans (z7.mono b10.size)
          clear X_l F_l X_m F_m R_l R_m
          have R_b := Lib.hid hob
          clear hb5 hb6 hb7 z5 z6 z7 ho5 ho6 hoa hob HDv HS1 HS2
          obtain ⟨kx0, kx1, kx2⟩ := X_x.out
          go_wp2_with fail
          clear kx0 kx1 kx2
          refine (HMk.out _ _ _ R_b.out).mono ?_
          rintro r w100 ⟨xk, yk, rfl, ho, hc⟩
          have b100 := b99.trans (hc.mono b99.size)
          replace F_r := Qf.below F_r (Qx.lt X_r) hc
          replace X_r := Qx.below X_r hc
          replace F_x := Qf.below F_x (Qx.lt X_x) hc
          replace X_x := Qx.below X_x hc
          replace R_b := Lib.hid (R_b.out.below hc)
          clear hc b99
          have R_k := Lib.hid ho
          clear ho
          go_wp2_with fail
          refine (HTo.out _ _ _ R_k.out).mono ?_
          rintro r w101 ⟨xn, yn, rfl, ho, hc⟩
          have b101 := b100.trans (hc.mono b100.size)
          replace F_r := Qf.below F_r (Qx.lt X_r) hc
          replace X_r := Qx.below X_r hc
          replace F_x := Qf.below F_x (Qx.lt X_x) hc
          replace X_x := Qx.below X_x hc
          replace R_b := Lib.hid (R_b.out.below hc)
          replace R_k := Lib.hid (R_k.out.below hc)
          clear hc b100
          have R_n := Lib.hid ho
          clear ho
          have hR := HR2.out
          subst hR
          obtain ⟨kr0, kr1, kr2⟩ := X_r.out
          have kf_r := F_r.out
          unfold Qf at kf_r
          go_wp2
          refine bodyPost_ret (v := .tuple #[.agg #[.bool RP.neg, .slice xn (dg 1000000000 RP.m).length yn, .int .i64 RP.e], .int .i64 0]) (by simp [results, Tryz.results15, go_sem, kr0, kr1, kr2]) rfl ?_
          exact ⟨xn, yn, rfl, Rd.box R_n.out X_r (by decide) _ _ _, (Below.box b101 (g := w.heap.size + 1 + 1) (by omega) _ _ _)⟩
theorem RRem_any (s1 s2 : Bool) (a1 a2 : Option Addr) (c1 c2 : Nat) (l1 l2 : List Nat) (e1 e2 : Int) (w : World) (h1 : l1.length ≤ 9223372036854775807) (h2 : l2.length ≤ 9223372036854775807) (hlo1 : Lo 4294967296 l1) (hlo2 : Lo 4294967296 l2) (hr1 : Rd w .u32 a1 l1) (hr2 : Rd w .u32 a2 l2) :
    Calls Tryz.prog 15 #[.agg #[.bool s1, .slice a1 l1.length c1, .int .i64 e1], .agg #[.bool s2, .slice a2 l2.length c2, .int .i64 e2]] w (ResY (remA (normA l1.length s1 (vl 1000000000 l1) e1) (normA l2.length s2 (vl 1000000000 l2) e2)) w) := by
  by_cases h0 : okP (normA l1.length s1 (vl 1000000000 l1) e1) (normA l2.length s2 (vl 1000000000 l2) e2)
  · exact RRem_ok s1 s2 a1 a2 c1 c2 l1 l2 e1 e2 w h1 h2 hlo1 hlo2 hr1 hr2 h0
  · exact RRem_no s1 s2 a1 a2 c1 c2 l1 l2 e1 e2 w h1 h2 hlo1 hlo2 hr1 hr2 h0
end Go.Proofs.YtimfpgpomafflaaGreatDoor
