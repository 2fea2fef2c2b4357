/- quot: toWhole, Trunc, Floor, Ceil, Round, Abs, head. -/
import Derived.Test.YtimfpgpomafflaaGreatDoorQuotX
namespace Go.Proofs.YtimfpgpomafflaaGreatDoor
open Go.RowKit LM

def toWA (way : Nat) (A : Ans) : Ans := if A.err = 0 then ⟨0, cutP way A.p⟩ else ⟨A.err, zP⟩
set_option maxHeartbeats 8000000 in
theorem toWhole_any (way : Nat) (hw : way ≤ 4) (s : Bool) (a : Option Addr) (c : Nat) (l : List Nat) (e : Int) (w : World) (hl : l.length ≤ 9223372036854775807) (hlo : Lo 4294967296 l) (hrd : Rd w .u32 a l) (htab : Tab w) :
    Calls Tryz.prog 51 #[.agg #[.bool s, .slice a l.length c, .int .i64 e], .int .i64 way] w (ResY (toWA way (normA l.length s (vl 1000000000 l) e)) w) := by
  have hN := fun W hb => DNorm_any s a c l e W hl hlo (hrd.below' (w' := W) hb (Nat.le_refl _)) (htab.below hb)
  have hin := normA_in l.length s (vl 1000000000 l) e
  generalize normA l.length s (vl 1000000000 l) e = A at *
  have hC := fun a c W hr ht => cutWhole_any way hw A.p hin a c W hr ht
  have hres : toWA way A = if A.err = 0 then ⟨0, cutP way A.p⟩ else ⟨A.err, zP⟩ := rfl
  generalize toWA way A = R at *
  generalize cutP way A.p = q at *
  have HN := Lib.hid hN; have HC := Lib.hid hC; have HT := Lib.hid htab; have HR := Lib.hid hres
  clear hN hC htab hrd hlo hin hres
  go_enter Tryz.func51, Tryz.ntmps51
  have b1 := (((Below.refl w.heap.size w).alloc (Nat.le_refl _) (.cells #[.bool s, .slice a l.length c, .int .i64 e] 24)).alloc (by simp) (.cells #[.bool false, .slice none 0 0, .int .i64 0] 24))
  have X_d := (Qx.below (Qx.new w (.bool s) (.slice a l.length c) (.int .i64 e) 24) ((Below.refl _ _).alloc (Nat.le_refl _) (.cells #[.bool false, .slice none 0 0, .int .i64 0] 24)))
  have F_d := (Qf.below (Qf.new w (.bool s) (.slice a l.length c) (.int .i64 e) 24) (Qx.lt (Qx.new w (.bool s) (.slice a l.length c) (.int .i64 e) 24)) ((Below.refl _ _).alloc (Nat.le_refl _) (.cells #[.bool false, .slice none 0 0, .int .i64 0] 24)))
  have X_r := (Qx.new (w.alloc (.cells #[.bool s, .slice a l.length c, .int .i64 e] 24)) (.bool false) (.slice none 0 0) (.int .i64 0) 24)
  have F_r := (Qf.new (w.alloc (.cells #[.bool s, .slice a l.length c, .int .i64 e] 24)) (.bool false) (.slice none 0 0) (.int .i64 0) 24)
  have z : (w.alloc (.cells #[.bool s, .slice a l.length c, .int .i64 e] 24)).heap.size = w.heap.size + 1 := by simp
  rw [z] at X_r F_r
  clear z
  obtain ⟨kd0, kd1, kd2⟩ := X_d.out
  go_wp2_with fail
  clear kd0 kd1 kd2
  refine (HN.out _ b1).mono ?_
  rintro r w2 ⟨xp, yp, rfl, ho, hc⟩
  have b2 := b1.trans (hc.mono b1.size)
  replace F_d := Qf.below F_d (Qx.lt X_d) hc
  replace X_d := Qx.below X_d hc
  replace F_r := Qf.below F_r (Qx.lt X_r) hc
  replace X_r := Qx.below X_r hc
  clear hc b1
  have R_p := Lib.hid ho.rd
  clear ho
  have z_p := b2.size
  have hd := (Below.refl w2.heap.size w2).alloc (Nat.le_refl _) (.cells #[.bool A.p.neg, .slice xp (dg 1000000000 A.p.m).length yp, .int .i64 A.p.e] 24)
  have b3 := b2.trans (hd.mono b2.size)
  have l_d_p := Qx.lt X_d
  have m_d_p := not_eq_lt l_d_p
  have m_p_d := not_eq_gt l_d_p
  clear l_d_p
  have l_r_p := Qx.lt X_r
  have m_r_p := not_eq_lt l_r_p
  have m_p_r := not_eq_gt l_r_p
  clear l_r_p
  replace F_d := Qf.below F_d (Qx.lt X_d) hd
  replace X_d := Qx.below X_d hd
  replace F_r := Qf.below F_r (Qx.lt X_r) hd
  replace X_r := Qx.below X_r hd
  replace R_p := Lib.hid (R_p.out.below hd)
  have X_p := Qx.new w2 (.bool A.p.neg) (.slice xp (dg 1000000000 A.p.m).length yp) (.int .i64 A.p.e) 24
  have F_p := Qf.new w2 (.bool A.p.neg) (.slice xp (dg 1000000000 A.p.m).length yp) (.int .i64 A.p.e) 24
  clear hd b2
  by_cases h0 : A.err = 0
  · have g1 : ((A.err : Int) != 0) = false := by simp [h0]
    have hR := HR.out
    rw [if_pos h0] at hR
    subst hR
    clear h0 HR
    obtain ⟨kp0, kp1, kp2⟩ := X_p.out
    go_wp2_with fail
    clear kp0 kp1 kp2
    refine (HC.out _ _ _ R_p.out (HT.out.below b3)).mono ?_
    rintro r w4 ⟨xq, yq, rfl, ho, hc⟩
    have b4 := b3.trans (hc.mono b3.size)
    replace F_d := Qf.below F_d (Qx.lt X_d) hc
    replace X_d := Qx.below X_d hc
    replace F_r := Qf.below F_r (Qx.lt X_r) hc
    replace X_r := Qx.below X_r hc
    replace F_p := Qf.below F_p (Qx.lt X_p) hc
    replace X_p := Qx.below X_p hc
    replace R_p := Lib.hid (R_p.out.below hc)
    clear hc b3
    have R_q := Lib.hid ho
    clear ho
    obtain ⟨kr0, kr1, kr2⟩ := X_r.out
    have kf_r := F_r.out
    unfold Qf at kf_r
    go_wp2
    refine bodyPost_ret (v := .tuple #[.agg #[.bool q.neg, .slice xq (dg 1000000000 q.m).length yq, .int .i64 q.e], .int .i64 0]) (by simp [results, Tryz.results51, go_sem, kr0, kr1, kr2]) rfl ?_
    exact ⟨xq, yq, rfl, Rd.box R_q.out X_r (by decide) _ _ _, (Below.box b4 (g := w.heap.size + 1) (by omega) _ _ _)⟩
  · have g1 : ((A.err : Int) != 0) = true := by simp [h0]
    have hR := HR.out
    rw [if_neg h0] at hR
    have HR2 := Lib.hid hR
    clear h0 HR hR
    obtain ⟨kr0, kr1, kr2⟩ := X_r.out
    have kf_r := F_r.out
    unfold Qf at kf_r
    go_wp2
    refine bodyPost_ret (v := .tuple #[.agg #[.bool false, .slice none 0 0, .int .i64 0], .int .i64 (A.err : Nat)]) (by simp [results, Tryz.results51, go_sem, kr0, kr1, kr2]) rfl ?_
    exact resY_err HR2.out (Below.box b3 (g := w.heap.size + 1) (by omega) _ _ _)
set_option maxHeartbeats 8000000 in
theorem Trunc_any (s : Bool) (a : Option Addr) (c : Nat) (l : List Nat) (e : Int) (w : World) (hl : l.length ≤ 9223372036854775807) (hlo : Lo 4294967296 l) (hrd : Rd w .u32 a l) (htab : Tab w) :
    Calls Tryz.prog 16 #[.agg #[.bool s, .slice a l.length c, .int .i64 e]] w (ResY (toWA 0 (normA l.length s (vl 1000000000 l) e)) w) := by
  have hN := fun W hb => toWhole_any 0 (by omega) s a c l e W hl hlo (hrd.below' (w' := W) hb (Nat.le_refl _)) (htab.below hb)
  generalize toWA 0 (normA l.length s (vl 1000000000 l) e) = R at *
  have HN := Lib.hid hN
  clear hN htab hrd hlo
  go_enter Tryz.func16, Tryz.ntmps16
  have b1 := (((Below.refl w.heap.size w).alloc (Nat.le_refl _) (.cells #[.bool s, .slice a l.length c, .int .i64 e] 24)).alloc (by simp) (.cells #[.bool false, .slice none 0 0, .int .i64 0] 24))
  have X_d := (Qx.below (Qx.new w (.bool s) (.slice a l.length c) (.int .i64 e) 24) ((Below.refl _ _).alloc (Nat.le_refl _) (.cells #[.bool false, .slice none 0 0, .int .i64 0] 24)))
  have F_d := (Qf.below (Qf.new w (.bool s) (.slice a l.length c) (.int .i64 e) 24) (Qx.lt (Qx.new w (.bool s) (.slice a l.length c) (.int .i64 e) 24)) ((Below.refl _ _).alloc (Nat.le_refl _) (.cells #[.bool false, .slice none 0 0, .int .i64 0] 24)))
  have X_r := (Qx.new (w.alloc (.cells #[.bool s, .slice a l.length c, .int .i64 e] 24)) (.bool false) (.slice none 0 0) (.int .i64 0) 24)
  have F_r := (Qf.new (w.alloc (.cells #[.bool s, .slice a l.length c, .int .i64 e] 24)) (.bool false) (.slice none 0 0) (.int .i64 0) 24)
  have z : (w.alloc (.cells #[.bool s, .slice a l.length c, .int .i64 e] 24)).heap.size = w.heap.size + 1 := by simp
  rw [z] at X_r F_r
  clear z
  obtain ⟨kd0, kd1, kd2⟩ := X_d.out
  go_wp2_with fail
  clear kd0 kd1 kd2
  refine (HN.out _ b1).mono ?_
  rintro r w2 ⟨xp, yp, rfl, ho, hc⟩
  have b2 := b1.trans (hc.mono b1.size)
  replace F_d := Qf.below F_d (Qx.lt X_d) hc
  replace X_d := Qx.below X_d hc
  replace F_r := Qf.below F_r (Qx.lt X_r) hc
  replace X_r := Qx.below X_r hc
  clear hc b1
  have R_p := Lib.hid ho
  clear ho
  obtain ⟨kr0, kr1, kr2⟩ := X_r.out
  have kf_r := F_r.out
  unfold Qf at kf_r
  go_wp2
  refine bodyPost_ret (v := .tuple #[.agg #[.bool R.p.neg, .slice xp (dg 1000000000 R.p.m).length yp, .int .i64 R.p.e], .int .i64 (R.err : Nat)]) (by simp [results, Tryz.results16, go_sem, kr0, kr1, kr2]) rfl ?_
  exact ⟨xp, yp, rfl, Rd.box R_p.out X_r (by decide) _ _ _, (Below.box b2 (g := w.heap.size + 1) (by omega) _ _ _)⟩
set_option maxHeartbeats 8000000 in
theorem Floor_any (s : Bool) (a : Option Addr) (c : Nat) (l : List Nat) (e : Int) (w : World) (hl : l.length ≤ 9223372036854775807) (hlo : Lo 4294967296 l) (hrd : Rd w .u32 a l) (htab : Tab w) :
    Calls Tryz.prog 17 #[.agg #[.bool s, .slice a l.length c, .int .i64 e]] w (ResY (toWA 1 (normA l.length s (vl 1000000000 l) e)) w) := by
  have hN := fun W hb => toWhole_any 1 (by omega) s a c l e W hl hlo (hrd.below' (w' := W) hb (Nat.le_refl _)) (htab.below hb)
  generalize toWA 1 (normA l.length s (vl 1000000000 l) e) = R at *
  have HN := Lib.hid hN
  clear hN htab hrd hlo
  go_enter Tryz.func17, Tryz.ntmps17
  have b1 := (((Below.refl w.heap.size w).alloc (Nat.le_refl _) (.cells #[.bool s, .slice a l.length c, .int .i64 e] 24)).alloc (by simp) (.cells #[.bool false, .slice none 0 0, .int .i64 0] 24))
  have X_d := (Qx.below (Qx.new w (.bool s) (.slice a l.length c) (.int .i64 e) 24) ((Below.refl _ _).alloc (Nat.le_refl _) (.cells #[.bool false, .slice none 0 0, .int .i64 0] 24)))
  have F_d := (Qf.below (Qf.new w (.bool s) (.slice a l.length c) (.int .i64 e) 24) (Qx.lt (Qx.new w (.bool s) (.slice a l.length c) (.int .i64 e) 24)) ((Below.refl _ _).alloc (Nat.le_refl _) (.cells #[.bool false, .slice none 0 0, .int .i64 0] 24)))
  have X_r := (Qx.new (w.alloc (.cells #[.bool s, .slice a l.length c, .int .i64 e] 24)) (.bool false) (.slice none 0 0) (.int .i64 0) 24)
  have F_r := (Qf.new (w.alloc (.cells #[.bool s, .slice a l.length c, .int .i64 e] 24)) (.bool false) (.slice none 0 0) (.int .i64 0) 24)
  have z : (w.alloc (.cells #[.bool s, .slice a l.length c, .int .i64 e] 24)).heap.size = w.heap.size + 1 := by simp
  rw [z] at X_r F_r
  clear z
  obtain ⟨kd0, kd1, kd2⟩ := X_d.out
  go_wp2_with fail
  clear kd0 kd1 kd2
  refine (HN.out _ b1).mono ?_
  rintro r w2 ⟨xp, yp, rfl, ho, hc⟩
  have b2 := b1.trans (hc.mono b1.size)
  replace F_d := Qf.below F_d (Qx.lt X_d) hc
  replace X_d := Qx.below X_d hc
  replace F_r := Qf.below F_r (Qx.lt X_r) hc
  replace X_r := Qx.below X_r hc
  clear hc b1
  have R_p := Lib.hid ho
  clear ho
  obtain ⟨kr0, kr1, kr2⟩ := X_r.out
  have kf_r := F_r.out
  unfold Qf at kf_r
  go_wp2
  refine bodyPost_ret (v := .tuple #[.agg #[.bool R.p.neg, .slice xp (dg 1000000000 R.p.m).length yp, .int .i64 R.p.e], .int .i64 (R.err : Nat)]) (by simp [results, Tryz.results17, go_sem, kr0, kr1, kr2]) rfl ?_
  exact ⟨xp, yp, rfl, Rd.box R_p.out X_r (by decide) _ _ _, (Below.box b2 (g := w.heap.size + 1) (by omega) _ _ _)⟩
set_option maxHeartbeats 8000000 in
theorem Ceil_any (s : Bool) (a : Option Addr) (c : Nat) (l : List Nat) (e : Int) (w : World) (hl : l.length ≤ 9223372036854775807) (hlo : Lo 4294967296 l) (hrd : Rd w .u32 a l) (htab : Tab w) :
    Calls Tryz.prog 18 #[.agg #[.bool s, .slice a l.length c, .int .i64 e]] w (ResY (toWA 2 (normA l.length s (vl 1000000000 l) e)) w) := by
  have hN := fun W hb => toWhole_any 2 (by omega) s a c l e W hl hlo (hrd.below' (w' := W) hb (Nat.le_refl _)) (htab.below hb)
  generalize toWA 2 (normA l.length s (vl 1000000000 l) e) = R at *
  have HN := Lib.hid hN
  clear hN htab hrd hlo
  go_enter Tryz.func18, Tryz.ntmps18
  have b1 := (((Below.refl w.heap.size w).alloc (Nat.le_refl _) (.cells #[.bool s, .slice a l.length c, .int .i64 e] 24)).alloc (by simp) (.cells #[.bool false, .slice none 0 0, .int .i64 0] 24))
  have X_d := (Qx.below (Qx.new w (.bool s) (.slice a l.length c) (.int .i64 e) 24) ((Below.refl _ _).alloc (Nat.le_refl _) (.cells #[.bool false, .slice none 0 0, .int .i64 0] 24)))
  have F_d := (Qf.below (Qf.new w (.bool s) (.slice a l.length c) (.int .i64 e) 24) (Qx.lt (Qx.new w (.bool s) (.slice a l.length c) (.int .i64 e) 24)) ((Below.refl _ _).alloc (Nat.le_refl _) (.cells #[.bool false, .slice none 0 0, .int .i64 0] 24)))
  have X_r := (Qx.new (w.alloc (.cells #[.bool s, .slice a l.length c, .int .i64 e] 24)) (.bool false) (.slice none 0 0) (.int .i64 0) 24)
  have F_r := (Qf.new (w.alloc (.cells #[.bool s, .slice a l.length c, .int .i64 e] 24)) (.bool false) (.slice none 0 0) (.int .i64 0) 24)
  have z : (w.alloc (.cells #[.bool s, .slice a l.length c, .int .i64 e] 24)).heap.size = w.heap.size + 1 := by simp
  rw [z] at X_r F_r
  clear z
  obtain ⟨kd0, kd1, kd2⟩ := X_d.out
  go_wp2_with fail
  clear kd0 kd1 kd2
  refine (HN.out _ b1).mono ?_
  rintro r w2 ⟨xp, yp, rfl, ho, hc⟩
  have b2 := b1.trans (hc.mono b1.size)
  replace F_d := Qf.below F_d (Qx.lt X_d) hc
  replace X_d := Qx.below X_d hc
  replace F_r := Qf.below F_r (Qx.lt X_r) hc
  replace X_r := Qx.below X_r hc
  clear hc b1
  have R_p := Lib.hid ho
  clear ho
  obtain ⟨kr0, kr1, kr2⟩ := X_r.out
  have kf_r := F_r.out
  unfold Qf at kf_r
  go_wp2
  refine bodyPost_ret (v := .tuple #[.agg #[.bool R.p.neg, .slice xp (dg 1000000000 R.p.m).length yp, .int .i64 R.p.e], .int .i64 (R.err : Nat)]) (by simp [results, Tryz.results18, go_sem, kr0, kr1, kr2]) rfl ?_
  exact ⟨xp, yp, rfl, Rd.box R_p.out X_r (by decide) _ _ _, (Below.box b2 (g := w.heap.size + 1) (by omega) _ _ _)⟩
set_option maxHeartbeats 8000000 in
theorem Round_any (s : Bool) (a : Option Addr) (c : Nat) (l : List Nat) (e : Int) (w : World) (hl : l.length ≤ 9223372036854775807) (hlo : Lo 4294967296 l) (hrd : Rd w .u32 a l) (htab : Tab w) :
    Calls Tryz.prog 19 #[.agg #[.bool s, .slice a l.length c, .int .i64 e]] w (ResY (toWA 3 (normA l.length s (vl 1000000000 l) e)) w) := by
  have hN := fun W hb => toWhole_any 3 (by omega) s a c l e W hl hlo (hrd.below' (w' := W) hb (Nat.le_refl _)) (htab.below hb)
  generalize toWA 3 (normA l.length s (vl 1000000000 l) e) = R at *
  have HN := Lib.hid hN
  clear hN htab hrd hlo
  go_enter Tryz.func19, Tryz.ntmps19
  have b1 := (((Below.refl w.heap.size w).alloc (Nat.le_refl _) (.cells #[.bool s, .slice a l.length c, .int .i64 e] 24)).alloc (by simp) (.cells #[.bool false, .slice none 0 0, .int .i64 0] 24))
  have X_d := (Qx.below (Qx.new w (.bool s) (.slice a l.length c) (.int .i64 e) 24) ((Below.refl _ _).alloc (Nat.le_refl _) (.cells #[.bool false, .slice none 0 0, .int .i64 0] 24)))
  have F_d := (Qf.below (Qf.new w (.bool s) (.slice a l.length c) (.int .i64 e) 24) (Qx.lt (Qx.new w (.bool s) (.slice a l.length c) (.int .i64 e) 24)) ((Below.refl _ _).alloc (Nat.le_refl _) (.cells #[.bool false, .slice none 0 0, .int .i64 0] 24)))
  have X_r := (Qx.new (w.alloc (.cells #[.bool s, .slice a l.length c, .int .i64 e] 24)) (.bool false) (.slice none 0 0) (.int .i64 0) 24)
  have F_r := (Qf.new (w.alloc (.cells #[.bool s, .slice a l.length c, .int .i64 e] 24)) (.bool false) (.slice none 0 0) (.int .i64 0) 24)
  have z : (w.alloc (.cells #[.bool s, .slice a l.length c, .int .i64 e] 24)).heap.size = w.heap.size + 1 := by simp
  rw [z] at X_r F_r
  clear z
  obtain ⟨kd0, kd1, kd2⟩ := X_d.out
  go_wp2_with fail
  clear kd0 kd1 kd2
  refine (HN.out _ b1).mono ?_
  rintro r w2 ⟨xp, yp, rfl, ho, hc⟩
  have b2 := b1.trans (hc.mono b1.size)
  replace F_d := Qf.below F_d (Qx.lt X_d) hc
  replace X_d := Qx.below X_d hc
  replace F_r := Qf.below F_r (Qx.lt X_r) hc
  replace X_r := Qx.below X_r hc
  clear hc b1
  have R_p := Lib.hid ho
  clear ho
  obtain ⟨kr0, kr1, kr2⟩ := X_r.out
  have kf_r := F_r.out
  unfold Qf at kf_r
  go_wp2
  refine bodyPost_ret (v := .tuple #[.agg #[.bool R.p.neg, .slice xp (dg 1000000000 R.p.m).length yp, .int .i64 R.p.e], .int .i64 (R.err : Nat)]) (by simp [results, Tryz.results19, go_sem, kr0, kr1, kr2]) rfl ?_
  exact ⟨xp, yp, rfl, Rd.box R_p.out X_r (by decide) _ _ _, (Below.box b2 (g := w.heap.size + 1) (by omega) _ _ _)⟩
set_option maxHeartbeats 8000000 in
theorem Abs_any (s : Bool) (a : Option Addr) (c : Nat) (l : List Nat) (e : Int) (w : World) (hl : l.length ≤ 9223372036854775807) (hlo : Lo 4294967296 l) (hrd : Rd w .u32 a l) (htab : Tab w) :
    Calls Tryz.prog 20 #[.agg #[.bool s, .slice a l.length c, .int .i64 e]] w (ResY (normA l.length false (vl 1000000000 l) e) w) := by
  have hN := fun W hb => DNorm_any false a c l e W hl hlo (hrd.below' (w' := W) hb (Nat.le_refl _)) (htab.below hb)
  generalize normA l.length false (vl 1000000000 l) e = R at *
  have HN := Lib.hid hN
  clear hN htab hrd hlo
  go_enter Tryz.func20, Tryz.ntmps20
  have b1 := (((Below.refl w.heap.size w).alloc (Nat.le_refl _) (.cells #[.bool false, .slice a l.length c, .int .i64 e] 24)).alloc (by simp) (.cells #[.bool false, .slice none 0 0, .int .i64 0] 24))
  have X_d := (Qx.below (Qx.new w (.bool false) (.slice a l.length c) (.int .i64 e) 24) ((Below.refl _ _).alloc (Nat.le_refl _) (.cells #[.bool false, .slice none 0 0, .int .i64 0] 24)))
  have F_d := (Qf.below (Qf.new w (.bool false) (.slice a l.length c) (.int .i64 e) 24) (Qx.lt (Qx.new w (.bool false) (.slice a l.length c) (.int .i64 e) 24)) ((Below.refl _ _).alloc (Nat.le_refl _) (.cells #[.bool false, .slice none 0 0, .int .i64 0] 24)))
  have X_r := (Qx.new (w.alloc (.cells #[.bool false, .slice a l.length c, .int .i64 e] 24)) (.bool false) (.slice none 0 0) (.int .i64 0) 24)
  have F_r := (Qf.new (w.alloc (.cells #[.bool false, .slice a l.length c, .int .i64 e] 24)) (.bool false) (.slice none 0 0) (.int .i64 0) 24)
  have z : (w.alloc (.cells #[.bool false, .slice a l.length c, .int .i64 e] 24)).heap.size = w.heap.size + 1 := by simp
  rw [z] at X_r F_r
  clear z
  go_wp2_with fail
  refine (HN.out _ b1).mono ?_
  rintro r w2 ⟨xp, yp, rfl, ho, hc⟩
  have b2 := b1.trans (hc.mono b1.size)
  replace F_d := Qf.below F_d (Qx.lt X_d) hc
  replace X_d := Qx.below X_d hc
  replace F_r := Qf.below F_r (Qx.lt X_r) hc
  replace X_r := Qx.below X_r hc
  clear hc b1
  have R_p := Lib.hid ho.rd
  clear ho
  obtain ⟨kr0, kr1, kr2⟩ := X_r.out
  have kf_r := F_r.out
  unfold Qf at kf_r
  go_wp2
  refine bodyPost_ret (v := .tuple #[.agg #[.bool R.p.neg, .slice xp (dg 1000000000 R.p.m).length yp, .int .i64 R.p.e], .int .i64 (R.err : Nat)]) (by simp [results, Tryz.results20, go_sem, kr0, kr1, kr2]) rfl ?_
  exact ⟨xp, yp, rfl, Rd.box R_p.out X_r (by decide) _ _ _, (Below.box b2 (g := w.heap.size + 1) (by omega) _ _ _)⟩
set_option maxHeartbeats 8000000 in
theorem head_any (p : Pl) (hin : inR p = true) (a : Option Addr) (c : Nat) (w : World) (hr : Rd w .u32 a (dg 1000000000 p.m)) (htab : Tab w) :
    Calls Tryz.prog 42 #[.agg #[.bool p.neg, .slice a (dg 1000000000 p.m).length c, .int .i64 p.e]] w fun r w' => r = .returned (.int .i64 (hd p)) ∧ Below w.heap.size w w' := by
  have hbd := inR_bounds hin
  have h9 := dg9_few' (m := p.m) hbd.1
  have hD := fun W hb => digits9 p.m a c W (by omega) (hr.below' (w' := W) hb (Nat.le_refl _)) (htab.below hb)
  have hv : hd p = p.e + (dl p.m : Nat) - 1 := rfl
  have q1 : IntKind.i64.wrap (p.e + ((dl p.m : Nat) : Int)) = p.e + ((dl p.m : Nat) : Int) := IntWalk.i64_in _ (by omega)
  have q2 : IntKind.i64.wrap (p.e + ((dl p.m : Nat) : Int) - 1) = p.e + ((dl p.m : Nat) : Int) - 1 := IntWalk.i64_in _ (by omega)
  rw [hv]
  generalize dl p.m = d at *
  have HD := Lib.hid hD
  clear hD hr htab h9 hin hv hbd
  generalize (dg 1000000000 p.m).length = n at *
  go_enter Tryz.func42, Tryz.ntmps42
  have k1 : (w.alloc (.cells #[.bool p.neg, .slice a n c, .int .i64 p.e] 24)).cell? ⟨w.heap.size, 1, none⟩ = some (.slice a n c) := by simp
  have k2 : (w.alloc (.cells #[.bool p.neg, .slice a n c, .int .i64 p.e] 24)).cell? ⟨w.heap.size, 2, none⟩ = some (.int .i64 p.e) := by simp
  have bb := (Below.refl w.heap.size w).alloc (Nat.le_refl _) (.cells #[.bool p.neg, .slice a n c, .int .i64 p.e] 24)
  go_wp2_with fail
  generalize hw1 : w.alloc (.cells #[.bool p.neg, .slice a n c, .int .i64 p.e] 24) = w1 at *
  go_region_held3 (fun w' => w'.cell? ⟨w.heap.size, 1, none⟩ = some (.slice a n c) ∧ w'.cell? ⟨w.heap.size, 2, none⟩ = some (.int .i64 p.e)) (first | exact ⟨k1, k2⟩ | exact ⟨j1, j2⟩ | go_keep)
    (first | (go_at_call 55; refine (HD.out _ bb.drew).mono ?_; rintro e w2 ⟨rfl, hb⟩; have bb2 := bb.drew.trans (hb.mono bb.size); have j1 : w2.cell? ⟨w.heap.size, 1, none⟩ = some (.slice a n c) := (by rw [hb.cell (lt_of_cell k1)]; exact k1); have j2 : w2.cell? ⟨w.heap.size, 2, none⟩ = some (.int .i64 p.e) := (by rw [hb.cell (lt_of_cell k2)]; exact k2)))
  go_wp2
  go_ret
  exact ⟨by simp [q1, q2], bb2⟩
end Go.Proofs.YtimfpgpomafflaaGreatDoor
