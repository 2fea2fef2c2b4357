/- The document's Round, Abs, Whole. -/
import Derived.Test.YtimfpgpomafflaaGreatDoorQuotPs
import Derived.Test.YtimfpgpomafflaaGreatDoorDecEs
import Derived.Test.YtimfpgpomafflaaGreatDoorQuotS
namespace Go.Proofs.YtimfpgpomafflaaGreatDoor
open Go.RowKit LM

theorem half_digit {m j : Nat} : 10 ^ (j + 1) ≤ 2 * (m % 10 ^ (j + 1)) ↔ 5 ≤ m / 10 ^ j % 10 := by
  have h1 : m % 10 ^ (j + 1) = 10 ^ j * (m / 10 ^ j % 10) + m % 10 ^ j := by
    rw [Nat.pow_succ, Nat.mod_mul]; omega
  have h2 := Nat.mod_lt m (Nat.pow_pos (n := j) (show 0 < 10 by omega))
  rw [h1, Nat.pow_succ]
  generalize m / 10 ^ j % 10 = d at *
  generalize m % 10 ^ j = r at *
  generalize 10 ^ j = t at *
  constructor
  · intro h
    rcases Nat.lt_or_ge d 5 with h3 | h3
    · have : t * d ≤ t * 4 := Nat.mul_le_mul_left t (by omega)
      omega
    · exact h3
  · intro h
    have : t * 5 ≤ t * d := Nat.mul_le_mul_left t h
    omega
theorem cutV_3' {p : Pl} (he : p.e < 0) : cutV 3 p = if 5 ≤ p.m / 10 ^ (plc p - 1) % 10 then p.m / 10 ^ plc p + 1 else p.m / 10 ^ plc p := by
  obtain ⟨j, hj⟩ : ∃ j, plc p = j + 1 := ⟨plc p - 1, by unfold plc; omega⟩
  have h := half_digit (m := p.m) (j := j)
  unfold cutV rnd
  have ha : away 3 p.neg (p.m / 10 ^ plc p) (p.m % 10 ^ plc p) (10 ^ plc p) = decide (10 ^ plc p ≤ 2 * (p.m % 10 ^ plc p)) := rfl
  rw [ha, hj, Nat.add_sub_cancel]
  by_cases k : 5 ≤ p.m / 10 ^ j % 10
  · rw [if_pos k, if_pos (decide_eq_true (h.2 k))]
  · rw [if_neg k, if_neg (by rw [decide_eq_true_iff]; exact fun q => k (h.1 q))]
theorem Rounded_lt (way : Nat) (hw : way ≤ 3) (p : Pl) (hp : PlainP p) (hin : inR p = true) (he : p.e < 0) (a : Option Addr) (c : Nat) (w : World) (hr : RdC w a c p.m) :
    Calls Tryz.prog 45 #[.agg #[.bool p.neg, .slice a (dg 10 p.m).length c, .int .i64 p.e], .int .i64 way] w (ResM (cutP way p) w) := by
  have hr0 := (part_rest hp he).2
  rw [cut_part he]
  obtain ⟨s, m, e⟩ := p
  obtain rfl | rfl | rfl | rfl : way = 0 ∨ way = 1 ∨ way = 2 ∨ way = 3 := by omega
  · cases s
    · exact Rd_0f m e a c w he hin hr
    · exact Rd_0t m e a c w he hin hr
  · rw [cutV_1 hr0]
    cases s
    · exact Rd_1f m e a c w he hin hr
    · exact Rd_1t m e a c w he hin hr
  · rw [cutV_2 hr0]
    cases s
    · exact Rd_2f m e a c w he hin hr
    · exact Rd_2t m e a c w he hin hr
  · rw [cutV_3' he]
    by_cases k : 5 ≤ m / 10 ^ (plc ⟨s, m, e⟩ - 1) % 10
    · rw [if_pos k]
      cases s
      · exact Rd_3fg m e a c w he hin hr k
      · exact Rd_3tg m e a c w he hin hr k
    · rw [if_neg k]
      cases s
      · exact Rd_3fl m e a c w he hin hr k
      · exact Rd_3tl m e a c w he hin hr k
set_option maxHeartbeats 8000000 in
theorem Rounded_ge (way : Nat) (p : Pl) (he : 0 ≤ p.e) (a : Option Addr) (c : Nat) (w : World) (hr : RdC w a c p.m) :
    Calls Tryz.prog 45 #[.agg #[.bool p.neg, .slice a (dg 10 p.m).length c, .int .i64 p.e], .int .i64 way] w (ResM p w) := by
  generalize hn : (dg 10 p.m).length = n at *
  have HN := Lib.hid hn; have HRC := Lib.hid hr
  clear hn hr
  go_enter Tryz.func45, Tryz.ntmps45
  have b1 := (((Below.refl w.heap.size w).alloc (Nat.le_refl _) (.cells #[.bool p.neg, .slice a n c, .int .i64 p.e] 53)).alloc (by simp) (.cells #[.bool false, .slice none 0 0, .int .i64 0] 53))
  have X_x := (Qx.below (Qx.new w (.bool p.neg) (.slice a n c) (.int .i64 p.e) 53) ((Below.refl _ _).alloc (Nat.le_refl _) (.cells #[.bool false, .slice none 0 0, .int .i64 0] 53)))
  have F_x := (Qf.below (Qf.new w (.bool p.neg) (.slice a n c) (.int .i64 p.e) 53) (Qx.lt (Qx.new w (.bool p.neg) (.slice a n c) (.int .i64 p.e) 53)) ((Below.refl _ _).alloc (Nat.le_refl _) (.cells #[.bool false, .slice none 0 0, .int .i64 0] 53)))
  have X_r := (Qx.new (w.alloc (.cells #[.bool p.neg, .slice a n c, .int .i64 p.e] 53)) (.bool false) (.slice none 0 0) (.int .i64 0) 53)
  have F_r := (Qf.new (w.alloc (.cells #[.bool p.neg, .slice a n c, .int .i64 p.e] 53)) (.bool false) (.slice none 0 0) (.int .i64 0) 53)
  have z : (w.alloc (.cells #[.bool p.neg, .slice a n c, .int .i64 p.e] 53)).heap.size = w.heap.size + 1 := by simp
  rw [z] at X_r F_r
  clear z
  obtain ⟨kx0, kx1, kx2⟩ := X_x.out
  obtain ⟨kr0, kr1, kr2⟩ := X_r.out
  have kf_r := F_r.out
  unfold Qf at kf_r
  have b9 := ((Below.refl w.heap.size w).alloc (Nat.le_refl _) (.cells #[.bool p.neg, .slice a n c, .int .i64 p.e] 53)).alloc (by simp) (.cells #[.bool p.neg, .slice a n c, .int .i64 p.e] 53)
  have B9 := Lib.hid b9
  clear b9
  go_wp2
  refine bodyPost_ret (v := .agg #[.bool p.neg, .slice a n c, .int .i64 p.e]) (by simp [results, Tryz.results45, go_sem, kr0, kr1, kr2]) rfl ?_
  exact ⟨a, c, by rw [HN.out], HRC.out.below B9.out, B9.out⟩
theorem Rounded_any (way : Nat) (hw : way ≤ 3) (p : Pl) (hp : PlainP p) (hin : inR p = true) (a : Option Addr) (c : Nat) (w : World) (hr : RdC w a c p.m) :
    Calls Tryz.prog 45 #[.agg #[.bool p.neg, .slice a (dg 10 p.m).length c, .int .i64 p.e], .int .i64 way] w (ResM (cutP way p) w) := by
  by_cases he : p.e < 0
  · exact Rounded_lt way hw p hp hin he a c w hr
  · rw [whole_cut (by omega)]
    exact Rounded_ge way p (by omega) a c w hr
set_option maxHeartbeats 8000000 in
set_option maxRecDepth 20000 in
theorem RRound_any (way : Nat) (hw : way ≤ 3) (s : Bool) (a : Option Addr) (c : Nat) (l : List Nat) (e : Int) (w : World) (hl : l.length ≤ 9223372036854775807) (hlo : Lo 4294967296 l) (hrd : Rd w .u32 a l) :
    Calls Tryz.prog 21 #[.agg #[.bool s, .slice a l.length c, .int .i64 e], .int .i64 way] w (ResY (toWA way (normA l.length s (vl 1000000000 l) e)) w) := by
  have hT := fun W hb => Take_any s a c l e W hl hlo (hrd.below' (w' := W) hb (Nat.le_refl _))
  have hin := normA_in l.length s (vl 1000000000 l) e
  have hpl := normA_plain l.length s (vl 1000000000 l) e
  generalize normA l.length s (vl 1000000000 l) e = A at *
  have hC := fun x y W r => Rounded_any way hw A.p hpl hin x y W r
  have bc := inR_bounds (cutP_in (way := way) hin)
  have hTe := fun x y W r => Tell_any (cutP way A.p) x y W (cutP_plain hpl) (by omega) (by omega) (by omega) r
  rw [show tellP (cutP way A.p) = ⟨0, cutP way A.p⟩ from if_pos (cutP_in hin)] at hTe
  have hTe := fun x y W r => (hTe x y W r).mono fun _ _ h => (ResN.y h).ok
  have hres : toWA way A = if A.err = 0 then ⟨0, cutP way A.p⟩ else ⟨A.err, zP⟩ := rfl
  generalize toWA way A = R at *
  generalize cutP way A.p = P at *
  have HTk := Lib.hid hT; have HC := Lib.hid hC; have HTe := Lib.hid hTe; have HR := Lib.hid hres
  clear hT hC hTe hres hrd hlo hin hpl bc
  go_enter Tryz.func21, Tryz.ntmps21
  have b1 := (((Below.refl w.heap.size w).alloc (Nat.le_refl _) (.cells #[.bool s, .slice a l.length c, .int .i64 e] 24)).alloc (by simp) (.cells #[.bool false, .slice none 0 0, .int .i64 0] 24))
  have X_d := (Qx.below (Qx.new w (.bool s) (.slice a l.length c) (.int .i64 e) 24) ((Below.refl _ _).alloc (Nat.le_refl _) (.cells #[.bool false, .slice none 0 0, .int .i64 0] 24)))
  have F_d := (Qf.below (Qf.new w (.bool s) (.slice a l.length c) (.int .i64 e) 24) (Qx.lt (Qx.new w (.bool s) (.slice a l.length c) (.int .i64 e) 24)) ((Below.refl _ _).alloc (Nat.le_refl _) (.cells #[.bool false, .slice none 0 0, .int .i64 0] 24)))
  have X_r := (Qx.new (w.alloc (.cells #[.bool s, .slice a l.length c, .int .i64 e] 24)) (.bool false) (.slice none 0 0) (.int .i64 0) 24)
  have F_r := (Qf.new (w.alloc (.cells #[.bool s, .slice a l.length c, .int .i64 e] 24)) (.bool false) (.slice none 0 0) (.int .i64 0) 24)
  have z : (w.alloc (.cells #[.bool s, .slice a l.length c, .int .i64 e] 24)).heap.size = w.heap.size + 1 := by simp
  rw [z] at X_r F_r
  clear z
  obtain ⟨kd0, kd1, kd2⟩ := X_d.out
  go_wp2_with fail
  clear kd0 kd1 kd2
  refine (HTk.out _ b1).mono ?_
  rintro r w2 ⟨xp, yp, rfl, ho, hc⟩
  have b2 := b1.trans (hc.mono b1.size)
  replace F_d := Qf.below F_d (Qx.lt X_d) hc
  replace X_d := Qx.below X_d hc
  replace F_r := Qf.below F_r (Qx.lt X_r) hc
  replace X_r := Qx.below X_r hc
  clear hc b1
  have R_p := Lib.hid ho
  clear ho
  clear X_d F_d
  have z_p := b2.size
  have hd := (Below.refl w2.heap.size w2).alloc (Nat.le_refl _) (.cells #[.bool A.p.neg, .slice xp (dg 10 A.p.m).length yp, .int .i64 A.p.e] 53)
  have b3 := b2.trans (hd.mono b2.size)
  have l_r_p := Qx.lt X_r
  have m_r_p := not_eq_lt l_r_p
  have m_p_r := not_eq_gt l_r_p
  clear l_r_p
  replace F_r := Qf.below F_r (Qx.lt X_r) hd
  replace X_r := Qx.below X_r hd
  replace R_p := Lib.hid (R_p.out.below hd)
  have X_p := Qx.new w2 (.bool A.p.neg) (.slice xp (dg 10 A.p.m).length yp) (.int .i64 A.p.e) 53
  have F_p := Qf.new w2 (.bool A.p.neg) (.slice xp (dg 10 A.p.m).length yp) (.int .i64 A.p.e) 53
  clear hd b2
  by_cases h0 : A.err = 0
  · have g1 : ((A.err : Int) != 0) = false := by simp [h0]
    have hR := HR.out
    rw [if_pos h0] at hR
    subst hR
    clear h0 HR
    obtain ⟨kp0, kp1, kp2⟩ := X_p.out
    go_wp2_with fail
    clear kp0 kp1 kp2
    refine (HC.out _ _ _ R_p.out).mono ?_
    rintro r w4 ⟨xq, yq, rfl, ho, hc⟩
    have b4 := b3.trans (hc.mono b3.size)
    replace F_r := Qf.below F_r (Qx.lt X_r) hc
    replace X_r := Qx.below X_r hc
    replace F_p := Qf.below F_p (Qx.lt X_p) hc
    replace X_p := Qx.below X_p hc
    replace R_p := Lib.hid (R_p.out.below hc)
    clear hc b3
    clear X_p F_p
    clear R_p
    have R_q := Lib.hid ho
    clear ho
    go_wp2_with fail
    refine (HTe.out _ _ _ R_q.out).mono ?_
    rintro r w5 ⟨xt, yt, rfl, ho, hc⟩
    have b5 := b4.trans (hc.mono b4.size)
    replace F_r := Qf.below F_r (Qx.lt X_r) hc
    replace X_r := Qx.below X_r hc
    replace R_q := Lib.hid (R_q.out.below hc)
    clear hc b4
    have R_t := Lib.hid ho
    clear ho
    obtain ⟨kr0, kr1, kr2⟩ := X_r.out
    have kf_r := F_r.out
    unfold Qf at kf_r
    go_wp2
    refine bodyPost_ret (v := .tuple #[.agg #[.bool P.neg, .slice xt (dg 1000000000 P.m).length yt, .int .i64 P.e], .int .i64 0]) (by simp [results, Tryz.results21, go_sem, kr0, kr1, kr2]) rfl ?_
    exact ⟨xt, yt, rfl, Rd.box R_t.out X_r (by decide) _ _ _, (Below.box b5 (g := w.heap.size + 1) (by omega) _ _ _)⟩
  · have g1 : ((A.err : Int) != 0) = true := by simp [h0]
    have hR := HR.out
    rw [if_neg h0] at hR
    have HR2 := Lib.hid hR
    clear h0 HR hR
    obtain ⟨kr0, kr1, kr2⟩ := X_r.out
    have kf_r := F_r.out
    unfold Qf at kf_r
    go_wp2
    refine bodyPost_ret (v := .tuple #[.agg #[.bool false, .slice none 0 0, .int .i64 0], .int .i64 (A.err : Nat)]) (by simp [results, Tryz.results21, go_sem, kr0, kr1, kr2]) rfl ?_
    exact resY_err HR2.out (Below.box b3 (g := w.heap.size + 1) (by omega) _ _ _)
theorem norm_false (n : Nat) (s : Bool) (v : Nat) (e : Int) : normA n false v e = if (normA n s v e).err = 0 then ⟨0, absP (normA n s v e).p⟩ else ⟨(normA n s v e).err, zP⟩ := by
  have hab : absP (pl s v e) = pl false v e := absP_pl _ _ _
  unfold normA
  by_cases h : nearB n e = true
  · rw [if_pos h, if_pos h]
    unfold tellA
    rw [← hab, absP_in]
    by_cases k : inR (pl s v e) = true
    · rw [if_pos k, if_pos k]; rfl
    · rw [if_neg k, if_neg k]; rfl
  · rw [if_neg h, if_neg h]; rfl
set_option maxHeartbeats 8000000 in
set_option maxRecDepth 20000 in
theorem RAbs_any (s : Bool) (a : Option Addr) (c : Nat) (l : List Nat) (e : Int) (w : World) (hl : l.length ≤ 9223372036854775807) (hlo : Lo 4294967296 l) (hrd : Rd w .u32 a l) :
    Calls Tryz.prog 22 #[.agg #[.bool s, .slice a l.length c, .int .i64 e]] w (ResY (normA l.length false (vl 1000000000 l) e) w) := by
  have hnf := norm_false l.length s (vl 1000000000 l) e
  have hT := fun W hb => Take_any s a c l e W hl hlo (hrd.below' (w' := W) hb (Nat.le_refl _))
  have hin := normA_in l.length s (vl 1000000000 l) e
  have hpl := normA_plain l.length s (vl 1000000000 l) e
  generalize normA l.length s (vl 1000000000 l) e = A at *
  have ba := inR_bounds hin
  have hV := fun x y W r => ToD_any (absP A.p) x y W (by show dl A.p.m ≤ 1000000; omega) r
  have hV : ∀ x y W (r : RdC W x y A.p.m), Calls Tryz.prog 49 #[.agg #[.bool false, .slice x (dg 10 A.p.m).length y, .int .i64 A.p.e]] W (ResV0 (absP A.p) W) := fun x y W r => (hV x y W r).mono fun _ _ h => h.r
  generalize normA l.length false (vl 1000000000 l) e = R at *
  generalize hsp : absP A.p = SP at *
  have HTk := Lib.hid hT; have HV := Lib.hid hV; have HR := Lib.hid hnf
  clear hT hV hnf hrd hlo hin hpl ba hsp
  go_enter Tryz.func22, Tryz.ntmps22
  have b1 := (((Below.refl w.heap.size w).alloc (Nat.le_refl _) (.cells #[.bool s, .slice a l.length c, .int .i64 e] 24)).alloc (by simp) (.cells #[.bool false, .slice none 0 0, .int .i64 0] 24))
  have X_d := (Qx.below (Qx.new w (.bool s) (.slice a l.length c) (.int .i64 e) 24) ((Below.refl _ _).alloc (Nat.le_refl _) (.cells #[.bool false, .slice none 0 0, .int .i64 0] 24)))
  have F_d := (Qf.below (Qf.new w (.bool s) (.slice a l.length c) (.int .i64 e) 24) (Qx.lt (Qx.new w (.bool s) (.slice a l.length c) (.int .i64 e) 24)) ((Below.refl _ _).alloc (Nat.le_refl _) (.cells #[.bool false, .slice none 0 0, .int .i64 0] 24)))
  have X_r := (Qx.new (w.alloc (.cells #[.bool s, .slice a l.length c, .int .i64 e] 24)) (.bool false) (.slice none 0 0) (.int .i64 0) 24)
  have F_r := (Qf.new (w.alloc (.cells #[.bool s, .slice a l.length c, .int .i64 e] 24)) (.bool false) (.slice none 0 0) (.int .i64 0) 24)
  have z : (w.alloc (.cells #[.bool s, .slice a l.length c, .int .i64 e] 24)).heap.size = w.heap.size + 1 := by simp
  rw [z] at X_r F_r
  clear z
  obtain ⟨kd0, kd1, kd2⟩ := X_d.out
  go_wp2_with fail
  clear kd0 kd1 kd2
  refine (HTk.out _ b1).mono ?_
  rintro r w2 ⟨xp, yp, rfl, ho, hc⟩
  have b2 := b1.trans (hc.mono b1.size)
  replace F_d := Qf.below F_d (Qx.lt X_d) hc
  replace X_d := Qx.below X_d hc
  replace F_r := Qf.below F_r (Qx.lt X_r) hc
  replace X_r := Qx.below X_r hc
  clear hc b1
  have R_p := Lib.hid ho
  clear ho
  clear X_d F_d
  by_cases h0 : A.err = 0
  · have g1 : ((A.err : Int) != 0) = false := by simp [h0]
    have hR := HR.out
    rw [if_pos h0] at hR
    subst hR
    clear h0 HR
    have z_p := b2.size
    have hd := (Below.refl w2.heap.size w2).alloc (Nat.le_refl _) (.cells #[.bool false, .slice xp (dg 10 A.p.m).length yp, .int .i64 A.p.e] 53)
    have b3 := b2.trans (hd.mono b2.size)
    have l_r_p := Qx.lt X_r
    have m_r_p := not_eq_lt l_r_p
    have m_p_r := not_eq_gt l_r_p
    clear l_r_p
    replace F_r := Qf.below F_r (Qx.lt X_r) hd
    replace X_r := Qx.below X_r hd
    replace R_p := Lib.hid (R_p.out.below hd)
    have X_p := Qx.new w2 (.bool false) (.slice xp (dg 10 A.p.m).length yp) (.int .i64 A.p.e) 53
    have F_p := Qf.new w2 (.bool false) (.slice xp (dg 10 A.p.m).length yp) (.int .i64 A.p.e) 53
    clear hd b2
    obtain ⟨kp0, kp1, kp2⟩ := X_p.out
    go_wp2_with fail
    clear kp0 kp1 kp2
    refine (HV.out _ _ _ R_p.out).mono ?_
    rintro r w4 ⟨xq, yq, rfl, ho, hc⟩
    have b4 := b3.trans (hc.mono b3.size)
    replace F_r := Qf.below F_r (Qx.lt X_r) hc
    replace X_r := Qx.below X_r hc
    replace F_p := Qf.below F_p (Qx.lt X_p) hc
    replace X_p := Qx.below X_p hc
    replace R_p := Lib.hid (R_p.out.below hc)
    clear hc b3
    clear X_p F_p
    clear R_p
    have R_q := Lib.hid ho
    clear ho
    obtain ⟨kr0, kr1, kr2⟩ := X_r.out
    have kf_r := F_r.out
    unfold Qf at kf_r
    go_wp2
    refine bodyPost_ret (v := .tuple #[.agg #[.bool SP.neg, .slice xq (dg 1000000000 SP.m).length yq, .int .i64 SP.e], .int .i64 0]) (by simp [results, Tryz.results22, go_sem, kr0, kr1, kr2]) rfl ?_
    exact ⟨xq, yq, rfl, Rd.box R_q.out X_r (by decide) _ _ _, (Below.box b4 (g := w.heap.size + 1) (by omega) _ _ _)⟩
  · have g1 : ((A.err : Int) != 0) = true := by simp [h0]
    have hR := HR.out
    rw [if_neg h0] at hR
    have HR2 := Lib.hid hR
    clear h0 HR hR
    have z_p := b2.size
    have hd := (Below.refl w2.heap.size w2).alloc (Nat.le_refl _) (.cells #[.bool A.p.neg, .slice xp (dg 10 A.p.m).length yp, .int .i64 A.p.e] 53)
    have b3 := b2.trans (hd.mono b2.size)
    have l_r_p := Qx.lt X_r
    have m_r_p := not_eq_lt l_r_p
    have m_p_r := not_eq_gt l_r_p
    clear l_r_p
    replace F_r := Qf.below F_r (Qx.lt X_r) hd
    replace X_r := Qx.below X_r hd
    replace R_p := Lib.hid (R_p.out.below hd)
    have X_p := Qx.new w2 (.bool A.p.neg) (.slice xp (dg 10 A.p.m).length yp) (.int .i64 A.p.e) 53
    have F_p := Qf.new w2 (.bool A.p.neg) (.slice xp (dg 10 A.p.m).length yp) (.int .i64 A.p.e) 53
    clear hd b2
    obtain ⟨kr0, kr1, kr2⟩ := X_r.out
    have kf_r := F_r.out
    unfold Qf at kf_r
    go_wp2
    refine bodyPost_ret (v := .tuple #[.agg #[.bool false, .slice none 0 0, .int .i64 0], .int .i64 (A.err : Nat)]) (by simp [results, Tryz.results22, go_sem, kr0, kr1, kr2]) rfl ?_
    exact resY_err HR2.out (Below.box b3 (g := w.heap.size + 1) (by omega) _ _ _)
set_option maxHeartbeats 8000000 in
set_option maxRecDepth 20000 in
theorem RWhole_any (s : Bool) (a : Option Addr) (c : Nat) (l : List Nat) (e : Int) (w : World) (hl : l.length ≤ 9223372036854775807) (hlo : Lo 4294967296 l) (hrd : Rd w .u32 a l) :
    Calls Tryz.prog 26 #[.agg #[.bool s, .slice a l.length c, .int .i64 e]] w fun r w' => r = .returned (.bool (decide ((normA l.length s (vl 1000000000 l) e).err = 0) && decide (0 ≤ (normA l.length s (vl 1000000000 l) e).p.e))) ∧ Below w.heap.size w w' := by
  have hT := fun W hb => Take_any s a c l e W hl hlo (hrd.below' (w' := W) hb (Nat.le_refl _))
  have hin := normA_in l.length s (vl 1000000000 l) e
  have hpl := normA_plain l.length s (vl 1000000000 l) e
  generalize normA l.length s (vl 1000000000 l) e = A at *
  have HTk := Lib.hid hT
  clear hT hrd hlo hin hpl
  by_cases h0 : A.err = 0
  · have g1 : ((A.err : Int) == 0) = true := by simp [h0]
    rw [decide_eq_true h0, Bool.true_and]
    clear h0
    go_enter Tryz.func26, Tryz.ntmps26
    have b1 := ((Below.refl w.heap.size w).alloc (Nat.le_refl _) (.cells #[.bool s, .slice a l.length c, .int .i64 e] 24))
    have X_d := (Qx.new w (.bool s) (.slice a l.length c) (.int .i64 e) 24)
    have F_d := (Qf.new w (.bool s) (.slice a l.length c) (.int .i64 e) 24)
    obtain ⟨kd0, kd1, kd2⟩ := X_d.out
    go_wp2_with fail
    clear kd0 kd1 kd2
    refine (HTk.out _ b1).mono ?_
    rintro r w2 ⟨xp, yp, rfl, ho, hc⟩
    have b2 := b1.trans (hc.mono b1.size)
    replace F_d := Qf.below F_d (Qx.lt X_d) hc
    replace X_d := Qx.below X_d hc
    clear hc b1
    have R_p := Lib.hid ho
    clear ho
    clear X_d F_d
    have z_p := b2.size
    have hd := (Below.refl w2.heap.size w2).alloc (Nat.le_refl _) (.cells #[.bool A.p.neg, .slice xp (dg 10 A.p.m).length yp, .int .i64 A.p.e] 53)
    have b3 := b2.trans (hd.mono b2.size)
    replace R_p := Lib.hid (R_p.out.below hd)
    have X_p := Qx.new w2 (.bool A.p.neg) (.slice xp (dg 10 A.p.m).length yp) (.int .i64 A.p.e) 53
    have F_p := Qf.new w2 (.bool A.p.neg) (.slice xp (dg 10 A.p.m).length yp) (.int .i64 A.p.e) 53
    clear hd b2
    obtain ⟨kp0, kp1, kp2⟩ := X_p.out
    have B_ := Lib.hid b3
    clear b3
    go_wp2
    go_ret
    exact ⟨rfl, B_.out⟩
  · have g1 : ((A.err : Int) == 0) = false := by rw [beq_eq_false_iff_ne]; omega
    rw [decide_eq_false h0, Bool.false_and]
    clear h0
    go_enter Tryz.func26, Tryz.ntmps26
    have b1 := ((Below.refl w.heap.size w).alloc (Nat.le_refl _) (.cells #[.bool s, .slice a l.length c, .int .i64 e] 24))
    have X_d := (Qx.new w (.bool s) (.slice a l.length c) (.int .i64 e) 24)
    have F_d := (Qf.new w (.bool s) (.slice a l.length c) (.int .i64 e) 24)
    obtain ⟨kd0, kd1, kd2⟩ := X_d.out
    go_wp2_with fail
    clear kd0 kd1 kd2
    refine (HTk.out _ b1).mono ?_
    rintro r w2 ⟨xp, yp, rfl, ho, hc⟩
    have b2 := b1.trans (hc.mono b1.size)
    replace F_d := Qf.below F_d (Qx.lt X_d) hc
    replace X_d := Qx.below X_d hc
    clear hc b1
    have R_p := Lib.hid ho
    clear ho
    clear X_d F_d
    have z_p := b2.size
    have hd := (Below.refl w2.heap.size w2).alloc (Nat.le_refl _) (.cells #[.bool A.p.neg, .slice xp (dg 10 A.p.m).length yp, .int .i64 A.p.e] 53)
    have b3 := b2.trans (hd.mono b2.size)
    replace R_p := Lib.hid (R_p.out.below hd)
    have X_p := Qx.new w2 (.bool A.p.neg) (.slice xp (dg 10 A.p.m).length yp) (.int .i64 A.p.e) 53
    have F_p := Qf.new w2 (.bool A.p.neg) (.slice xp (dg 10 A.p.m).length yp) (.int .i64 A.p.e) 53
    clear hd b2
    obtain ⟨kp0, kp1, kp2⟩ := X_p.out
    have B_ := Lib.hid b3
    clear b3
    go_wp2
    go_ret
    exact ⟨rfl, B_.out⟩
end Go.Proofs.YtimfpgpomafflaaGreatDoor
