/- quot: Int. -/
import Derived.Test.YtimfpgpomafflaaGreatDoorQuotI
import Derived.Test.YtimfpgpomafflaaGreatDoorQuotJ
namespace Go.Proofs.YtimfpgpomafflaaGreatDoor
open Go.RowKit LM

attribute [local go_sem] Oper.semAt_some

/-- what Int tells -/
def intB (A : Ans) : Int × Nat := if A.err ≠ 0 then (0, A.err) else if A.p.e < 0 then (0, 9) else if 9007199254740992 < whV A.p then (0, 3) else (if A.p.neg = true then -(whV A.p : Int) else (whV A.p : Int), 0)
def ResI (x : Int × Nat) (w : World) (r : Ending) (w' : World) : Prop := r = .returned (.tuple #[.int .i64 x.1, .int .i64 (x.2 : Nat)]) ∧ Below w.heap.size w w'
def ResOf (v : Nat) (w : World) (r : Ending) (w' : World) : Prop := ∃ a c, r = .returned (.slice a (dg 1000000000 v).length c) ∧ Rd w' .u32 a (dg 1000000000 v) ∧ Below w.heap.size w w'
theorem Of_res (W : World) : Calls Tryz.prog 53 #[.int .u64 9007199254740992] W (ResOf 9007199254740992 W) := (Of_any 9007199254740992 W (by omega)).mono fun e w' ⟨a, c, h1, h2, h3⟩ => ⟨a, c, h1, h2.rd, h3⟩
theorem dl_53 : dl 9007199254740992 = 16 := by
  have h1 : dl 9007199254740992 ≤ 16 := dl_lt (by decide)
  have h2 : 15 < dl 9007199254740992 := by
    rcases Nat.lt_or_ge 15 (dl 9007199254740992) with h | h
    · exact h
    · have h3 := lt_dl 9007199254740992
      have h4 : 10 ^ dl 9007199254740992 ≤ 10 ^ 15 := Nat.pow_le_pow_right (by omega) h
      omega
  omega
theorem whV_big {p : Pl} (hp : PlainP p) (h : 16 ≤ hd p) (he : 0 ≤ p.e) : 9007199254740992 < whV p := by
  have h0 : 0 < p.m := by
    rcases Nat.eq_zero_or_pos p.m with h0 | h0
    · exfalso
      have hz := zp_of hp h0
      rw [hz] at h
      unfold hd dl zP at h
      rw [dg_zero] at h
      simp at h
    · exact h0
  have h1 : 10 ^ (dl p.m - 1) ≤ p.m := dg_lower (b := 10) (by omega) p.m h0
  have h2 : 1 ≤ dl p.m := by unfold dl; rw [dg_pos (by omega) h0]; simp
  have h3 : 10 ^ (dl p.m - 1) * 10 ^ p.e.toNat ≤ whV p := Nat.mul_le_mul_right _ h1
  rw [← Nat.pow_add] at h3
  have h4 : 10 ^ 16 ≤ 10 ^ (dl p.m - 1 + p.e.toNat) := Nat.pow_le_pow_right (by omega) (by unfold hd at h; omega)
  omega
def sumB (pre : List (Nat × U32)) : Int := pre.foldl (fun s p => wrap64 (wrap64 (s * 1000000000) + ((p.2.1 : Nat) : Int))) 0
theorem sumB_snoc (pre : List (Nat × U32)) (x : Nat × U32) : sumB (pre ++ [x]) = wrap64 (wrap64 (sumB pre * 1000000000) + ((x.2.1 : Nat) : Int)) := by simp [sumB]
theorem vl_drop_le {l : List Nat} : ∀ k, vl 1000000000 (l.drop k) ≤ vl 1000000000 l := by
  intro k
  induction k generalizing l with
  | zero => exact Nat.le_refl _
  | succ k ih =>
    cases l with
    | nil => exact Nat.le_refl _
    | cons x l => have := ih (l := l); simp only [List.drop_succ_cons, vl]; omega
theorem sum_back {l : List Nat} (hz : ∀ j : Nat, l[j]?.getD 0 < 4294967296) (h : vl 1000000000 l ≤ 9007199254740992) : ∀ k, k ≤ l.length → sumB (upto (bkf l hz) k) = (vl 1000000000 (l.drop (l.length - k)) : Nat) := by
  intro k
  induction k with
  | zero => intro _; rw [Nat.sub_zero, List.drop_length]; rfl
  | succ k ih =>
    intro hk
    rw [upto_succ, sumB_snoc, ih (by omega)]
    have e1 : (bkf l hz k).2.1 = l[l.length - 1 - k]?.getD 0 := rfl
    have h2 := vl_drop_step (X := l) (k := l.length - (k + 1)) (by omega)
    rw [show l.length - (k + 1) + 1 = l.length - k by omega] at h2
    have h3 := vl_drop_le (l := l) (l.length - (k + 1))
    rw [e1, show l.length - 1 - k = l.length - (k + 1) by omega]
    have h4 := hz (l.length - (k + 1))
    generalize vl 1000000000 (l.drop (l.length - k)) = x at *
    generalize vl 1000000000 (l.drop (l.length - (k + 1))) = y at *
    generalize l[l.length - (k + 1)]?.getD 0 = d at *
    have i1 : wrap64 ((x : Int) * 1000000000) = (x : Int) * 1000000000 := by unfold wrap64; omega
    rw [i1]
    unfold wrap64
    omega
theorem sum_all {v : Nat} (hv : v ≤ 9007199254740992) (hz : ∀ j : Nat, (dg 1000000000 v)[j]?.getD 0 < 4294967296) : sumB (upto (bkf (dg 1000000000 v) hz) (dg 1000000000 v).length) = (v : Nat) := by
  have h1 : vl 1000000000 (dg 1000000000 v) = v := vl_dg (by omega) v
  rw [sum_back hz (by omega) _ (Nat.le_refl _), Nat.sub_self, List.drop_zero, h1]
set_option maxHeartbeats 16000000 in
set_option maxRecDepth 20000 in
theorem Int_err (s : Bool) (a : Option Addr) (c : Nat) (l : List Nat) (e : Int) (w : World) (hl : l.length ≤ 9223372036854775807) (hlo : Lo 4294967296 l) (hrd : Rd w .u32 a l) (htab : Tab w) (h0 : ¬ (normA l.length s (vl 1000000000 l) e).err = 0) :
    Calls Tryz.prog 23 #[.agg #[.bool s, .slice a l.length c, .int .i64 e]] w (ResI (intB (normA l.length s (vl 1000000000 l) e)) w) := by
  have hN := fun W hb => DNorm_any s a c l e W hl hlo (hrd.below' (w' := W) hb (Nat.le_refl _)) (htab.below hb)
  have hiA := normA_in l.length s (vl 1000000000 l) e
  have hpA := normA_plain l.length s (vl 1000000000 l) e
  generalize normA l.length s (vl 1000000000 l) e = A at *
  have hO := Of_res
  have hdm := dl_53
  have h9m : (dg 1000000000 9007199254740992).length ≤ 16 := by have := dg_len_9 9007199254740992; unfold dl at hdm; omega
  obtain ⟨mo, hmo⟩ : ∃ mo : Nat, mo = 9007199254740992 := ⟨_, rfl⟩
  rw [← hmo] at hdm h9m
  have hO : ∀ W, Calls Tryz.prog 53 #[.int .u64 9007199254740992] W (ResOf mo W) := fun W => by rw [hmo]; exact Of_res W
  have HN := Lib.hid hN; have HO := Lib.hid hO; have HT := Lib.hid htab; have HIA := Lib.hid hiA; have HPA := Lib.hid hpA; have HMO := Lib.hid hmo; have HDM := Lib.hid hdm; have H9M := Lib.hid h9m
  clear hN hO htab hrd hlo hiA hpA hmo hdm h9m
  obtain ⟨R, hRr⟩ : ∃ R, R = intB A := ⟨_, rfl⟩
  rw [← hRr]
  have HR := Lib.hid hRr
  clear hRr
  have hR := HR.out
  unfold intB at hR
  rw [if_pos h0] at hR
  clear HR
  have HR := Lib.hid hR
  have t0 : ((A.err : Int) != 0) = true := by simp [h0]
  clear hR h0
  go_enter Tryz.func23, Tryz.ntmps23
  have b1 := ((Below.refl w.heap.size w).alloc (Nat.le_refl _) (.cells #[.bool s, .slice a l.length c, .int .i64 e] 24))
  have X_d := (Qx.new w (.bool s) (.slice a l.length c) (.int .i64 e) 24)
  have F_d := (Qf.new w (.bool s) (.slice a l.length c) (.int .i64 e) 24)
  obtain ⟨kd0, kd1, kd2⟩ := X_d.out
  go_wp2_with fail
  clear kd0 kd1 kd2
  refine (HN.out _ b1).mono ?_
  rintro r w2 ⟨xp, yp, rfl, ho, hc⟩
  have b2 := b1.trans (hc.mono b1.size)
  replace F_d := Qf.below F_d (Qx.lt X_d) hc
  replace X_d := Qx.below X_d hc
  clear hc b1
  have R_p := Lib.hid ho.rd
  clear ho
  clear X_d F_d
  have z_p := b2.size
  have hd := (Below.refl w2.heap.size w2).alloc (Nat.le_refl _) (.cells #[.bool A.p.neg, .slice xp (dg 1000000000 A.p.m).length yp, .int .i64 A.p.e] 24)
  have b3 := b2.trans (hd.mono b2.size)
  replace R_p := Lib.hid (R_p.out.below hd)
  have X_p := Qx.new w2 (.bool A.p.neg) (.slice xp (dg 1000000000 A.p.m).length yp) (.int .i64 A.p.e) 24
  have F_p := Qf.new w2 (.bool A.p.neg) (.slice xp (dg 1000000000 A.p.m).length yp) (.int .i64 A.p.e) 24
  clear hd b2
  go_wp2_with fail
  refine (HO.out _).mono ?_
  rintro r w4 ⟨xo, yo, rfl, ho, hc⟩
  have b4 := b3.trans (hc.mono b3.size)
  replace F_p := Qf.below F_p (Qx.lt X_p) hc
  replace X_p := Qx.below X_p hc
  replace R_p := Lib.hid (R_p.out.below hc)
  clear hc b3
  have R_o := Lib.hid ho
  clear ho
  go_wp2
  refine bodyPost_ret (v := .tuple #[.int .i64 0, .int .i64 (A.err : Nat)]) (by simp [results, Tryz.results23, go_sem]) rfl ?_
  exact ⟨by first | (rw [HR.out]; done) | (rw [HR.out]; rfl), b4⟩
set_option maxHeartbeats 16000000 in
set_option maxRecDepth 20000 in
theorem Int_part (s : Bool) (a : Option Addr) (c : Nat) (l : List Nat) (e : Int) (w : World) (hl : l.length ≤ 9223372036854775807) (hlo : Lo 4294967296 l) (hrd : Rd w .u32 a l) (htab : Tab w) (h0 : (normA l.length s (vl 1000000000 l) e).err = 0) (h1 : (normA l.length s (vl 1000000000 l) e).p.e < 0) :
    Calls Tryz.prog 23 #[.agg #[.bool s, .slice a l.length c, .int .i64 e]] w (ResI (intB (normA l.length s (vl 1000000000 l) e)) w) := by
  have hN := fun W hb => DNorm_any s a c l e W hl hlo (hrd.below' (w' := W) hb (Nat.le_refl _)) (htab.below hb)
  have hiA := normA_in l.length s (vl 1000000000 l) e
  have hpA := normA_plain l.length s (vl 1000000000 l) e
  generalize normA l.length s (vl 1000000000 l) e = A at *
  have hO := Of_res
  have hdm := dl_53
  have h9m : (dg 1000000000 9007199254740992).length ≤ 16 := by have := dg_len_9 9007199254740992; unfold dl at hdm; omega
  obtain ⟨mo, hmo⟩ : ∃ mo : Nat, mo = 9007199254740992 := ⟨_, rfl⟩
  rw [← hmo] at hdm h9m
  have hO : ∀ W, Calls Tryz.prog 53 #[.int .u64 9007199254740992] W (ResOf mo W) := fun W => by rw [hmo]; exact Of_res W
  have HN := Lib.hid hN; have HO := Lib.hid hO; have HT := Lib.hid htab; have HIA := Lib.hid hiA; have HPA := Lib.hid hpA; have HMO := Lib.hid hmo; have HDM := Lib.hid hdm; have H9M := Lib.hid h9m
  clear hN hO htab hrd hlo hiA hpA hmo hdm h9m
  obtain ⟨R, hRr⟩ : ∃ R, R = intB A := ⟨_, rfl⟩
  rw [← hRr]
  have HR := Lib.hid hRr
  clear hRr
  have hR := HR.out
  unfold intB at hR
  rw [if_neg (by omega), if_pos h1] at hR
  clear HR
  have HR := Lib.hid hR
  have t0 : ((A.err : Int) != 0) = false := by simp [h0]
  have hW := fun x y W => isWhole_any A.p.neg x (dg 1000000000 A.p.m).length y A.p.e W
  rw [show decide (0 ≤ A.p.e) = false from decide_eq_false (by omega)] at hW
  have HW := Lib.hid hW
  clear hR h0 h1 hW
  go_enter Tryz.func23, Tryz.ntmps23
  have b1 := ((Below.refl w.heap.size w).alloc (Nat.le_refl _) (.cells #[.bool s, .slice a l.length c, .int .i64 e] 24))
  have X_d := (Qx.new w (.bool s) (.slice a l.length c) (.int .i64 e) 24)
  have F_d := (Qf.new w (.bool s) (.slice a l.length c) (.int .i64 e) 24)
  obtain ⟨kd0, kd1, kd2⟩ := X_d.out
  go_wp2_with fail
  clear kd0 kd1 kd2
  refine (HN.out _ b1).mono ?_
  rintro r w2 ⟨xp, yp, rfl, ho, hc⟩
  have b2 := b1.trans (hc.mono b1.size)
  replace F_d := Qf.below F_d (Qx.lt X_d) hc
  replace X_d := Qx.below X_d hc
  clear hc b1
  have R_p := Lib.hid ho.rd
  clear ho
  clear X_d F_d
  have z_p := b2.size
  have hd := (Below.refl w2.heap.size w2).alloc (Nat.le_refl _) (.cells #[.bool A.p.neg, .slice xp (dg 1000000000 A.p.m).length yp, .int .i64 A.p.e] 24)
  have b3 := b2.trans (hd.mono b2.size)
  replace R_p := Lib.hid (R_p.out.below hd)
  have X_p := Qx.new w2 (.bool A.p.neg) (.slice xp (dg 1000000000 A.p.m).length yp) (.int .i64 A.p.e) 24
  have F_p := Qf.new w2 (.bool A.p.neg) (.slice xp (dg 1000000000 A.p.m).length yp) (.int .i64 A.p.e) 24
  clear hd b2
  go_wp2_with fail
  refine (HO.out _).mono ?_
  rintro r w4 ⟨xo, yo, rfl, ho, hc⟩
  have b4 := b3.trans (hc.mono b3.size)
  replace F_p := Qf.below F_p (Qx.lt X_p) hc
  replace X_p := Qx.below X_p hc
  replace R_p := Lib.hid (R_p.out.below hc)
  clear hc b3
  have R_o := Lib.hid ho
  clear ho
  obtain ⟨kp0, kp1, kp2⟩ := X_p.out
  go_wp2_with fail
  clear kp0 kp1 kp2
  refine (HW.out _ _ _).mono ?_
  rintro r w5 ⟨rfl, hc⟩
  have b5 := b4.trans (hc.mono b4.size)
  replace F_p := Qf.below F_p (Qx.lt X_p) hc
  replace X_p := Qx.below X_p hc
  replace R_p := Lib.hid (R_p.out.below hc)
  replace R_o := Lib.hid (R_o.out.below hc)
  clear hc b4
  go_wp2
  refine bodyPost_ret (v := .tuple #[.int .i64 0, .int .i64 9]) (by simp [results, Tryz.results23, go_sem]) rfl ?_
  exact ⟨by first | (rw [HR.out]; done) | (rw [HR.out]; rfl), b5⟩
set_option maxHeartbeats 16000000 in
set_option maxRecDepth 20000 in
theorem Int_head (s : Bool) (a : Option Addr) (c : Nat) (l : List Nat) (e : Int) (w : World) (hl : l.length ≤ 9223372036854775807) (hlo : Lo 4294967296 l) (hrd : Rd w .u32 a l) (htab : Tab w) (h0 : (normA l.length s (vl 1000000000 l) e).err = 0) (h1 : ¬ (normA l.length s (vl 1000000000 l) e).p.e < 0) (h2 : 16 ≤ hd (normA l.length s (vl 1000000000 l) e).p) :
    Calls Tryz.prog 23 #[.agg #[.bool s, .slice a l.length c, .int .i64 e]] w (ResI (intB (normA l.length s (vl 1000000000 l) e)) w) := by
  have hN := fun W hb => DNorm_any s a c l e W hl hlo (hrd.below' (w' := W) hb (Nat.le_refl _)) (htab.below hb)
  have hiA := normA_in l.length s (vl 1000000000 l) e
  have hpA := normA_plain l.length s (vl 1000000000 l) e
  generalize normA l.length s (vl 1000000000 l) e = A at *
  have hO := Of_res
  have hdm := dl_53
  have h9m : (dg 1000000000 9007199254740992).length ≤ 16 := by have := dg_len_9 9007199254740992; unfold dl at hdm; omega
  obtain ⟨mo, hmo⟩ : ∃ mo : Nat, mo = 9007199254740992 := ⟨_, rfl⟩
  rw [← hmo] at hdm h9m
  have hO : ∀ W, Calls Tryz.prog 53 #[.int .u64 9007199254740992] W (ResOf mo W) := fun W => by rw [hmo]; exact Of_res W
  have HN := Lib.hid hN; have HO := Lib.hid hO; have HT := Lib.hid htab; have HIA := Lib.hid hiA; have HPA := Lib.hid hpA; have HMO := Lib.hid hmo; have HDM := Lib.hid hdm; have H9M := Lib.hid h9m
  clear hN hO htab hrd hlo hiA hpA hmo hdm h9m
  obtain ⟨R, hRr⟩ : ∃ R, R = intB A := ⟨_, rfl⟩
  rw [← hRr]
  have HR := Lib.hid hRr
  clear hRr
  have hR := HR.out
  unfold intB at hR
  rw [if_neg (by omega), if_neg h1, if_pos (whV_big HPA.out h2 (by omega))] at hR
  clear HR
  have HR := Lib.hid hR
  clear hR
  have t0 : ((A.err : Int) != 0) = false := by simp [h0]
  have hW := fun x y W => isWhole_any A.p.neg x (dg 1000000000 A.p.m).length y A.p.e W
  rw [show decide (0 ≤ A.p.e) = true from decide_eq_true (by omega)] at hW
  have hH := fun x y W hr ht => head_any A.p HIA.out x y W hr ht
  have hDm := fun x y W hr ht => digits9 mo x y W (by have := H9M.out; omega) hr ht
  rw [HDM.out] at hDm
  generalize hHh : hd A.p = H at *
  have HW := Lib.hid hW; have HH := Lib.hid hH; have HD := Lib.hid hDm; have HHh := Lib.hid hHh
  clear hW hH hDm hHh
  clear h0 h1
  go_enter Tryz.func23, Tryz.ntmps23
  have b1 := ((Below.refl w.heap.size w).alloc (Nat.le_refl _) (.cells #[.bool s, .slice a l.length c, .int .i64 e] 24))
  have X_d := (Qx.new w (.bool s) (.slice a l.length c) (.int .i64 e) 24)
  have F_d := (Qf.new w (.bool s) (.slice a l.length c) (.int .i64 e) 24)
  obtain ⟨kd0, kd1, kd2⟩ := X_d.out
  go_wp2_with fail
  clear kd0 kd1 kd2
  refine (HN.out _ b1).mono ?_
  rintro r w2 ⟨xp, yp, rfl, ho, hc⟩
  have b2 := b1.trans (hc.mono b1.size)
  replace F_d := Qf.below F_d (Qx.lt X_d) hc
  replace X_d := Qx.below X_d hc
  clear hc b1
  have R_p := Lib.hid ho.rd
  clear ho
  clear X_d F_d
  have z_p := b2.size
  have hd := (Below.refl w2.heap.size w2).alloc (Nat.le_refl _) (.cells #[.bool A.p.neg, .slice xp (dg 1000000000 A.p.m).length yp, .int .i64 A.p.e] 24)
  have b3 := b2.trans (hd.mono b2.size)
  replace R_p := Lib.hid (R_p.out.below hd)
  have X_p := Qx.new w2 (.bool A.p.neg) (.slice xp (dg 1000000000 A.p.m).length yp) (.int .i64 A.p.e) 24
  have F_p := Qf.new w2 (.bool A.p.neg) (.slice xp (dg 1000000000 A.p.m).length yp) (.int .i64 A.p.e) 24
  clear hd b2
  go_wp2_with fail
  refine (HO.out _).mono ?_
  rintro r w4 ⟨xo, yo, rfl, ho, hc⟩
  have b4 := b3.trans (hc.mono b3.size)
  replace F_p := Qf.below F_p (Qx.lt X_p) hc
  replace X_p := Qx.below X_p hc
  replace R_p := Lib.hid (R_p.out.below hc)
  clear hc b3
  have R_o := Lib.hid ho
  clear ho
  obtain ⟨kp0, kp1, kp2⟩ := X_p.out
  go_wp2_with fail
  clear kp0 kp1 kp2
  refine (HW.out _ _ _).mono ?_
  rintro r w5 ⟨rfl, hc⟩
  have b5 := b4.trans (hc.mono b4.size)
  replace F_p := Qf.below F_p (Qx.lt X_p) hc
  replace X_p := Qx.below X_p hc
  replace R_p := Lib.hid (R_p.out.below hc)
  replace R_o := Lib.hid (R_o.out.below hc)
  clear hc b4
  obtain ⟨kp0, kp1, kp2⟩ := X_p.out
  go_wp2_with fail
  clear kp0 kp1 kp2
  refine (HH.out _ _ _ R_p.out (HT.out.below b5)).mono ?_
  rintro r w6 ⟨rfl, hc⟩
  have b6 := b5.trans (hc.mono b5.size)
  replace F_p := Qf.below F_p (Qx.lt X_p) hc
  replace X_p := Qx.below X_p hc
  replace R_p := Lib.hid (R_p.out.below hc)
  replace R_o := Lib.hid (R_o.out.below hc)
  clear hc b5
  go_wp2_with fail
  refine (HD.out _ _ _ R_o.out (HT.out.below b6)).mono ?_
  rintro r w7 ⟨rfl, hc⟩
  have b7 := b6.trans (hc.mono b6.size)
  replace F_p := Qf.below F_p (Qx.lt X_p) hc
  replace X_p := Qx.below X_p hc
  replace R_p := Lib.hid (R_p.out.below hc)
  replace R_o := Lib.hid (R_o.out.below hc)
  clear hc b6
  go_wp2
  refine bodyPost_ret (v := .tuple #[.int .i64 0, .int .i64 3]) (by simp [results, Tryz.results23, go_sem]) rfl ?_
  exact ⟨by first | (rw [HR.out]; done) | (rw [HR.out]; rfl), b7⟩
set_option maxHeartbeats 16000000 in
set_option maxRecDepth 20000 in
theorem Int_more (s : Bool) (a : Option Addr) (c : Nat) (l : List Nat) (e : Int) (w : World) (hl : l.length ≤ 9223372036854775807) (hlo : Lo 4294967296 l) (hrd : Rd w .u32 a l) (htab : Tab w) (h0 : (normA l.length s (vl 1000000000 l) e).err = 0) (h1 : ¬ (normA l.length s (vl 1000000000 l) e).p.e < 0) (h2 : ¬ 16 ≤ hd (normA l.length s (vl 1000000000 l) e).p) (h3 : 9007199254740992 < whV (normA l.length s (vl 1000000000 l) e).p) :
    Calls Tryz.prog 23 #[.agg #[.bool s, .slice a l.length c, .int .i64 e]] w (ResI (intB (normA l.length s (vl 1000000000 l) e)) w) := by
  have hN := fun W hb => DNorm_any s a c l e W hl hlo (hrd.below' (w' := W) hb (Nat.le_refl _)) (htab.below hb)
  have hiA := normA_in l.length s (vl 1000000000 l) e
  have hpA := normA_plain l.length s (vl 1000000000 l) e
  generalize normA l.length s (vl 1000000000 l) e = A at *
  have hO := Of_res
  have hdm := dl_53
  have h9m : (dg 1000000000 9007199254740992).length ≤ 16 := by have := dg_len_9 9007199254740992; unfold dl at hdm; omega
  obtain ⟨mo, hmo⟩ : ∃ mo : Nat, mo = 9007199254740992 := ⟨_, rfl⟩
  rw [← hmo] at hdm h9m
  have hO : ∀ W, Calls Tryz.prog 53 #[.int .u64 9007199254740992] W (ResOf mo W) := fun W => by rw [hmo]; exact Of_res W
  have HN := Lib.hid hN; have HO := Lib.hid hO; have HT := Lib.hid htab; have HIA := Lib.hid hiA; have HPA := Lib.hid hpA; have HMO := Lib.hid hmo; have HDM := Lib.hid hdm; have H9M := Lib.hid h9m
  clear hN hO htab hrd hlo hiA hpA hmo hdm h9m
  obtain ⟨R, hRr⟩ : ∃ R, R = intB A := ⟨_, rfl⟩
  rw [← hRr]
  have HR := Lib.hid hRr
  clear hRr
  have hR := HR.out
  unfold intB at hR
  rw [if_neg (by omega), if_neg h1, if_pos h3] at hR
  clear HR
  have HR := Lib.hid hR
  clear hR
  have t0 : ((A.err : Int) != 0) = false := by simp [h0]
  have hW := fun x y W => isWhole_any A.p.neg x (dg 1000000000 A.p.m).length y A.p.e W
  rw [show decide (0 ≤ A.p.e) = true from decide_eq_true (by omega)] at hW
  have hH := fun x y W hr ht => head_any A.p HIA.out x y W hr ht
  have hDm := fun x y W hr ht => digits9 mo x y W (by have := H9M.out; omega) hr ht
  rw [HDM.out] at hDm
  generalize hHh : hd A.p = H at *
  have HW := Lib.hid hW; have HH := Lib.hid hH; have HD := Lib.hid hDm; have HHh := Lib.hid hHh
  clear hW hH hDm hHh
  obtain ⟨k, hk⟩ : ∃ k : Nat, k = A.p.e.toNat := ⟨_, rfl⟩
  have hf1 := whV_few HPA.out (by rw [HHh.out]; omega) (by omega)
  have hU := fun x y W hr => units_any A.p HIA.out k (by omega) (by omega) x y W hr
  have hV : A.p.m * 10 ^ k = whV A.p := by rw [hk]; rfl
  rw [hV] at hU
  have hv9 := dg9_few' (m := whV A.p) hf1.2
  have hC := fun x1 y1 x2 y2 W r1 r2 => cmp9 (whV A.p) mo x1 x2 y1 y2 W (by omega) (by have := H9M.out; omega) r1 r2
  have hgt : cmpN (whV A.p) mo = 1 := by unfold cmpN; rw [HMO.out, if_neg (by omega), if_pos (by omega)]
  rw [hgt] at hC
  generalize whV A.p = v at *
  have HU := Lib.hid hU; have HC := Lib.hid hC
  clear h0 h1 h3 hU hV hC hk hf1 hgt hv9
  go_enter Tryz.func23, Tryz.ntmps23
  have b1 := ((Below.refl w.heap.size w).alloc (Nat.le_refl _) (.cells #[.bool s, .slice a l.length c, .int .i64 e] 24))
  have X_d := (Qx.new w (.bool s) (.slice a l.length c) (.int .i64 e) 24)
  have F_d := (Qf.new w (.bool s) (.slice a l.length c) (.int .i64 e) 24)
  obtain ⟨kd0, kd1, kd2⟩ := X_d.out
  go_wp2_with fail
  clear kd0 kd1 kd2
  refine (HN.out _ b1).mono ?_
  rintro r w2 ⟨xp, yp, rfl, ho, hc⟩
  have b2 := b1.trans (hc.mono b1.size)
  replace F_d := Qf.below F_d (Qx.lt X_d) hc
  replace X_d := Qx.below X_d hc
  clear hc b1
  have R_p := Lib.hid ho.rd
  clear ho
  clear X_d F_d
  have z_p := b2.size
  have hd := (Below.refl w2.heap.size w2).alloc (Nat.le_refl _) (.cells #[.bool A.p.neg, .slice xp (dg 1000000000 A.p.m).length yp, .int .i64 A.p.e] 24)
  have b3 := b2.trans (hd.mono b2.size)
  replace R_p := Lib.hid (R_p.out.below hd)
  have X_p := Qx.new w2 (.bool A.p.neg) (.slice xp (dg 1000000000 A.p.m).length yp) (.int .i64 A.p.e) 24
  have F_p := Qf.new w2 (.bool A.p.neg) (.slice xp (dg 1000000000 A.p.m).length yp) (.int .i64 A.p.e) 24
  clear hd b2
  go_wp2_with fail
  refine (HO.out _).mono ?_
  rintro r w4 ⟨xo, yo, rfl, ho, hc⟩
  have b4 := b3.trans (hc.mono b3.size)
  replace F_p := Qf.below F_p (Qx.lt X_p) hc
  replace X_p := Qx.below X_p hc
  replace R_p := Lib.hid (R_p.out.below hc)
  clear hc b3
  have R_o := Lib.hid ho
  clear ho
  obtain ⟨kp0, kp1, kp2⟩ := X_p.out
  go_wp2_with fail
  clear kp0 kp1 kp2
  refine (HW.out _ _ _).mono ?_
  rintro r w5 ⟨rfl, hc⟩
  have b5 := b4.trans (hc.mono b4.size)
  replace F_p := Qf.below F_p (Qx.lt X_p) hc
  replace X_p := Qx.below X_p hc
  replace R_p := Lib.hid (R_p.out.below hc)
  replace R_o := Lib.hid (R_o.out.below hc)
  clear hc b4
  obtain ⟨kp0, kp1, kp2⟩ := X_p.out
  go_wp2_with fail
  clear kp0 kp1 kp2
  refine (HH.out _ _ _ R_p.out (HT.out.below b5)).mono ?_
  rintro r w6 ⟨rfl, hc⟩
  have b6 := b5.trans (hc.mono b5.size)
  replace F_p := Qf.below F_p (Qx.lt X_p) hc
  replace X_p := Qx.below X_p hc
  replace R_p := Lib.hid (R_p.out.below hc)
  replace R_o := Lib.hid (R_o.out.below hc)
  clear hc b5
  go_wp2_with fail
  refine (HD.out _ _ _ R_o.out (HT.out.below b6)).mono ?_
  rintro r w7 ⟨rfl, hc⟩
  have b7 := b6.trans (hc.mono b6.size)
  replace F_p := Qf.below F_p (Qx.lt X_p) hc
  replace X_p := Qx.below X_p hc
  replace R_p := Lib.hid (R_p.out.below hc)
  replace R_o := Lib.hid (R_o.out.below hc)
  clear hc b6
  obtain ⟨kp0, kp1, kp2⟩ := X_p.out
  go_wp2_with fail
  clear kp0 kp1 kp2
  refine (HU.out _ _ _ R_p.out).mono ?_
  rintro r w8 ⟨xu, yu, rfl, ho, hc⟩
  have b8 := b7.trans (hc.mono b7.size)
  replace F_p := Qf.below F_p (Qx.lt X_p) hc
  replace X_p := Qx.below X_p hc
  replace R_p := Lib.hid (R_p.out.below hc)
  replace R_o := Lib.hid (R_o.out.below hc)
  clear hc b7
  have R_u := Lib.hid ho
  clear ho
  go_wp2_with fail
  refine (HC.out _ _ _ _ _ R_u.out R_o.out).mono ?_
  rintro r w9 ⟨rfl, hc⟩
  have b9 := b8.trans (hc.mono b8.size)
  replace F_p := Qf.below F_p (Qx.lt X_p) hc
  replace X_p := Qx.below X_p hc
  replace R_p := Lib.hid (R_p.out.below hc)
  replace R_o := Lib.hid (R_o.out.below hc)
  replace R_u := Lib.hid (R_u.out.below hc)
  clear hc b8
  go_wp2
  refine bodyPost_ret (v := .tuple #[.int .i64 0, .int .i64 3]) (by simp [results, Tryz.results23, go_sem]) rfl ?_
  exact ⟨by first | (rw [HR.out]; done) | (rw [HR.out]; rfl), b9⟩
set_option maxHeartbeats 16000000 in
set_option maxRecDepth 20000 in
theorem Int_loop (s : Bool) (a : Option Addr) (c : Nat) (l : List Nat) (e : Int) (w : World) (hl : l.length ≤ 9223372036854775807) (hlo : Lo 4294967296 l) (hrd : Rd w .u32 a l) (htab : Tab w) (h0 : (normA l.length s (vl 1000000000 l) e).err = 0) (h1 : ¬ (normA l.length s (vl 1000000000 l) e).p.e < 0) (h2 : ¬ 16 ≤ hd (normA l.length s (vl 1000000000 l) e).p) (h3 : ¬ 9007199254740992 < whV (normA l.length s (vl 1000000000 l) e).p) :
    Calls Tryz.prog 23 #[.agg #[.bool s, .slice a l.length c, .int .i64 e]] w (ResI (intB (normA l.length s (vl 1000000000 l) e)) w) := by
  have hN := fun W hb => DNorm_any s a c l e W hl hlo (hrd.below' (w' := W) hb (Nat.le_refl _)) (htab.below hb)
  have hiA := normA_in l.length s (vl 1000000000 l) e
  have hpA := normA_plain l.length s (vl 1000000000 l) e
  generalize normA l.length s (vl 1000000000 l) e = A at *
  have hO := Of_res
  have hdm := dl_53
  have h9m : (dg 1000000000 9007199254740992).length ≤ 16 := by have := dg_len_9 9007199254740992; unfold dl at hdm; omega
  obtain ⟨mo, hmo⟩ : ∃ mo : Nat, mo = 9007199254740992 := ⟨_, rfl⟩
  rw [← hmo] at hdm h9m
  have hO : ∀ W, Calls Tryz.prog 53 #[.int .u64 9007199254740992] W (ResOf mo W) := fun W => by rw [hmo]; exact Of_res W
  have HN := Lib.hid hN; have HO := Lib.hid hO; have HT := Lib.hid htab; have HIA := Lib.hid hiA; have HPA := Lib.hid hpA; have HMO := Lib.hid hmo; have HDM := Lib.hid hdm; have H9M := Lib.hid h9m
  clear hN hO htab hrd hlo hiA hpA hmo hdm h9m
  obtain ⟨R, hRr⟩ : ∃ R, R = intB A := ⟨_, rfl⟩
  rw [← hRr]
  have HR := Lib.hid hRr
  clear hRr
  have hR := HR.out
  unfold intB at hR
  rw [if_neg (by omega), if_neg h1, if_neg h3] at hR
  clear HR
  have HR := Lib.hid hR
  clear hR
  have t0 : ((A.err : Int) != 0) = false := by simp [h0]
  have hW := fun x y W => isWhole_any A.p.neg x (dg 1000000000 A.p.m).length y A.p.e W
  rw [show decide (0 ≤ A.p.e) = true from decide_eq_true (by omega)] at hW
  have hH := fun x y W hr ht => head_any A.p HIA.out x y W hr ht
  have hDm := fun x y W hr ht => digits9 mo x y W (by have := H9M.out; omega) hr ht
  rw [HDM.out] at hDm
  generalize hHh : hd A.p = H at *
  have HW := Lib.hid hW; have HH := Lib.hid hH; have HD := Lib.hid hDm; have HHh := Lib.hid hHh
  clear hW hH hDm hHh
  obtain ⟨k, hk⟩ : ∃ k : Nat, k = A.p.e.toNat := ⟨_, rfl⟩
  have hf1 := whV_few HPA.out (by rw [HHh.out]; omega) (by omega)
  have hU := fun x y W hr => units_any A.p HIA.out k (by omega) (by omega) x y W hr
  have hV : A.p.m * 10 ^ k = whV A.p := by rw [hk]; rfl
  rw [hV] at hU
  have hv9 := dg9_few' (m := whV A.p) hf1.2
  have hC := fun x1 y1 x2 y2 W r1 r2 => cmp9 (whV A.p) mo x1 x2 y1 y2 W (by omega) (by have := H9M.out; omega) r1 r2
  have hle : ¬ cmpN (whV A.p) mo > 0 := by
    have hm := HMO.out
    unfold cmpN
    by_cases q1 : whV A.p < mo
    · rw [if_pos q1]; omega
    · rw [if_neg q1, if_neg (by omega)]; omega
  generalize cmpN (whV A.p) mo = cm at *
  have hz : ∀ j : Nat, (dg 1000000000 (whV A.p))[j]?.getD 0 < 4294967296 := fun j => Nat.lt_trans (Lo_get (Lo_dg (by omega) _) (by omega) j) (by omega)
  have hsum := sum_all (v := whV A.p) (by omega) hz
  generalize whV A.p = v at *
  have HU := Lib.hid hU; have HC := Lib.hid hC; have HSUM := Lib.hid hsum; have HV9 := Lib.hid hv9
  clear h0 h1 hU hV hC hk hf1 hsum hv9
  refine callsIn_wide.1 (callsIn_of_wp_marks (n := 3) Tryz.func23 rfl trivial ?_ rfl)
  refine wpIn_wide.2 ?_
  simp only [Tryz.ntmps23, List.size_toArray, List.length_cons, List.length_nil, Nat.reduceAdd, Nat.reduceSub, Array.replicate_succ, Array.replicate_zero, List.push_toArray, List.append_toArray, List.nil_append, List.cons_append]
  have b1 := ((Below.refl w.heap.size w).alloc (Nat.le_refl _) (.cells #[.bool s, .slice a l.length c, .int .i64 e] 24))
  have X_d := (Qx.new w (.bool s) (.slice a l.length c) (.int .i64 e) 24)
  have F_d := (Qf.new w (.bool s) (.slice a l.length c) (.int .i64 e) 24)
  obtain ⟨kd0, kd1, kd2⟩ := X_d.out
  go_wp2_with fail
  clear kd0 kd1 kd2
  refine (HN.out _ b1).mono ?_
  rintro r w2 ⟨xp, yp, rfl, ho, hc⟩
  have b2 := b1.trans (hc.mono b1.size)
  replace F_d := Qf.below F_d (Qx.lt X_d) hc
  replace X_d := Qx.below X_d hc
  clear hc b1
  have R_p := Lib.hid ho.rd
  clear ho
  clear X_d F_d
  have z_p := b2.size
  have hd := (Below.refl w2.heap.size w2).alloc (Nat.le_refl _) (.cells #[.bool A.p.neg, .slice xp (dg 1000000000 A.p.m).length yp, .int .i64 A.p.e] 24)
  have b3 := b2.trans (hd.mono b2.size)
  replace R_p := Lib.hid (R_p.out.below hd)
  have X_p := Qx.new w2 (.bool A.p.neg) (.slice xp (dg 1000000000 A.p.m).length yp) (.int .i64 A.p.e) 24
  have F_p := Qf.new w2 (.bool A.p.neg) (.slice xp (dg 1000000000 A.p.m).length yp) (.int .i64 A.p.e) 24
  clear hd b2
  go_wp2_with fail
  refine (HO.out _).mono ?_
  rintro r w4 ⟨xo, yo, rfl, ho, hc⟩
  have b4 := b3.trans (hc.mono b3.size)
  replace F_p := Qf.below F_p (Qx.lt X_p) hc
  replace X_p := Qx.below X_p hc
  replace R_p := Lib.hid (R_p.out.below hc)
  clear hc b3
  have R_o := Lib.hid ho
  clear ho
  obtain ⟨kp0, kp1, kp2⟩ := X_p.out
  go_wp2_with fail
  clear kp0 kp1 kp2
  refine (HW.out _ _ _).mono ?_
  rintro r w5 ⟨rfl, hc⟩
  have b5 := b4.trans (hc.mono b4.size)
  replace F_p := Qf.below F_p (Qx.lt X_p) hc
  replace X_p := Qx.below X_p hc
  replace R_p := Lib.hid (R_p.out.below hc)
  replace R_o := Lib.hid (R_o.out.below hc)
  clear hc b4
  obtain ⟨kp0, kp1, kp2⟩ := X_p.out
  go_wp2_with fail
  clear kp0 kp1 kp2
  refine (HH.out _ _ _ R_p.out (HT.out.below b5)).mono ?_
  rintro r w6 ⟨rfl, hc⟩
  have b6 := b5.trans (hc.mono b5.size)
  replace F_p := Qf.below F_p (Qx.lt X_p) hc
  replace X_p := Qx.below X_p hc
  replace R_p := Lib.hid (R_p.out.below hc)
  replace R_o := Lib.hid (R_o.out.below hc)
  clear hc b5
  go_wp2_with fail
  refine (HD.out _ _ _ R_o.out (HT.out.below b6)).mono ?_
  rintro r w7 ⟨rfl, hc⟩
  have b7 := b6.trans (hc.mono b6.size)
  replace F_p := Qf.below F_p (Qx.lt X_p) hc
  replace X_p := Qx.below X_p hc
  replace R_p := Lib.hid (R_p.out.below hc)
  replace R_o := Lib.hid (R_o.out.below hc)
  clear hc b6
  obtain ⟨kp0, kp1, kp2⟩ := X_p.out
  go_wp2_with fail
  clear kp0 kp1 kp2
  refine (HU.out _ _ _ R_p.out).mono ?_
  rintro r w8 ⟨xu, yu, rfl, ho, hc⟩
  have b8 := b7.trans (hc.mono b7.size)
  replace F_p := Qf.below F_p (Qx.lt X_p) hc
  replace X_p := Qx.below X_p hc
  replace R_p := Lib.hid (R_p.out.below hc)
  replace R_o := Lib.hid (R_o.out.below hc)
  clear hc b7
  have R_u := Lib.hid ho
  clear ho
  go_wp2_with fail
  refine (HC.out _ _ _ _ _ R_u.out R_o.out).mono ?_
  rintro r w9 ⟨rfl, hc⟩
  have b9 := b8.trans (hc.mono b8.size)
  replace F_p := Qf.below F_p (Qx.lt X_p) hc
  replace X_p := Qx.below X_p hc
  replace R_p := Lib.hid (R_p.out.below hc)
  replace R_o := Lib.hid (R_o.out.below hc)
  replace R_u := Lib.hid (R_u.out.below hc)
  clear hc b8
  have hd := (Below.refl w9.heap.size w9).alloc (Nat.le_refl _) (.cells #[.int .i64 0] 3)
  have l_p_n := Qx.lt X_p
  have m_p_n := not_eq_lt l_p_n
  have m_n_p := not_eq_gt l_p_n
  have z_n := b9.size
  have b80 := b9.trans (hd.mono b9.size)
  replace F_p := Qf.below F_p (Qx.lt X_p) hd
  replace X_p := Qx.below X_p hd
  replace R_p := Lib.hid (R_p.out.below hd)
  have C_n : Hid ((w9.alloc (.cells #[.int .i64 0] 3)).cell? ⟨w9.heap.size, 0, none⟩ = some (.int .i64 0)) := Lib.hid (by simp)
  have C_f : Hid ((w9.alloc (.cells #[.int .i64 0] 3)).frozen? ⟨w9.heap.size, 0, none⟩ = false) := Lib.hid (by simp)
  have C_a : Hid (∀ j, (w9.alloc (.cells #[.int .i64 0] 3)).cell? ⟨w9.heap.size, j, none⟩ = none ∨ ∃ x, (w9.alloc (.cells #[.int .i64 0] 3)).cell? ⟨w9.heap.size, j, none⟩ = some (.int .i64 x)) := Lib.hid fun j => by
    cases j with
    | zero => exact .inr ⟨0, by simp⟩
    | succ j => exact .inl (by simp)
  have l_N : w9.heap.size < (w9.alloc (.cells #[.int .i64 0] 3)).heap.size := by simp
  clear hd b9 R_o R_u
  obtain ⟨kp0, kp1, kp2⟩ := X_p.out
  go_wp2_with fail
  refine (HU.out _ _ _ R_p.out).mono ?_
  rintro r w81 ⟨xv, yv, rfl, ho, hc⟩
  clear kp0 kp1 kp2
  replace C_f : Hid (w81.frozen? ⟨w9.heap.size, 0, none⟩ = false) := Lib.hid (by rw [hc.frozen (p := ⟨w9.heap.size, 0, none⟩) (lt_of_cell C_n.out)]; exact C_f.out)
  replace C_n := Lib.hid (cellB C_n.out hc)
  replace C_a : Hid (∀ j, w81.cell? ⟨w9.heap.size, j, none⟩ = none ∨ ∃ x, w81.cell? ⟨w9.heap.size, j, none⟩ = some (.int .i64 x)) := Lib.hid fun j => by rw [hc.cell (p := ⟨w9.heap.size, j, none⟩) l_N]; exact C_a.out j
  replace X_p := Qx.below X_p hc
  have b81 := b80.trans (hc.mono b80.size)
  have R_v := Lib.hid ho
  clear hc ho b80 R_p F_p
  go_wp2_with fail
  refine (Backward_any xv _ yv _).mono ?_
  rintro r w82 ⟨rfl, rfl⟩
  go_wp2
  have l_N2 : w9.heap.size < w81.heap.size := lt_of_cell C_n.out
  have l_p2 : w2.heap.size < w81.heap.size := Qx.lt X_p
  have hb82 := (Below.refl w81.heap.size w81).alloc (Nat.le_refl _) (.cells #[.slice xv (dg 1000000000 v).length yv] 22)
  have b82 := b81.trans (hb82.mono b81.size)
  have R_w := R_v.out.below hb82
  have c_n := cellB C_n.out hb82
  have c_f : (w81.alloc (.cells #[.slice xv (dg 1000000000 v).length yv] 22)).frozen? ⟨w9.heap.size, 0, none⟩ = false := by rw [hb82.frozen (p := ⟨w9.heap.size, 0, none⟩) l_N2]; exact C_f.out
  have c_a : ∀ j, (w81.alloc (.cells #[.slice xv (dg 1000000000 v).length yv] 22)).cell? ⟨w9.heap.size, j, none⟩ = none ∨ ∃ x, (w81.alloc (.cells #[.slice xv (dg 1000000000 v).length yv] 22)).cell? ⟨w9.heap.size, j, none⟩ = some (.int .i64 x) := fun j => by rw [hb82.cell (p := ⟨w9.heap.size, j, none⟩) l_N2]; exact C_a.out j
  have c_s := cellB X_p.out.1 hb82
  have c_b : (w81.alloc (.cells #[.slice xv (dg 1000000000 v).length yv] 22)).cell? ⟨w81.heap.size, 0, none⟩ = some (.slice xv (dg 1000000000 v).length yv) := by simp
  have z81 := b81.size
  have z82 := b82.size
  refine (wpIn_wide (n := 3)).1 ?_
  refine wpIn_rangeFunc_ownG (n := 3) rfl (by omega) (gf := 90) (lb := #[.pointer (some ⟨w81.heap.size, 0, none⟩)]) rfl trivial (enters_of Tryz.func90 (by kernel_rfl) rfl)
    (back_stops Fence.wide 2 trivial rfl (by omega) w81.heap.size yv w9.heap.size xv (dg 1000000000 v) hz (by have := HV9.out; omega) _ c_b (by omega) R_w c_a) KpN.trans KpN.put (Below.refl _ _) (fun _ => rfl)
    (fun pre W => ((W.cell? ⟨w9.heap.size, 0, none⟩ = some (.int .i64 (sumB pre)) ∧ W.frozen? ⟨w9.heap.size, 0, none⟩ = false) ∧ W.cell? ⟨w2.heap.size, 0, none⟩ = some (.bool A.p.neg)) ∧ Below w.heap.size w W)
    (fun _ _ _ => False)
    (OwnFrom.and (Own.from (fun s A B row hs hg hr => ⟨⟨cell_kept hs.1.1 hg hr, (frozen_kept hs.1.1 hg hr).trans hs.1.2⟩, cell_kept hs.2 hg hr⟩) _) (ownFrom_below (Nat.le_refl _) z82))
    (fun _ _ _ _ _ hs _ _ => hs)
    ⟨⟨⟨c_n, c_f⟩, c_s⟩, b82⟩
    ?a1 ?assign ?body ?done ?stop
  case assign =>
    intro l x W K hK
    gi_wp2
    exact hK
  case body =>
    rintro l pre ⟨xi, xn, hx⟩ W ⟨⟨⟨hc, hf⟩, hs⟩, hB⟩ _
    gi_wp2
    refine ⟨(KeepsOthers.setCell _ _ _).from _, KpN.set _ _ _, ⟨⟨by rw [sumB_snoc]; exact World.cell?_setCell_same' _ _ _ (by rw [hc]; rfl), by rw [World.frozen?_setCell]; exact hf⟩, ?_⟩, hB.setCell (p := ⟨w9.heap.size, 0, none⟩) z_n _⟩
    rw [World.cell?_setCell_other]
    · exact hs
    · intro e
      exact m_n_p (by simpa using congrArg Addr.block e)
  case done =>
    rintro D ys W hD rfl ⟨⟨⟨hc, hf⟩, hs⟩, hB⟩ hK
    rw [HSUM.out] at hc
    have HRo := HR.out
    have hvv : (v : Int) ≤ 9007199254740992 := by omega
    cases hneg : A.p.neg with
    | false =>
      rw [hneg] at hs
      rw [if_neg (by rw [hneg]; decide)] at HRo
      clear HR hneg
      go_wp2
      refine ⟨by simp, .inl ⟨_, _, rfl, run_takeDeferred hK, ?_⟩⟩
      refine ⟨.tuple #[.int .i64 v, .int .i64 0], by simp [results, Tryz.results23, go_sem], ?_, hB.trans (belowK_b (w := w) (Nat.le_refl _) W D _ _ (by omega) hK rfl rfl)⟩
      rw [HRo]; rfl
    | true =>
      rw [hneg] at hs
      rw [if_pos hneg] at HRo
      clear HR hneg
      go_wp2
      have hK2 := (KeepsOthers.setCell W ⟨w9.heap.size, 0, none⟩ (.int .i64 (-(v : Int)))).same D _ hK rfl
      refine ⟨by simp, .inl ⟨_, _, rfl, run_takeDeferred hK2, ?_⟩⟩
      refine ⟨.tuple #[.int .i64 (-(v : Int)), .int .i64 0], by simp [results, Tryz.results23, go_sem], ?_, (hB.setCell (p := ⟨w9.heap.size, 0, none⟩) z_n _).trans (belowK_b (w := w) (Nat.le_refl _) _ D _ _ (by omega) hK2 rfl rfl)⟩
      rw [HRo]; rfl
  case stop =>
    rintro D c pre W _ _ h _
    exact h.elim

theorem Int_any (s : Bool) (a : Option Addr) (c : Nat) (l : List Nat) (e : Int) (w : World) (hl : l.length ≤ 9223372036854775807) (hlo : Lo 4294967296 l) (hrd : Rd w .u32 a l) (htab : Tab w) :
    Calls Tryz.prog 23 #[.agg #[.bool s, .slice a l.length c, .int .i64 e]] w (ResI (intB (normA l.length s (vl 1000000000 l) e)) w) := by
  by_cases h0 : (normA l.length s (vl 1000000000 l) e).err = 0
  · by_cases h1 : (normA l.length s (vl 1000000000 l) e).p.e < 0
    · exact Int_part s a c l e w hl hlo hrd htab h0 h1
    · by_cases h2 : 16 ≤ hd (normA l.length s (vl 1000000000 l) e).p
      · exact Int_head s a c l e w hl hlo hrd htab h0 h1 h2
      · by_cases h3 : 9007199254740992 < whV (normA l.length s (vl 1000000000 l) e).p
        · exact Int_more s a c l e w hl hlo hrd htab h0 h1 h2 h3
        · exact Int_loop s a c l e w hl hlo hrd htab h0 h1 h2 h3
  · exact Int_err s a c l e w hl hlo hrd htab h0
end Go.Proofs.YtimfpgpomafflaaGreatDoor
