/- The document's Int. -/
import Derived.Test.YtimfpgpomafflaaGreatDoorQuotR
import Derived.Test.YtimfpgpomafflaaGreatDoorQuotK
namespace Go.Proofs.YtimfpgpomafflaaGreatDoor
open Go.RowKit LM

theorem vl10_drop {X : List Nat} {k : Nat} (h : k < X.length) : vl 10 (X.drop k) = X[k]?.getD 0 + 10 * vl 10 (X.drop (k + 1)) := by
  rw [drop_cons h]; rfl
theorem vl10_drop_le {l : List Nat} : ∀ k, vl 10 (l.drop k) ≤ vl 10 l := by
  intro k
  induction k generalizing l with
  | zero => exact Nat.le_refl _
  | succ k ih =>
    cases l with
    | nil => exact Nat.le_refl _
    | cons x l => have := ih (l := l); simp only [List.drop_succ_cons, vl]; omega
theorem whV_small {p : Pl} (hp : PlainP p) (he : 0 ≤ p.e) (h : p.m = 0 ∨ hd p ≤ 16) : whV p < 10 ^ 17 ∧ p.e.toNat ≤ 17 := by
  rcases Nat.eq_zero_or_pos p.m with h0 | h0
  · rw [whV_zero.2 h0, zp_of hp h0]; exact ⟨by decide, by decide⟩
  · have h1 : hd p ≤ 16 := h.resolve_left (by omega)
    have h2 := hd_whV h0 he
    have h3 := lt_dl (whV p)
    have h4 : 10 ^ dl (whV p) ≤ 10 ^ 17 := Nat.pow_le_pow_right (by omega) (by omega)
    refine ⟨by omega, ?_⟩
    have h5 := dl_pos h0
    unfold hd at h1
    omega
set_option maxHeartbeats 16000000 in
set_option maxRecDepth 20000 in
theorem RInt_err (s : Bool) (a : Option Addr) (c : Nat) (l : List Nat) (e : Int) (w : World) (hl : l.length ≤ 9223372036854775807) (hlo : Lo 4294967296 l) (hrd : Rd w .u32 a l) (h0 : ¬ (normA l.length s (vl 1000000000 l) e).err = 0) :
    Calls Tryz.prog 24 #[.agg #[.bool s, .slice a l.length c, .int .i64 e]] w (ResI (intB (normA l.length s (vl 1000000000 l) e)) w) := by
  have hT := fun W hb => Take_any s a c l e W hl hlo (hrd.below' (w' := W) hb (Nat.le_refl _))
  have hin := normA_in l.length s (vl 1000000000 l) e
  have hpl := normA_plain l.length s (vl 1000000000 l) e
  generalize normA l.length s (vl 1000000000 l) e = A at *
  have bA := inR_bounds hin
  obtain ⟨R, hRr⟩ : ∃ R, R = intB A := ⟨_, rfl⟩
  rw [← hRr]
  unfold intB at hRr
  rw [if_pos h0] at hRr
  have HR := Lib.hid hRr; have HTk := Lib.hid hT
  have t0 : ((A.err : Int) != 0) = true := by simp [h0]
  clear hRr hT h0 hin hpl bA hrd hlo
  go_enter Tryz.func24, Tryz.ntmps24
  have b1 := ((Below.refl w.heap.size w).alloc (Nat.le_refl _) (.cells #[.bool s, .slice a l.length c, .int .i64 e] 24))
  have X_d := (Qx.new w (.bool s) (.slice a l.length c) (.int .i64 e) 24)
  have F_d := (Qf.new w (.bool s) (.slice a l.length c) (.int .i64 e) 24)
  obtain ⟨kd0, kd1, kd2⟩ := X_d.out
  go_wp2_with fail
  clear kd0 kd1 kd2
  refine (HTk.out _ b1).mono ?_
  rintro r w2 ⟨xp, yp, rfl, ho, hc⟩
  have b2 := b1.trans (hc.mono b1.size)
  replace F_d := Qf.below F_d (Qx.lt X_d) hc
  replace X_d := Qx.below X_d hc
  clear hc b1
  have R_p := Lib.hid ho
  clear ho
  clear X_d F_d
  have z_p := b2.size
  have hd := (Below.refl w2.heap.size w2).alloc (Nat.le_refl _) (.cells #[.bool A.p.neg, .slice xp (dg 10 A.p.m).length yp, .int .i64 A.p.e] 53)
  have b3 := b2.trans (hd.mono b2.size)
  replace R_p := Lib.hid (R_p.out.below hd)
  have X_p := Qx.new w2 (.bool A.p.neg) (.slice xp (dg 10 A.p.m).length yp) (.int .i64 A.p.e) 53
  have F_p := Qf.new w2 (.bool A.p.neg) (.slice xp (dg 10 A.p.m).length yp) (.int .i64 A.p.e) 53
  clear hd b2
  have B_ := Lib.hid b3
  clear b3
  go_wp2
  refine bodyPost_ret (v := .tuple #[.int .i64 0, .int .i64 (A.err : Nat)]) (by simp [results, Tryz.results24, go_sem]) rfl ?_
  exact ⟨by first | (rw [HR.out]; done) | (rw [HR.out]; rfl), B_.out⟩
set_option maxHeartbeats 16000000 in
set_option maxRecDepth 20000 in
theorem RInt_part (s : Bool) (a : Option Addr) (c : Nat) (l : List Nat) (e : Int) (w : World) (hl : l.length ≤ 9223372036854775807) (hlo : Lo 4294967296 l) (hrd : Rd w .u32 a l) (h0 : (normA l.length s (vl 1000000000 l) e).err = 0) (h1 : (normA l.length s (vl 1000000000 l) e).p.e < 0) :
    Calls Tryz.prog 24 #[.agg #[.bool s, .slice a l.length c, .int .i64 e]] w (ResI (intB (normA l.length s (vl 1000000000 l) e)) w) := by
  have hT := fun W hb => Take_any s a c l e W hl hlo (hrd.below' (w' := W) hb (Nat.le_refl _))
  have hin := normA_in l.length s (vl 1000000000 l) e
  have hpl := normA_plain l.length s (vl 1000000000 l) e
  generalize normA l.length s (vl 1000000000 l) e = A at *
  have bA := inR_bounds hin
  obtain ⟨R, hRr⟩ : ∃ R, R = intB A := ⟨_, rfl⟩
  rw [← hRr]
  unfold intB at hRr
  rw [if_neg (by omega), if_pos h1] at hRr
  have HR := Lib.hid hRr; have HTk := Lib.hid hT
  have t0 : ((A.err : Int) != 0) = false := by simp [h0]
  clear hRr hT h0 hin hpl bA hrd hlo
  go_enter Tryz.func24, Tryz.ntmps24
  have b1 := ((Below.refl w.heap.size w).alloc (Nat.le_refl _) (.cells #[.bool s, .slice a l.length c, .int .i64 e] 24))
  have X_d := (Qx.new w (.bool s) (.slice a l.length c) (.int .i64 e) 24)
  have F_d := (Qf.new w (.bool s) (.slice a l.length c) (.int .i64 e) 24)
  obtain ⟨kd0, kd1, kd2⟩ := X_d.out
  go_wp2_with fail
  clear kd0 kd1 kd2
  refine (HTk.out _ b1).mono ?_
  rintro r w2 ⟨xp, yp, rfl, ho, hc⟩
  have b2 := b1.trans (hc.mono b1.size)
  replace F_d := Qf.below F_d (Qx.lt X_d) hc
  replace X_d := Qx.below X_d hc
  clear hc b1
  have R_p := Lib.hid ho
  clear ho
  clear X_d F_d
  have z_p := b2.size
  have hd := (Below.refl w2.heap.size w2).alloc (Nat.le_refl _) (.cells #[.bool A.p.neg, .slice xp (dg 10 A.p.m).length yp, .int .i64 A.p.e] 53)
  have b3 := b2.trans (hd.mono b2.size)
  replace R_p := Lib.hid (R_p.out.below hd)
  have X_p := Qx.new w2 (.bool A.p.neg) (.slice xp (dg 10 A.p.m).length yp) (.int .i64 A.p.e) 53
  have F_p := Qf.new w2 (.bool A.p.neg) (.slice xp (dg 10 A.p.m).length yp) (.int .i64 A.p.e) 53
  clear hd b2
  obtain ⟨kp0, kp1, kp2⟩ := X_p.out
  have B_ := Lib.hid b3
  clear b3
  go_wp2
  refine bodyPost_ret (v := .tuple #[.int .i64 0, .int .i64 9]) (by simp [results, Tryz.results24, go_sem]) rfl ?_
  exact ⟨by first | (rw [HR.out]; done) | (rw [HR.out]; rfl), B_.out⟩
set_option maxHeartbeats 16000000 in
set_option maxRecDepth 20000 in
theorem RInt_head (s : Bool) (a : Option Addr) (c : Nat) (l : List Nat) (e : Int) (w : World) (hl : l.length ≤ 9223372036854775807) (hlo : Lo 4294967296 l) (hrd : Rd w .u32 a l) (h0 : (normA l.length s (vl 1000000000 l) e).err = 0) (h1 : ¬ (normA l.length s (vl 1000000000 l) e).p.e < 0) (h3 : 0 < (normA l.length s (vl 1000000000 l) e).p.m) (h2 : 16 < hd (normA l.length s (vl 1000000000 l) e).p) :
    Calls Tryz.prog 24 #[.agg #[.bool s, .slice a l.length c, .int .i64 e]] w (ResI (intB (normA l.length s (vl 1000000000 l) e)) w) := by
  have hT := fun W hb => Take_any s a c l e W hl hlo (hrd.below' (w' := W) hb (Nat.le_refl _))
  have hin := normA_in l.length s (vl 1000000000 l) e
  have hpl := normA_plain l.length s (vl 1000000000 l) e
  generalize normA l.length s (vl 1000000000 l) e = A at *
  have bA := inR_bounds hin
  obtain ⟨R, hRr⟩ : ∃ R, R = intB A := ⟨_, rfl⟩
  rw [← hRr]
  unfold intB at hRr
  rw [if_neg (by omega), if_neg h1, if_pos (whV_big hpl (by omega) (by omega))] at hRr
  have HR := Lib.hid hRr; have HTk := Lib.hid hT
  have t0 : ((A.err : Int) != 0) = false := by simp [h0]
  have t1 : (0 : Int) < ((dg 10 A.p.m).length : Int) := by have k := dl_pos h3; unfold dl at k; omega
  clear hRr hT h0 hin hpl hrd hlo h3
  go_enter Tryz.func24, Tryz.ntmps24
  have b1 := ((Below.refl w.heap.size w).alloc (Nat.le_refl _) (.cells #[.bool s, .slice a l.length c, .int .i64 e] 24))
  have X_d := (Qx.new w (.bool s) (.slice a l.length c) (.int .i64 e) 24)
  have F_d := (Qf.new w (.bool s) (.slice a l.length c) (.int .i64 e) 24)
  obtain ⟨kd0, kd1, kd2⟩ := X_d.out
  go_wp2_with fail
  clear kd0 kd1 kd2
  refine (HTk.out _ b1).mono ?_
  rintro r w2 ⟨xp, yp, rfl, ho, hc⟩
  have b2 := b1.trans (hc.mono b1.size)
  replace F_d := Qf.below F_d (Qx.lt X_d) hc
  replace X_d := Qx.below X_d hc
  clear hc b1
  have R_p := Lib.hid ho
  clear ho
  clear X_d F_d
  have z_p := b2.size
  have hd := (Below.refl w2.heap.size w2).alloc (Nat.le_refl _) (.cells #[.bool A.p.neg, .slice xp (dg 10 A.p.m).length yp, .int .i64 A.p.e] 53)
  have b3 := b2.trans (hd.mono b2.size)
  replace R_p := Lib.hid (R_p.out.below hd)
  have X_p := Qx.new w2 (.bool A.p.neg) (.slice xp (dg 10 A.p.m).length yp) (.int .i64 A.p.e) 53
  have F_p := Qf.new w2 (.bool A.p.neg) (.slice xp (dg 10 A.p.m).length yp) (.int .i64 A.p.e) 53
  clear hd b2
  have hh1 := fun W => Head_any A.p.neg xp (dg 10 A.p.m).length yp A.p.e W (by have h := bA.1; unfold dl at h; omega) (by omega) (by omega)
  have hH1 : A.p.e + ((dg 10 A.p.m).length : Nat) - 1 = hd A.p := rfl
  rw [hH1] at hh1
  obtain ⟨H1, hH1e⟩ : ∃ H, H = hd A.p := ⟨_, rfl⟩
  rw [← hH1e] at hh1 h2
  have HH1 := Lib.hid hh1
  clear hh1 hH1 hH1e

  obtain ⟨kp0, kp1, kp2⟩ := X_p.out
  go_wp2_with fail
  clear kp0 kp1 kp2
  refine (HH1.out _).mono ?_
  rintro r w4 ⟨rfl, hc⟩
  have b4 := b3.trans (hc.mono b3.size)
  replace F_p := Qf.below F_p (Qx.lt X_p) hc
  replace X_p := Qx.below X_p hc
  replace R_p := Lib.hid (R_p.out.below hc)
  clear hc b3
  have B_ := Lib.hid b4
  clear b4
  go_wp2
  refine bodyPost_ret (v := .tuple #[.int .i64 0, .int .i64 3]) (by simp [results, Tryz.results24, go_sem]) rfl ?_
  exact ⟨by first | (rw [HR.out]; done) | (rw [HR.out]; rfl), B_.out⟩
set_option maxHeartbeats 16000000 in
set_option maxRecDepth 20000 in
theorem RInt_lmore (s : Bool) (a : Option Addr) (c : Nat) (l : List Nat) (e : Int) (w : World) (hl : l.length ≤ 9223372036854775807) (hlo : Lo 4294967296 l) (hrd : Rd w .u32 a l) (h0 : (normA l.length s (vl 1000000000 l) e).err = 0) (h1 : ¬ (normA l.length s (vl 1000000000 l) e).p.e < 0) (h3 : 0 < (normA l.length s (vl 1000000000 l) e).p.m) (h2 : ¬ 16 < hd (normA l.length s (vl 1000000000 l) e).p) (h4 : 9007199254740992 < whV (normA l.length s (vl 1000000000 l) e).p) :
    Calls Tryz.prog 24 #[.agg #[.bool s, .slice a l.length c, .int .i64 e]] w (ResI (intB (normA l.length s (vl 1000000000 l) e)) w) := by
  have hT := fun W hb => Take_any s a c l e W hl hlo (hrd.below' (w' := W) hb (Nat.le_refl _))
  have hin := normA_in l.length s (vl 1000000000 l) e
  have hpl := normA_plain l.length s (vl 1000000000 l) e
  generalize normA l.length s (vl 1000000000 l) e = A at *
  have bA := inR_bounds hin
  obtain ⟨R, hRr⟩ : ∃ R, R = intB A := ⟨_, rfl⟩
  rw [← hRr]
  unfold intB at hRr
  rw [if_neg (by omega), if_neg h1, if_pos h4] at hRr
  have hsm := whV_small hpl (by omega) (by first | exact .inl h3 | exact .inr (by omega))
  have hS := fun x y W r => RShift_rd A.p.m x y (N := A.p.e) A.p.e.toNat (by omega) W (by have h := bA.1; unfold dl at h; omega) (by omega) r
  rw [show A.p.m * 10 ^ A.p.e.toNat = whV A.p from rfl] at hS
  have hvl : vl 10 (dg 10 (whV A.p)) = whV A.p := vl_dg (by omega) _
  have hlo10 := Lo_dg (b := 10) (by omega) (whV A.p)
  have hlen : (dg 10 (whV A.p)).length ≤ 17 := dl_lt hsm.1
  obtain ⟨hsm1, -⟩ := hsm
  generalize whV A.p = v at *
  unfold ResDg at hS
  obtain ⟨L, hL⟩ : ∃ L, L = dg 10 v := ⟨_, rfl⟩
  rw [← hL] at hS hvl hlo10 hlen
  have HS : Hid (∀ x y W (r : RdC W x y A.p.m), Calls Tryz.prog 48 #[.slice x (dg 10 A.p.m).length y, .int .i64 A.p.e] W fun r w' => ∃ a' c', r = .returned (.slice a' L.length c') ∧ Rd w' .u8 a' L ∧ Below W.heap.size W w') := Lib.hid fun x y W r => (hS x y W r).mono fun _ _ ⟨a', c', q1, q2, q3⟩ => ⟨a', c', q1, by rw [hL]; exact q2.1, q3⟩
  have HR := Lib.hid hRr; have HTk := Lib.hid hT; have HVL := Lib.hid hvl; have HLO := Lib.hid hlo10
  have t0 : ((A.err : Int) != 0) = false := by simp [h0]
  have t1 : (0 : Int) < ((dg 10 A.p.m).length : Int) := by have k := dl_pos h3; unfold dl at k; omega

  clear hRr hT hS h0 hin hpl hrd hlo h3 hvl hlo10 hL
  go_enter Tryz.func24, Tryz.ntmps24
  have b1 := ((Below.refl w.heap.size w).alloc (Nat.le_refl _) (.cells #[.bool s, .slice a l.length c, .int .i64 e] 24))
  have X_d := (Qx.new w (.bool s) (.slice a l.length c) (.int .i64 e) 24)
  have F_d := (Qf.new w (.bool s) (.slice a l.length c) (.int .i64 e) 24)
  obtain ⟨kd0, kd1, kd2⟩ := X_d.out
  go_wp2_with fail
  clear kd0 kd1 kd2
  refine (HTk.out _ b1).mono ?_
  rintro r w2 ⟨xp, yp, rfl, ho, hc⟩
  have b2 := b1.trans (hc.mono b1.size)
  replace F_d := Qf.below F_d (Qx.lt X_d) hc
  replace X_d := Qx.below X_d hc
  clear hc b1
  have R_p := Lib.hid ho
  clear ho
  clear X_d F_d
  have z_p := b2.size
  have hd := (Below.refl w2.heap.size w2).alloc (Nat.le_refl _) (.cells #[.bool A.p.neg, .slice xp (dg 10 A.p.m).length yp, .int .i64 A.p.e] 53)
  have b3 := b2.trans (hd.mono b2.size)
  replace R_p := Lib.hid (R_p.out.below hd)
  have X_p := Qx.new w2 (.bool A.p.neg) (.slice xp (dg 10 A.p.m).length yp) (.int .i64 A.p.e) 53
  have F_p := Qf.new w2 (.bool A.p.neg) (.slice xp (dg 10 A.p.m).length yp) (.int .i64 A.p.e) 53
  clear hd b2
  have hh1 := fun W => Head_any A.p.neg xp (dg 10 A.p.m).length yp A.p.e W (by have h := bA.1; unfold dl at h; omega) (by omega) (by omega)
  have hH1 : A.p.e + ((dg 10 A.p.m).length : Nat) - 1 = hd A.p := rfl
  rw [hH1] at hh1
  obtain ⟨H1, hH1e⟩ : ∃ H, H = hd A.p := ⟨_, rfl⟩
  rw [← hH1e] at hh1 h2
  have HH1 := Lib.hid hh1
  clear hh1 hH1 hH1e

  obtain ⟨kp0, kp1, kp2⟩ := X_p.out
  go_wp2_with fail
  clear kp0 kp1 kp2
  refine (HH1.out _).mono ?_
  rintro r w4 ⟨rfl, hc⟩
  have b4 := b3.trans (hc.mono b3.size)
  replace F_p := Qf.below F_p (Qx.lt X_p) hc
  replace X_p := Qx.below X_p hc
  replace R_p := Lib.hid (R_p.out.below hc)
  clear hc b3
  obtain ⟨kp0, kp1, kp2⟩ := X_p.out
  go_wp2_with fail
  clear kp0 kp1 kp2
  refine (HS.out _ _ _ R_p.out).mono ?_
  rintro r w5 ⟨xm, ym, rfl, ho, hc⟩
  have b5 := b4.trans (hc.mono b4.size)
  replace F_p := Qf.below F_p (Qx.lt X_p) hc
  replace X_p := Qx.below X_p hc
  replace R_p := Lib.hid (R_p.out.below hc)
  clear hc b4
  have R_m := Lib.hid ho
  clear ho
  obtain ⟨kp0, kp1, kp2⟩ := X_p.out
  have X_l := HVL.out
  go_wp2
  go_loopw [6, 8] (fun nv iv wr => ∃ k : Nat, k ≤ L.length ∧ nv = .int .i64 (vl 10 (L.drop k) : Nat) ∧ iv = .int .i64 ((k : Int) - 1) ∧ w5 = wr) (fun _ iv _ => (intOf iv + 1).toNat)
  case atStart => exact ⟨L.length, Nat.le_refl _, by rw [List.drop_length]; rfl, rfl, by trivial⟩
  case round =>
    obtain ⟨k, hk, rfl, rfl, hw⟩ := hrel
    first | (subst hw) | (cases hw)
    by_cases hgo : 0 < k
    · obtain ⟨i, rfl⟩ : ∃ i, k = i + 1 := ⟨k - 1, by omega⟩
      obtain ⟨gb, goff, hab, hcx⟩ := R_m.out i (by omega)
      have hst := vl10_drop (X := L) (k := i) (by omega)
      have hle := vl10_drop_le (l := L) i
      rw [X_l] at hle
      have hd9 := Lo_get HLO.out (by omega) i
      have e1 : ((i + 1 : Nat) : Int) - 1 = (i : Int) := by omega
      rw [e1]
      rw [hab]
      generalize L[i]?.getD 0 = dg1 at *
      generalize hx : vl 10 (L.drop (i + 1)) = x at *
      generalize hy : vl 10 (L.drop i) = y at *
      have HX := Lib.hid hx; have HY := Lib.hid hy; have HST := Lib.hid hst; have HAB := Lib.hid hab
      clear hx hy hab e1
      have hxx : x < 10000000000000000 := by omega
      clear hle hst
      go_wp2
      go_roundw
      case rel => exact ⟨i, by omega, by rw [HY.out, HST.out]; congr 1; omega, by congr 1, by trivial⟩
      case measure => first | (simp [intOf]; done) | (simp [intOf]; omega)
    · obtain rfl : k = 0 := by omega
      rw [List.drop_zero, X_l]

      have q1 : (9007199254740992 : Int) < (v : Int) := by omega
      clear h4
      have B_ := Lib.hid b5
      clear b5
      go_wp2
      refine bodyPost_ret (v := .tuple #[.int .i64 0, .int .i64 3]) (by simp [results, Tryz.results24, go_sem]) rfl ?_
      exact ⟨by first | (rw [HR.out]; done) | (rw [HR.out]; rfl), B_.out⟩
set_option maxHeartbeats 16000000 in
set_option maxRecDepth 20000 in
theorem RInt_lneg (s : Bool) (a : Option Addr) (c : Nat) (l : List Nat) (e : Int) (w : World) (hl : l.length ≤ 9223372036854775807) (hlo : Lo 4294967296 l) (hrd : Rd w .u32 a l) (h0 : (normA l.length s (vl 1000000000 l) e).err = 0) (h1 : ¬ (normA l.length s (vl 1000000000 l) e).p.e < 0) (h3 : 0 < (normA l.length s (vl 1000000000 l) e).p.m) (h2 : ¬ 16 < hd (normA l.length s (vl 1000000000 l) e).p) (h4 : ¬ 9007199254740992 < whV (normA l.length s (vl 1000000000 l) e).p) (h5 : (normA l.length s (vl 1000000000 l) e).p.neg = true) :
    Calls Tryz.prog 24 #[.agg #[.bool s, .slice a l.length c, .int .i64 e]] w (ResI (intB (normA l.length s (vl 1000000000 l) e)) w) := by
  have hT := fun W hb => Take_any s a c l e W hl hlo (hrd.below' (w' := W) hb (Nat.le_refl _))
  have hin := normA_in l.length s (vl 1000000000 l) e
  have hpl := normA_plain l.length s (vl 1000000000 l) e
  generalize normA l.length s (vl 1000000000 l) e = A at *
  have bA := inR_bounds hin
  obtain ⟨R, hRr⟩ : ∃ R, R = intB A := ⟨_, rfl⟩
  rw [← hRr]
  unfold intB at hRr
  rw [if_neg (by omega), if_neg h1, if_neg h4, if_pos h5] at hRr
  have hsm := whV_small hpl (by omega) (by first | exact .inl h3 | exact .inr (by omega))
  have hS := fun x y W r => RShift_rd A.p.m x y (N := A.p.e) A.p.e.toNat (by omega) W (by have h := bA.1; unfold dl at h; omega) (by omega) r
  rw [show A.p.m * 10 ^ A.p.e.toNat = whV A.p from rfl] at hS
  have hvl : vl 10 (dg 10 (whV A.p)) = whV A.p := vl_dg (by omega) _
  have hlo10 := Lo_dg (b := 10) (by omega) (whV A.p)
  have hlen : (dg 10 (whV A.p)).length ≤ 17 := dl_lt hsm.1
  obtain ⟨hsm1, -⟩ := hsm
  generalize whV A.p = v at *
  unfold ResDg at hS
  obtain ⟨L, hL⟩ : ∃ L, L = dg 10 v := ⟨_, rfl⟩
  rw [← hL] at hS hvl hlo10 hlen
  have HS : Hid (∀ x y W (r : RdC W x y A.p.m), Calls Tryz.prog 48 #[.slice x (dg 10 A.p.m).length y, .int .i64 A.p.e] W fun r w' => ∃ a' c', r = .returned (.slice a' L.length c') ∧ Rd w' .u8 a' L ∧ Below W.heap.size W w') := Lib.hid fun x y W r => (hS x y W r).mono fun _ _ ⟨a', c', q1, q2, q3⟩ => ⟨a', c', q1, by rw [hL]; exact q2.1, q3⟩
  have HR := Lib.hid hRr; have HTk := Lib.hid hT; have HVL := Lib.hid hvl; have HLO := Lib.hid hlo10
  have t0 : ((A.err : Int) != 0) = false := by simp [h0]
  have t1 : (0 : Int) < ((dg 10 A.p.m).length : Int) := by have k := dl_pos h3; unfold dl at k; omega
  have H5 := Lib.hid h5
  clear h5
  clear hRr hT hS h0 hin hpl hrd hlo h3 hvl hlo10 hL
  go_enter Tryz.func24, Tryz.ntmps24
  have b1 := ((Below.refl w.heap.size w).alloc (Nat.le_refl _) (.cells #[.bool s, .slice a l.length c, .int .i64 e] 24))
  have X_d := (Qx.new w (.bool s) (.slice a l.length c) (.int .i64 e) 24)
  have F_d := (Qf.new w (.bool s) (.slice a l.length c) (.int .i64 e) 24)
  obtain ⟨kd0, kd1, kd2⟩ := X_d.out
  go_wp2_with fail
  clear kd0 kd1 kd2
  refine (HTk.out _ b1).mono ?_
  rintro r w2 ⟨xp, yp, rfl, ho, hc⟩
  have b2 := b1.trans (hc.mono b1.size)
  replace F_d := Qf.below F_d (Qx.lt X_d) hc
  replace X_d := Qx.below X_d hc
  clear hc b1
  have R_p := Lib.hid ho
  clear ho
  clear X_d F_d
  have z_p := b2.size
  have hd := (Below.refl w2.heap.size w2).alloc (Nat.le_refl _) (.cells #[.bool A.p.neg, .slice xp (dg 10 A.p.m).length yp, .int .i64 A.p.e] 53)
  have b3 := b2.trans (hd.mono b2.size)
  replace R_p := Lib.hid (R_p.out.below hd)
  have X_p := Qx.new w2 (.bool A.p.neg) (.slice xp (dg 10 A.p.m).length yp) (.int .i64 A.p.e) 53
  have F_p := Qf.new w2 (.bool A.p.neg) (.slice xp (dg 10 A.p.m).length yp) (.int .i64 A.p.e) 53
  clear hd b2
  have hh1 := fun W => Head_any A.p.neg xp (dg 10 A.p.m).length yp A.p.e W (by have h := bA.1; unfold dl at h; omega) (by omega) (by omega)
  have hH1 : A.p.e + ((dg 10 A.p.m).length : Nat) - 1 = hd A.p := rfl
  rw [hH1] at hh1
  obtain ⟨H1, hH1e⟩ : ∃ H, H = hd A.p := ⟨_, rfl⟩
  rw [← hH1e] at hh1 h2
  have HH1 := Lib.hid hh1
  clear hh1 hH1 hH1e

  obtain ⟨kp0, kp1, kp2⟩ := X_p.out
  go_wp2_with fail
  clear kp0 kp1 kp2
  refine (HH1.out _).mono ?_
  rintro r w4 ⟨rfl, hc⟩
  have b4 := b3.trans (hc.mono b3.size)
  replace F_p := Qf.below F_p (Qx.lt X_p) hc
  replace X_p := Qx.below X_p hc
  replace R_p := Lib.hid (R_p.out.below hc)
  clear hc b3
  obtain ⟨kp0, kp1, kp2⟩ := X_p.out
  go_wp2_with fail
  clear kp0 kp1 kp2
  refine (HS.out _ _ _ R_p.out).mono ?_
  rintro r w5 ⟨xm, ym, rfl, ho, hc⟩
  have b5 := b4.trans (hc.mono b4.size)
  replace F_p := Qf.below F_p (Qx.lt X_p) hc
  replace X_p := Qx.below X_p hc
  replace R_p := Lib.hid (R_p.out.below hc)
  clear hc b4
  have R_m := Lib.hid ho
  clear ho
  obtain ⟨kp0, kp1, kp2⟩ := X_p.out
  have X_l := HVL.out
  go_wp2
  go_loopw [6, 8] (fun nv iv wr => ∃ k : Nat, k ≤ L.length ∧ nv = .int .i64 (vl 10 (L.drop k) : Nat) ∧ iv = .int .i64 ((k : Int) - 1) ∧ w5 = wr) (fun _ iv _ => (intOf iv + 1).toNat)
  case atStart => exact ⟨L.length, Nat.le_refl _, by rw [List.drop_length]; rfl, rfl, by trivial⟩
  case round =>
    obtain ⟨k, hk, rfl, rfl, hw⟩ := hrel
    first | (subst hw) | (cases hw)
    by_cases hgo : 0 < k
    · obtain ⟨i, rfl⟩ : ∃ i, k = i + 1 := ⟨k - 1, by omega⟩
      obtain ⟨gb, goff, hab, hcx⟩ := R_m.out i (by omega)
      have hst := vl10_drop (X := L) (k := i) (by omega)
      have hle := vl10_drop_le (l := L) i
      rw [X_l] at hle
      have hd9 := Lo_get HLO.out (by omega) i
      have e1 : ((i + 1 : Nat) : Int) - 1 = (i : Int) := by omega
      rw [e1]
      rw [hab]
      generalize L[i]?.getD 0 = dg1 at *
      generalize hx : vl 10 (L.drop (i + 1)) = x at *
      generalize hy : vl 10 (L.drop i) = y at *
      have HX := Lib.hid hx; have HY := Lib.hid hy; have HST := Lib.hid hst; have HAB := Lib.hid hab
      clear hx hy hab e1
      have hxx : x < 10000000000000000 := by omega
      clear hle hst
      go_wp2
      go_roundw
      case rel => exact ⟨i, by omega, by rw [HY.out, HST.out]; congr 1; omega, by congr 1, by trivial⟩
      case measure => first | (simp [intOf]; done) | (simp [intOf]; omega)
    · obtain rfl : k = 0 := by omega
      rw [List.drop_zero, X_l]

      have q1 : ¬ (9007199254740992 : Int) < (v : Int) := by omega
      clear h4
      rw [H5.out] at kp0
      have B_ := Lib.hid b5
      clear b5
      go_wp2
      refine bodyPost_ret (v := .tuple #[.int .i64 (-(v : Int)), .int .i64 0]) (by simp [results, Tryz.results24, go_sem]) rfl ?_
      exact ⟨by first | (rw [HR.out]; done) | (rw [HR.out]; rfl), B_.out⟩
set_option maxHeartbeats 16000000 in
set_option maxRecDepth 20000 in
theorem RInt_lpos (s : Bool) (a : Option Addr) (c : Nat) (l : List Nat) (e : Int) (w : World) (hl : l.length ≤ 9223372036854775807) (hlo : Lo 4294967296 l) (hrd : Rd w .u32 a l) (h0 : (normA l.length s (vl 1000000000 l) e).err = 0) (h1 : ¬ (normA l.length s (vl 1000000000 l) e).p.e < 0) (h3 : 0 < (normA l.length s (vl 1000000000 l) e).p.m) (h2 : ¬ 16 < hd (normA l.length s (vl 1000000000 l) e).p) (h4 : ¬ 9007199254740992 < whV (normA l.length s (vl 1000000000 l) e).p) (h5 : (normA l.length s (vl 1000000000 l) e).p.neg = false) :
    Calls Tryz.prog 24 #[.agg #[.bool s, .slice a l.length c, .int .i64 e]] w (ResI (intB (normA l.length s (vl 1000000000 l) e)) w) := by
  have hT := fun W hb => Take_any s a c l e W hl hlo (hrd.below' (w' := W) hb (Nat.le_refl _))
  have hin := normA_in l.length s (vl 1000000000 l) e
  have hpl := normA_plain l.length s (vl 1000000000 l) e
  generalize normA l.length s (vl 1000000000 l) e = A at *
  have bA := inR_bounds hin
  obtain ⟨R, hRr⟩ : ∃ R, R = intB A := ⟨_, rfl⟩
  rw [← hRr]
  unfold intB at hRr
  rw [if_neg (by omega), if_neg h1, if_neg h4, if_neg (by rw [h5]; decide)] at hRr
  have hsm := whV_small hpl (by omega) (by first | exact .inl h3 | exact .inr (by omega))
  have hS := fun x y W r => RShift_rd A.p.m x y (N := A.p.e) A.p.e.toNat (by omega) W (by have h := bA.1; unfold dl at h; omega) (by omega) r
  rw [show A.p.m * 10 ^ A.p.e.toNat = whV A.p from rfl] at hS
  have hvl : vl 10 (dg 10 (whV A.p)) = whV A.p := vl_dg (by omega) _
  have hlo10 := Lo_dg (b := 10) (by omega) (whV A.p)
  have hlen : (dg 10 (whV A.p)).length ≤ 17 := dl_lt hsm.1
  obtain ⟨hsm1, -⟩ := hsm
  generalize whV A.p = v at *
  unfold ResDg at hS
  obtain ⟨L, hL⟩ : ∃ L, L = dg 10 v := ⟨_, rfl⟩
  rw [← hL] at hS hvl hlo10 hlen
  have HS : Hid (∀ x y W (r : RdC W x y A.p.m), Calls Tryz.prog 48 #[.slice x (dg 10 A.p.m).length y, .int .i64 A.p.e] W fun r w' => ∃ a' c', r = .returned (.slice a' L.length c') ∧ Rd w' .u8 a' L ∧ Below W.heap.size W w') := Lib.hid fun x y W r => (hS x y W r).mono fun _ _ ⟨a', c', q1, q2, q3⟩ => ⟨a', c', q1, by rw [hL]; exact q2.1, q3⟩
  have HR := Lib.hid hRr; have HTk := Lib.hid hT; have HVL := Lib.hid hvl; have HLO := Lib.hid hlo10
  have t0 : ((A.err : Int) != 0) = false := by simp [h0]
  have t1 : (0 : Int) < ((dg 10 A.p.m).length : Int) := by have k := dl_pos h3; unfold dl at k; omega
  have H5 := Lib.hid h5
  clear h5
  clear hRr hT hS h0 hin hpl hrd hlo h3 hvl hlo10 hL
  go_enter Tryz.func24, Tryz.ntmps24
  have b1 := ((Below.refl w.heap.size w).alloc (Nat.le_refl _) (.cells #[.bool s, .slice a l.length c, .int .i64 e] 24))
  have X_d := (Qx.new w (.bool s) (.slice a l.length c) (.int .i64 e) 24)
  have F_d := (Qf.new w (.bool s) (.slice a l.length c) (.int .i64 e) 24)
  obtain ⟨kd0, kd1, kd2⟩ := X_d.out
  go_wp2_with fail
  clear kd0 kd1 kd2
  refine (HTk.out _ b1).mono ?_
  rintro r w2 ⟨xp, yp, rfl, ho, hc⟩
  have b2 := b1.trans (hc.mono b1.size)
  replace F_d := Qf.below F_d (Qx.lt X_d) hc
  replace X_d := Qx.below X_d hc
  clear hc b1
  have R_p := Lib.hid ho
  clear ho
  clear X_d F_d
  have z_p := b2.size
  have hd := (Below.refl w2.heap.size w2).alloc (Nat.le_refl _) (.cells #[.bool A.p.neg, .slice xp (dg 10 A.p.m).length yp, .int .i64 A.p.e] 53)
  have b3 := b2.trans (hd.mono b2.size)
  replace R_p := Lib.hid (R_p.out.below hd)
  have X_p := Qx.new w2 (.bool A.p.neg) (.slice xp (dg 10 A.p.m).length yp) (.int .i64 A.p.e) 53
  have F_p := Qf.new w2 (.bool A.p.neg) (.slice xp (dg 10 A.p.m).length yp) (.int .i64 A.p.e) 53
  clear hd b2
  have hh1 := fun W => Head_any A.p.neg xp (dg 10 A.p.m).length yp A.p.e W (by have h := bA.1; unfold dl at h; omega) (by omega) (by omega)
  have hH1 : A.p.e + ((dg 10 A.p.m).length : Nat) - 1 = hd A.p := rfl
  rw [hH1] at hh1
  obtain ⟨H1, hH1e⟩ : ∃ H, H = hd A.p := ⟨_, rfl⟩
  rw [← hH1e] at hh1 h2
  have HH1 := Lib.hid hh1
  clear hh1 hH1 hH1e

  obtain ⟨kp0, kp1, kp2⟩ := X_p.out
  go_wp2_with fail
  clear kp0 kp1 kp2
  refine (HH1.out _).mono ?_
  rintro r w4 ⟨rfl, hc⟩
  have b4 := b3.trans (hc.mono b3.size)
  replace F_p := Qf.below F_p (Qx.lt X_p) hc
  replace X_p := Qx.below X_p hc
  replace R_p := Lib.hid (R_p.out.below hc)
  clear hc b3
  obtain ⟨kp0, kp1, kp2⟩ := X_p.out
  go_wp2_with fail
  clear kp0 kp1 kp2
  refine (HS.out _ _ _ R_p.out).mono ?_
  rintro r w5 ⟨xm, ym, rfl, ho, hc⟩
  have b5 := b4.trans (hc.mono b4.size)
  replace F_p := Qf.below F_p (Qx.lt X_p) hc
  replace X_p := Qx.below X_p hc
  replace R_p := Lib.hid (R_p.out.below hc)
  clear hc b4
  have R_m := Lib.hid ho
  clear ho
  obtain ⟨kp0, kp1, kp2⟩ := X_p.out
  have X_l := HVL.out
  go_wp2
  go_loopw [6, 8] (fun nv iv wr => ∃ k : Nat, k ≤ L.length ∧ nv = .int .i64 (vl 10 (L.drop k) : Nat) ∧ iv = .int .i64 ((k : Int) - 1) ∧ w5 = wr) (fun _ iv _ => (intOf iv + 1).toNat)
  case atStart => exact ⟨L.length, Nat.le_refl _, by rw [List.drop_length]; rfl, rfl, by trivial⟩
  case round =>
    obtain ⟨k, hk, rfl, rfl, hw⟩ := hrel
    first | (subst hw) | (cases hw)
    by_cases hgo : 0 < k
    · obtain ⟨i, rfl⟩ : ∃ i, k = i + 1 := ⟨k - 1, by omega⟩
      obtain ⟨gb, goff, hab, hcx⟩ := R_m.out i (by omega)
      have hst := vl10_drop (X := L) (k := i) (by omega)
      have hle := vl10_drop_le (l := L) i
      rw [X_l] at hle
      have hd9 := Lo_get HLO.out (by omega) i
      have e1 : ((i + 1 : Nat) : Int) - 1 = (i : Int) := by omega
      rw [e1]
      rw [hab]
      generalize L[i]?.getD 0 = dg1 at *
      generalize hx : vl 10 (L.drop (i + 1)) = x at *
      generalize hy : vl 10 (L.drop i) = y at *
      have HX := Lib.hid hx; have HY := Lib.hid hy; have HST := Lib.hid hst; have HAB := Lib.hid hab
      clear hx hy hab e1
      have hxx : x < 10000000000000000 := by omega
      clear hle hst
      go_wp2
      go_roundw
      case rel => exact ⟨i, by omega, by rw [HY.out, HST.out]; congr 1; omega, by congr 1, by trivial⟩
      case measure => first | (simp [intOf]; done) | (simp [intOf]; omega)
    · obtain rfl : k = 0 := by omega
      rw [List.drop_zero, X_l]

      have q1 : ¬ (9007199254740992 : Int) < (v : Int) := by omega
      clear h4
      rw [H5.out] at kp0
      have B_ := Lib.hid b5
      clear b5
      go_wp2
      refine bodyPost_ret (v := .tuple #[.int .i64 (v : Int), .int .i64 0]) (by simp [results, Tryz.results24, go_sem]) rfl ?_
      exact ⟨by first | (rw [HR.out]; done) | (rw [HR.out]; rfl), B_.out⟩
set_option maxHeartbeats 16000000 in
set_option maxRecDepth 20000 in
theorem RInt_zpos (s : Bool) (a : Option Addr) (c : Nat) (l : List Nat) (e : Int) (w : World) (hl : l.length ≤ 9223372036854775807) (hlo : Lo 4294967296 l) (hrd : Rd w .u32 a l) (h0 : (normA l.length s (vl 1000000000 l) e).err = 0) (h1 : ¬ (normA l.length s (vl 1000000000 l) e).p.e < 0) (h3 : (normA l.length s (vl 1000000000 l) e).p.m = 0) (h4 : ¬ 9007199254740992 < whV (normA l.length s (vl 1000000000 l) e).p) (h5 : (normA l.length s (vl 1000000000 l) e).p.neg = false) :
    Calls Tryz.prog 24 #[.agg #[.bool s, .slice a l.length c, .int .i64 e]] w (ResI (intB (normA l.length s (vl 1000000000 l) e)) w) := by
  have hT := fun W hb => Take_any s a c l e W hl hlo (hrd.below' (w' := W) hb (Nat.le_refl _))
  have hin := normA_in l.length s (vl 1000000000 l) e
  have hpl := normA_plain l.length s (vl 1000000000 l) e
  generalize normA l.length s (vl 1000000000 l) e = A at *
  have bA := inR_bounds hin
  obtain ⟨R, hRr⟩ : ∃ R, R = intB A := ⟨_, rfl⟩
  rw [← hRr]
  unfold intB at hRr
  rw [if_neg (by omega), if_neg h1, if_neg h4, if_neg (by rw [h5]; decide)] at hRr
  have hsm := whV_small hpl (by omega) (by first | exact .inl h3 | exact .inr (by omega))
  have hS := fun x y W r => RShift_rd A.p.m x y (N := A.p.e) A.p.e.toNat (by omega) W (by have h := bA.1; unfold dl at h; omega) (by omega) r
  rw [show A.p.m * 10 ^ A.p.e.toNat = whV A.p from rfl] at hS
  have hvl : vl 10 (dg 10 (whV A.p)) = whV A.p := vl_dg (by omega) _
  have hlo10 := Lo_dg (b := 10) (by omega) (whV A.p)
  have hlen : (dg 10 (whV A.p)).length ≤ 17 := dl_lt hsm.1
  obtain ⟨hsm1, -⟩ := hsm
  generalize whV A.p = v at *
  unfold ResDg at hS
  obtain ⟨L, hL⟩ : ∃ L, L = dg 10 v := ⟨_, rfl⟩
  rw [← hL] at hS hvl hlo10 hlen
  have HS : Hid (∀ x y W (r : RdC W x y A.p.m), Calls Tryz.prog 48 #[.slice x (dg 10 A.p.m).length y, .int .i64 A.p.e] W fun r w' => ∃ a' c', r = .returned (.slice a' L.length c') ∧ Rd w' .u8 a' L ∧ Below W.heap.size W w') := Lib.hid fun x y W r => (hS x y W r).mono fun _ _ ⟨a', c', q1, q2, q3⟩ => ⟨a', c', q1, by rw [hL]; exact q2.1, q3⟩
  have HR := Lib.hid hRr; have HTk := Lib.hid hT; have HVL := Lib.hid hvl; have HLO := Lib.hid hlo10
  have t0 : ((A.err : Int) != 0) = false := by simp [h0]
  have t1 : ¬ (0 : Int) < ((dg 10 A.p.m).length : Int) := by rw [h3, dg_zero]; simp
  have H5 := Lib.hid h5
  clear h5
  clear hRr hT hS h0 hin hpl hrd hlo h3 hvl hlo10 hL
  go_enter Tryz.func24, Tryz.ntmps24
  have b1 := ((Below.refl w.heap.size w).alloc (Nat.le_refl _) (.cells #[.bool s, .slice a l.length c, .int .i64 e] 24))
  have X_d := (Qx.new w (.bool s) (.slice a l.length c) (.int .i64 e) 24)
  have F_d := (Qf.new w (.bool s) (.slice a l.length c) (.int .i64 e) 24)
  obtain ⟨kd0, kd1, kd2⟩ := X_d.out
  go_wp2_with fail
  clear kd0 kd1 kd2
  refine (HTk.out _ b1).mono ?_
  rintro r w2 ⟨xp, yp, rfl, ho, hc⟩
  have b2 := b1.trans (hc.mono b1.size)
  replace F_d := Qf.below F_d (Qx.lt X_d) hc
  replace X_d := Qx.below X_d hc
  clear hc b1
  have R_p := Lib.hid ho
  clear ho
  clear X_d F_d
  have z_p := b2.size
  have hd := (Below.refl w2.heap.size w2).alloc (Nat.le_refl _) (.cells #[.bool A.p.neg, .slice xp (dg 10 A.p.m).length yp, .int .i64 A.p.e] 53)
  have b3 := b2.trans (hd.mono b2.size)
  replace R_p := Lib.hid (R_p.out.below hd)
  have X_p := Qx.new w2 (.bool A.p.neg) (.slice xp (dg 10 A.p.m).length yp) (.int .i64 A.p.e) 53
  have F_p := Qf.new w2 (.bool A.p.neg) (.slice xp (dg 10 A.p.m).length yp) (.int .i64 A.p.e) 53
  clear hd b2
  obtain ⟨kp0, kp1, kp2⟩ := X_p.out
  go_wp2_with fail
  clear kp0 kp1 kp2
  refine (HS.out _ _ _ R_p.out).mono ?_
  rintro r w4 ⟨xm, ym, rfl, ho, hc⟩
  have b4 := b3.trans (hc.mono b3.size)
  replace F_p := Qf.below F_p (Qx.lt X_p) hc
  replace X_p := Qx.below X_p hc
  replace R_p := Lib.hid (R_p.out.below hc)
  clear hc b3
  have R_m := Lib.hid ho
  clear ho
  obtain ⟨kp0, kp1, kp2⟩ := X_p.out
  have X_l := HVL.out
  go_wp2
  go_loopw [6, 8] (fun nv iv wr => ∃ k : Nat, k ≤ L.length ∧ nv = .int .i64 (vl 10 (L.drop k) : Nat) ∧ iv = .int .i64 ((k : Int) - 1) ∧ w4 = wr) (fun _ iv _ => (intOf iv + 1).toNat)
  case atStart => exact ⟨L.length, Nat.le_refl _, by rw [List.drop_length]; rfl, rfl, by trivial⟩
  case round =>
    obtain ⟨k, hk, rfl, rfl, hw⟩ := hrel
    first | (subst hw) | (cases hw)
    by_cases hgo : 0 < k
    · obtain ⟨i, rfl⟩ : ∃ i, k = i + 1 := ⟨k - 1, by omega⟩
      obtain ⟨gb, goff, hab, hcx⟩ := R_m.out i (by omega)
      have hst := vl10_drop (X := L) (k := i) (by omega)
      have hle := vl10_drop_le (l := L) i
      rw [X_l] at hle
      have hd9 := Lo_get HLO.out (by omega) i
      have e1 : ((i + 1 : Nat) : Int) - 1 = (i : Int) := by omega
      rw [e1]
      rw [hab]
      generalize L[i]?.getD 0 = dg1 at *
      generalize hx : vl 10 (L.drop (i + 1)) = x at *
      generalize hy : vl 10 (L.drop i) = y at *
      have HX := Lib.hid hx; have HY := Lib.hid hy; have HST := Lib.hid hst; have HAB := Lib.hid hab
      clear hx hy hab e1
      have hxx : x < 10000000000000000 := by omega
      clear hle hst
      go_wp2
      go_roundw
      case rel => exact ⟨i, by omega, by rw [HY.out, HST.out]; congr 1; omega, by congr 1, by trivial⟩
      case measure => first | (simp [intOf]; done) | (simp [intOf]; omega)
    · obtain rfl : k = 0 := by omega
      rw [List.drop_zero, X_l]

      have q1 : ¬ (9007199254740992 : Int) < (v : Int) := by omega
      clear h4
      rw [H5.out] at kp0
      have B_ := Lib.hid b4
      clear b4
      go_wp2
      refine bodyPost_ret (v := .tuple #[.int .i64 (v : Int), .int .i64 0]) (by simp [results, Tryz.results24, go_sem]) rfl ?_
      exact ⟨by first | (rw [HR.out]; done) | (rw [HR.out]; rfl), B_.out⟩
theorem RInt_any (s : Bool) (a : Option Addr) (c : Nat) (l : List Nat) (e : Int) (w : World) (hl : l.length ≤ 9223372036854775807) (hlo : Lo 4294967296 l) (hrd : Rd w .u32 a l) :
    Calls Tryz.prog 24 #[.agg #[.bool s, .slice a l.length c, .int .i64 e]] w (ResI (intB (normA l.length s (vl 1000000000 l) e)) w) := by
  have hpl := normA_plain l.length s (vl 1000000000 l) e
  by_cases h0 : (normA l.length s (vl 1000000000 l) e).err = 0
  · by_cases h1 : (normA l.length s (vl 1000000000 l) e).p.e < 0
    · exact RInt_part s a c l e w hl hlo hrd h0 h1
    · rcases Nat.eq_zero_or_pos (normA l.length s (vl 1000000000 l) e).p.m with h3 | h3
      · exact RInt_zpos s a c l e w hl hlo hrd h0 h1 h3 (by rw [whV_zero.2 h3]; omega) (by rw [zp_of hpl h3]; rfl)
      · by_cases h2 : 16 < hd (normA l.length s (vl 1000000000 l) e).p
        · exact RInt_head s a c l e w hl hlo hrd h0 h1 h3 h2
        · by_cases h4 : 9007199254740992 < whV (normA l.length s (vl 1000000000 l) e).p
          · exact RInt_lmore s a c l e w hl hlo hrd h0 h1 h3 h2 h4
          · cases h5 : (normA l.length s (vl 1000000000 l) e).p.neg with
            | true => exact RInt_lneg s a c l e w hl hlo hrd h0 h1 h3 h2 h4 h5
            | false => exact RInt_lpos s a c l e w hl hlo hrd h0 h1 h3 h2 h4 h5
  · exact RInt_err s a c l e w hl hlo hrd h0
end Go.Proofs.YtimfpgpomafflaaGreatDoor
