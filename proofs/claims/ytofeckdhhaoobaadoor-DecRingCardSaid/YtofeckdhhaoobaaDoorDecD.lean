/- Walks of the document's answer for dec: Make, Head, Fits. -/
import Derived.Test.YtofeckdhhaoobaaDoorDecC
import Derived.Test.YtofeckdhhaoobaaDoorLimbY
namespace Go.Proofs.YtofeckdhhaoobaaDoor
open Go.RowKit LM

/-- a number of digits in memory -/
def RdC (w : World) (a : Option Addr) (c m : Nat) : Prop := Rd w .u8 a (dg 10 m) ∧ (dg 10 m).length ≤ c ∧ c ≤ maxLen ∧ (a = none → m = 0 ∧ c = 0)
theorem RdC.below {w w' : World} {a : Option Addr} {c m : Nat} (h : RdC w a c m) (hb : Below w.heap.size w w') : RdC w' a c m := ⟨h.1.below hb, h.2⟩
theorem RdC.ofOwn {w : World} {B c m : Nat} {t : TypeId} {a : Option Addr} (h : Own w B t .u8 a c (dg 10 m)) : RdC w a c m :=
  ⟨h.rd, h.cap.1, h.cap.2, fun hn => by obtain ⟨h1, h2⟩ := h.none_nil hn; exact ⟨(dg_eq_nil (by omega)).1 h1, h2⟩⟩
theorem RdC.zero (w : World) : RdC w none 0 0 := ⟨by rw [dg_zero]; exact Rd.nil _ _ _, by rw [dg_zero]; exact Nat.le_refl _, Nat.zero_le _, fun _ => ⟨rfl, rfl⟩⟩

theorem dg_lowest {v : Nat} {k : Nat} (h : k < (dg 10 v).length) : (dg 10 v)[k]?.getD 0 = v / 10 ^ k % 10 := by
  have h1 := dg_drop (b := 10) (by omega) k v
  have h2 := drop_cons h
  rw [h1] at h2
  have hp : 0 < v / 10 ^ k := by
    rcases Nat.eq_zero_or_pos (v / 10 ^ k) with e | e
    · rw [e, dg_zero] at h2; cases h2
    · exact e
  rw [dg_pos (by omega) hp] at h2
  exact (List.cons.inj h2).1.symm
theorem tz_go {v k : Nat} (h : k ≤ tz v) (h0 : 0 < v) : tz (v / 10 ^ k) = tz v - k ∧ 0 < v / 10 ^ k := by
  obtain ⟨c1, c2⟩ := tz_spec v h0
  have e : v / 10 ^ k = core v * 10 ^ (tz v - k) := by
    have : v = core v * 10 ^ (tz v - k) * 10 ^ k := by rw [Nat.mul_assoc, ← Nat.pow_add, Nat.sub_add_cancel h]; exact c2.symm
    generalize core v * 10 ^ (tz v - k) = q at *
    rw [this, Nat.mul_div_cancel _ (Nat.pow_pos (by omega))]
  rw [e, tz_plain c1]
  exact ⟨rfl, Nat.mul_pos (by omega) (Nat.pow_pos (by omega))⟩
theorem tz_end {v k : Nat} (h : k ≤ tz v) (h0 : 0 < v) (hd : v / 10 ^ k % 10 ≠ 0) : k = tz v := by
  have h1 := (tz_go h h0).1
  rw [tz_no hd] at h1; omega
theorem tz_more {v k : Nat} (h : k ≤ tz v) (h0 : 0 < v) (hd : v / 10 ^ k % 10 = 0) : k + 1 ≤ tz v := by
  obtain ⟨h1, h2⟩ := tz_go h h0
  rw [tz_yes h2 hd] at h1; omega
theorem tz_len {v : Nat} (h0 : 0 < v) : tz v < (dg 10 v).length := tz_lt h0 (dg_upper (by omega) v)

def ResM (p : Pl) (w : World) (r : Ending) (w' : World) : Prop := ∃ a' c', r = .returned (.agg #[.bool p.neg, .slice a' (dg 10 p.m).length c', .int .i64 p.e]) ∧ RdC w' a' c' p.m ∧ Below w.heap.size w w'

set_option maxHeartbeats 4000000 in
theorem Make_any (s : Bool) (a : Option Addr) (c v : Nat) (e : Int) (w : World) (hl : (dg 10 v).length ≤ 1000000) (he : -1000000 ≤ e) (he2 : e ≤ 1000000) (hrd : RdC w a c v) :
    Calls Tryd.prog 42 #[.bool s, .slice a (dg 10 v).length c, .int .i64 e] w (ResM (pl s v e) w) := by
  obtain ⟨hrd, hc1, hc2, hnn⟩ := hrd
  rcases Nat.eq_zero_or_pos v with h0 | h0
  · subst h0
    have hp : pl s 0 e = zP := rfl
    rw [hp, dg_zero]
    clear hp hrd hc1 hl hnn
    go_enter Tryd.func42, Tryd.ntmps42
    go_wp2
    go_loop [7] (fun i => i = .int .i64 0) (fun i => 0)
    case atStart => rfl
    case round =>
      subst hrel
      go_wp2
      refine bodyPost_ret (v := .agg #[.bool false, .slice none 0 0, .int .i64 0]) (by simp [results, Tryd.results42, go_sem]) rfl ?_
      exact ⟨none, 0, by show _ = Ending.returned (.agg #[.bool false, .slice none (dg 10 0).length 0, .int .i64 0]); rw [dg_zero]; rfl, RdC.zero _, (Below.refl _ _).alloc (Nat.le_refl _) _⟩
  · obtain ⟨b, off, rfl, _⟩ := hrd.at (by have := tz_len h0; omega)
    have hlo := Lo_dg (b := 10) (by omega) v
    have hlow : ∀ k, k < (dg 10 v).length → (dg 10 v)[k]?.getD 0 = v / 10 ^ k % 10 := fun k hk => dg_lowest hk
    have htz := tz_len h0
    have hcore : (dg 10 v).drop (tz v) = dg 10 (core v) := dg_drop (by omega) _ _
    have hcl : (dg 10 (core v)).length = (dg 10 v).length - tz v := by rw [← hcore, List.length_drop]
    have hp : pl s v e = ⟨s, core v, e + tz v⟩ := by unfold pl; rw [if_neg (by omega)]
    rw [hp]
    have HLO := Lib.hid hlo; have HLOW := Lib.hid hlow; have HCORE := Lib.hid hcore; have HCL := Lib.hid hcl
    clear hlo hlow hcore hcl hp hnn
    generalize dg 10 v = x at *
    unfold maxLen at hc2
    go_enter Tryd.func42, Tryd.ntmps42
    go_wp2
    go_loop [7] (fun i => ∃ k : Nat, k ≤ tz v ∧ i = .int .i64 k) (fun i => x.length - (intOf i).toNat)
    case atStart => exact ⟨0, Nat.zero_le _, rfl⟩
    case round =>
      obtain ⟨k, hk, rfl⟩ := hrel
      obtain ⟨b1, o1, z, e1, HZ, hz, hcz⟩ := (hrd.alloc (.cells #[.bool false, .slice none 0 0, .int .i64 0] 56)).get HLO.out k (by omega)
      simp only [Option.some.injEq, Addr.mk.injEq, and_true] at e1
      obtain ⟨rfl, rfl⟩ := e1
      have hzv := HZ.out
      rw [HLOW.out k (by omega)] at hzv
      by_cases h10 : z = 0
      · have hm := tz_more hk h0 (by rw [← hzv]; exact h10)
        have hzB : ((z : Int) == 0) = true := by simp [h10]
        clear hzv h10
        go_wp2
        go_round
        case rel => exact ⟨k + 1, hm, by go_num⟩
        case measure => simp [intOf]; omega
      · have hm := tz_end hk h0 (by rw [← hzv]; exact h10)
        have hzB : ((z : Int) == 0) = false := by simp; omega
        subst hm
        clear hzv h10
        have hne : ((tz v : Int) == (x.length : Int)) = false := by simp; omega
        go_wp2
        have hr9 : ∀ W, Below w.heap.size w W → RdC W (some ⟨b, off + tz v, none⟩) (c - tz v) (core v) := fun W hb => by
          refine ⟨?_, by rw [HCL.out]; omega, by unfold maxLen; omega, fun h => by cases h⟩
          have := (hrd.below hb).drop (tz v)
          rw [HCORE.out] at this; exact this
        have HR9 := Lib.hid hr9
        clear hr9
        refine bodyPost_ret (v := .agg #[.bool s, .slice (some ⟨b, off + tz v, none⟩) (x.length - tz v) (c - tz v), .int .i64 (e + (tz v : Int))]) (by simp [results, Tryd.results42, go_sem]) rfl ?_
        have hbl : ∀ o, Below w.heap.size w (w.alloc o) := fun o => (Below.refl _ _).alloc (Nat.le_refl _) _
        exact ⟨_, _, by rw [HCL.out], HR9.out _ (hbl _), hbl _⟩

set_option maxHeartbeats 1000000 in
theorem Head_any (s : Bool) (a : Option Addr) (n c : Nat) (e : Int) (w : World) (hn : n ≤ 10000000) (he : -1000000 ≤ e) (he2 : e ≤ 1000000) :
    Calls Tryd.prog 51 #[.agg #[.bool s, .slice a n c, .int .i64 e]] w fun r w' => r = .returned (.int .i64 (e + n - 1)) ∧ Below w.heap.size w w' := by
  go_enter Tryd.func51, Tryd.ntmps51
  go_wp2
  go_ret
  exact ⟨rfl, (Below.refl _ _).alloc (Nat.le_refl _) _⟩

set_option maxHeartbeats 2000000 in
theorem Fits_any (s : Bool) (a : Option Addr) (c m : Nat) (e : Int) (w : World) (hl : dl m ≤ 1000000) (he : -1000000 ≤ e) (he2 : e ≤ 1000000) (hp : PlainP ⟨s, m, e⟩) :
    Calls Tryd.prog 69 #[.agg #[.bool s, .slice a (dl m) c, .int .i64 e]] w fun r w' => r = .returned (.bool (inR ⟨s, m, e⟩)) ∧ Below w.heap.size w w' := by
  rcases Nat.eq_zero_or_pos m with h0 | h0
  · have hin : inR ⟨s, m, e⟩ = true := by
      rcases hp with ⟨_, h⟩ | h
      · rw [h]; exact zP_in
      · subst h0; simp at h
    have hz : dl m = 0 := by rw [h0]; unfold dl; rw [dg_zero]; rfl
    rw [hz, hin]
    clear hz hin h0 hp hl
    go_enter Tryd.func69, Tryd.ntmps69
    go_wp2
    go_ret
    exact ⟨rfl, (Below.refl _ _).alloc (Nat.le_refl _) _⟩
  · have hpos : 0 < dl m := by unfold dl; rw [dg_pos (by omega) h0]; simp
    have hR : ∀ d : Nat, d = dl m → inR ⟨s, m, e⟩ = decide (d ≤ 400 ∧ -10000 ≤ e + d - 1 ∧ e + d - 1 ≤ 10000) := fun d hd => by unfold inR; rw [hd]
    obtain ⟨d, hd⟩ : ∃ d, d = dl m := ⟨_, rfl⟩
    have hin := hR d hd
    rw [← hd] at hl hpos ⊢
    have HIN := Lib.hid hin
    have hHD := fun W => Head_any s a d c e W (by omega) he he2
    have HHD := Lib.hid hHD
    clear hR hd hin hp h0 hHD
    by_cases h1 : d ≤ 400
    · by_cases h2 : -10000 ≤ e + d - 1
      · have hr : inR ⟨s, m, e⟩ = decide (e + d - 1 ≤ 10000) := by rw [HIN.out]; simp [h1, h2]
        have HRR := Lib.hid hr
        clear hr
        go_enter Tryd.func69, Tryd.ntmps69
        go_wp2_with fail
        refine (HHD.out _).mono ?_
        rintro r w1 ⟨rfl, hb⟩
        have bb := ((Below.refl w.heap.size w).alloc (Nat.le_refl _) (.cells #[.bool s, .slice a d c, .int .i64 e] 56)).trans (hb.mono (by simp))
        obtain ⟨hc, hf⟩ := bcell hb
        clear hb
        go_wp2
        go_ret
        exact ⟨ret_bool HRR.out.symm, bb⟩
      · have hr : inR ⟨s, m, e⟩ = false := by rw [HIN.out]; simp [h2]
        have HRR := Lib.hid hr
        clear hr
        go_enter Tryd.func69, Tryd.ntmps69
        go_wp2_with fail
        refine (HHD.out _).mono ?_
        rintro r w1 ⟨rfl, hb⟩
        have bb := ((Below.refl w.heap.size w).alloc (Nat.le_refl _) (.cells #[.bool s, .slice a d c, .int .i64 e] 56)).trans (hb.mono (by simp))
        obtain ⟨hc, hf⟩ := bcell hb
        clear hb
        go_wp2
        go_ret
        exact ⟨ret_bool HRR.out.symm, bb⟩
    · have hr : inR ⟨s, m, e⟩ = false := by rw [HIN.out]; simp [h1]
      have HRR := Lib.hid hr
      clear hr
      go_enter Tryd.func69, Tryd.ntmps69
      go_wp2_with fail
      refine (HHD.out _).mono ?_
      rintro r w1 ⟨rfl, hb⟩
      have bb := ((Below.refl w.heap.size w).alloc (Nat.le_refl _) (.cells #[.bool s, .slice a d c, .int .i64 e] 56)).trans (hb.mono (by simp))
      obtain ⟨hc, hf⟩ := bcell hb
      clear hb
      go_wp2
      go_ret
      exact ⟨ret_bool HRR.out.symm, bb⟩
end Go.Proofs.YtofeckdhhaoobaaDoor
