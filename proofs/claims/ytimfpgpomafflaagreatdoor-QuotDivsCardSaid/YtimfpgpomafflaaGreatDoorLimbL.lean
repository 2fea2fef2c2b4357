/- Walks: isAbove, Div64 (with a promise), bounds. -/
import Derived.Test.YtimfpgpomafflaaGreatDoorLimbMaths
import Derived.Test.YtimfpgpomafflaaGreatDoorLimbGs
namespace Go.Proofs.YtimfpgpomafflaaGreatDoor
open Go.RowKit LM

/-- the carry of a product by at most t -/
theorem carry_le {c t v : Nat} (hc : c ≤ t) (ht : t ≤ 1000000000) (hv : v < 1000000000) : (c + t * v) / 1000000000 ≤ t ∧ c + t * v ≤ 1000000000000000000 ∧ t * v ≤ 1000000000000000000 := by
  have h1 : t * v + t ≤ t * 1000000000 := by
    have : t * (v + 1) ≤ t * 1000000000 := Nat.mul_le_mul_left _ hv
    rw [Nat.mul_add, Nat.mul_one] at this; exact this
  have h2 : t * 1000000000 ≤ 1000000000 * 1000000000 := Nat.mul_le_mul_right _ ht
  rw [show (1000000000 : Nat) * 1000000000 = 1000000000000000000 by decide] at h2
  omega
/-- above: the low places of t times y are above the window's -/
def aboveB (V E : List Nat) : Bool := decide (vl 1000000000 V < vl 1000000000 E)
theorem aboveB_step {W E : List Nat} {k e v : Nat} (hE : Lo 1000000000 E) (hW : Lo 1000000000 W) (hl : E.length = k) (hk : k < W.length) (hv : v = W[k]?.getD 0) :
    aboveB (W.take (k + 1)) (E ++ [e]) = if e = v then aboveB (W.take k) E else decide (v < e) := by
  have h := above_snoc (E := E) (V := W.take k) (e := e) (v := v) hE (fun z hz => hW z (List.mem_of_mem_take hz)) (by rw [List.length_take]; omega)
  unfold aboveB
  rw [take_snoc W k hk, ← hv]
  by_cases he : e = v
  · rw [if_pos he]; subst he
    have : (vl 1000000000 (W.take k ++ [e]) < vl 1000000000 (E ++ [e])) ↔ vl 1000000000 (W.take k) < vl 1000000000 E := by rw [h]; omega
    simp only [this]
  · rw [if_neg he]
    have : (vl 1000000000 (W.take k ++ [v]) < vl 1000000000 (E ++ [e])) ↔ v < e := by rw [h]; omega
    simp only [this]

set_option maxHeartbeats 4000000 in
/-- isAbove -/
theorem isAbove_any (ya wa : Option Addr) (cy cw t : Nat) (y W : List Nat) (w : World) (hyW : y.length ≤ W.length) (hWl : W.length ≤ 4294967296) (ht : t ≤ 1000000000) (hyl : Lo 1000000000 y) (hWlo : Lo 1000000000 W)
    (hlt : t * vl 1000000000 y < 1000000000 ^ W.length) (hry : Rd w .u32 ya y) (hrw : Rd w .u32 wa W) :
    Calls Tryz.prog 112 #[.slice ya y.length cy, .int .u64 t, .slice wa W.length cw] w fun e w' => e = .returned (.bool (decide (vl 1000000000 W < t * vl 1000000000 y))) ∧ w = w' := by
  have HYL := Lib.hid hyl; have HWL := Lib.hid hWlo; have HLT := Lib.hid hlt
  clear hyl hWlo hlt
  go_enter Tryz.func112, Tryz.ntmps112
  go_wp2
  go_loop [7, 8, 14] (fun v7 v8 i => ∃ (k c : Nat) (E : List Nat) (ab : Bool), k ≤ W.length ∧ i = .int .i64 k ∧ v8 = .int .u64 c ∧ v7 = .bool ab ∧ c ≤ t ∧ Hid (E.length = k) ∧ Hid (Lo 1000000000 E) ∧ Hid (ab = aboveB (W.take k) E) ∧
      Hid (t * vl 1000000000 (y.take k) = vl 1000000000 E + 1000000000 ^ k * c)) (fun _ _ i => W.length - (intOf i).toNat)
  case atStart => exact ⟨0, 0, [], false, Nat.zero_le _, rfl, rfl, rfl, Nat.zero_le _, (rfl : ([] : List Nat).length = 0), Lo_nil _, (by simp [aboveB, vl] : false = aboveB (W.take 0) []), (by simp [vl] : t * vl 1000000000 (y.take 0) = vl 1000000000 [] + 1000000000 ^ 0 * 0)⟩
  case round =>
    obtain ⟨k, c, E, ab, hk, rfl, rfl, rfl, hc, HEL, HELo, HAB, HV⟩ := hrel
    by_cases hlt : k < W.length
    · obtain ⟨bw, ow, v, e1, HVw, hv, cv⟩ := hrw.get HWL.out k hlt
      subst e1
      by_cases hky : k < y.length
      · obtain ⟨by_, oy, u, e2, HU, hu, cu⟩ := hry.get HYL.out k hky
        subst e2
        obtain ⟨hb1, hb2, hb3⟩ := carry_le hc ht hu
        have hp0 : (0 : Int) ≤ (t : Int) * (u : Int) := by rw [← Int.natCast_mul]; omega
        have hp1 : (t : Int) * (u : Int) ≤ 1000000000000000000 := by rw [← Int.natCast_mul]; omega
        have hst := aboveB_step (e := (c + t * u) % 1000000000) HELo.out HWL.out HEL.out hlt HVw.out
        have HST := Lib.hid hst
        clear hst
        by_cases hev : (c + t * u) % 1000000000 = v
        · have hI : (((c : Int) + (t : Int) * (u : Int)) % 1000000000 != (v : Int)) = false := by rw [← Int.natCast_mul]; simp; omega
          go_wp2
          go_round
          case rel => exact ⟨k + 1, (c + t * u) / 1000000000, E ++ [(c + t * u) % 1000000000], ab, by omega, by go_num, by rw [← Int.natCast_mul]; go_num, rfl, by omega, (by rw [List.length_append, HEL.out]; rfl : (E ++ [(c + t * u) % 1000000000]).length = k + 1), (Lo_append HELo.out (Lo_one (by omega)) : Lo 1000000000 (E ++ [(c + t * u) % 1000000000])),
            (by rw [HST.out, if_pos hev]; exact HAB.out : ab = aboveB (W.take (k + 1)) (E ++ [(c + t * u) % 1000000000])), above_step HEL.out HU.out HV.out⟩
          case measure => simp [intOf]; omega
        · have hI : (((c : Int) + (t : Int) * (u : Int)) % 1000000000 != (v : Int)) = true := by rw [← Int.natCast_mul]; simp; omega
          go_wp2
          go_round
          case rel => exact ⟨k + 1, (c + t * u) / 1000000000, E ++ [(c + t * u) % 1000000000], decide ((v : Int) < ((c : Int) + (t : Int) * (u : Int)) % 1000000000), by omega, by go_num, by rw [← Int.natCast_mul]; go_num, rfl, by omega, (by rw [List.length_append, HEL.out]; rfl : (E ++ [(c + t * u) % 1000000000]).length = k + 1), (Lo_append HELo.out (Lo_one (by omega)) : Lo 1000000000 (E ++ [(c + t * u) % 1000000000])),
            (by rw [HST.out, if_neg hev]; exact decide_eq_decide.2 (by rw [← Int.natCast_mul]; omega) : decide ((v : Int) < ((c : Int) + (t : Int) * (u : Int)) % 1000000000) = aboveB (W.take (k + 1)) (E ++ [(c + t * u) % 1000000000])), above_step HEL.out HU.out HV.out⟩
          case measure => simp [intOf]; omega
      · have hyv : (0 : Nat) = y[k]?.getD 0 := by simp [hky]
        have hst := aboveB_step (e := c % 1000000000) HELo.out HWL.out HEL.out hlt HVw.out
        have HST := Lib.hid hst; have HYV := Lib.hid hyv
        clear hst hyv
        have hstep := above_step HEL.out HYV.out HV.out
        rw [Nat.mul_zero, Nat.add_zero] at hstep
        have HSTEP := Lib.hid hstep
        clear hstep
        by_cases hev : c % 1000000000 = v
        · have hI : ((c : Int) % 1000000000 != (v : Int)) = false := by simp; omega
          go_wp2
          go_round
          case rel => exact ⟨k + 1, (c) / 1000000000, E ++ [(c) % 1000000000], ab, by omega, by go_num, by go_num, rfl, by omega, (by rw [List.length_append, HEL.out]; rfl : (E ++ [(c) % 1000000000]).length = k + 1), (Lo_append HELo.out (Lo_one (by omega)) : Lo 1000000000 (E ++ [(c) % 1000000000])),
            (by rw [HST.out, if_pos hev]; exact HAB.out : ab = aboveB (W.take (k + 1)) (E ++ [(c) % 1000000000])), HSTEP⟩
          case measure => simp [intOf]; omega
        · have hI : ((c : Int) % 1000000000 != (v : Int)) = true := by simp; omega
          go_wp2
          go_round
          case rel => exact ⟨k + 1, (c) / 1000000000, E ++ [(c) % 1000000000], decide ((v : Int) < ((c : Int)) % 1000000000), by omega, by go_num, by go_num, rfl, by omega, (by rw [List.length_append, HEL.out]; rfl : (E ++ [(c) % 1000000000]).length = k + 1), (Lo_append HELo.out (Lo_one (by omega)) : Lo 1000000000 (E ++ [(c) % 1000000000])),
            (by rw [HST.out, if_neg hev]; exact decide_eq_decide.2 (by omega) : decide ((v : Int) < ((c : Int)) % 1000000000) = aboveB (W.take (k + 1)) (E ++ [(c) % 1000000000])), HSTEP⟩
          case measure => simp [intOf]; omega
    · obtain rfl : k = W.length := by omega
      have hE := above_end HEL.out hyW HLT.out HV.out
      have hab : ab = decide (vl 1000000000 W < t * vl 1000000000 y) := by
        rw [HAB.out]; unfold aboveB; rw [List.take_length, hE]
      have HF := Lib.hid hab
      clear hE hab
      go_wp2
      go_ret
      exact ⟨ret_bool HF.out, rfl⟩
end Go.Proofs.YtimfpgpomafflaaGreatDoor
