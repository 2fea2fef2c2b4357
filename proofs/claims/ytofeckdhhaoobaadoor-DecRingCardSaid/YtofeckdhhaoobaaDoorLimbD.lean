/- Walks: takeOff. -/
import Derived.Test.YtofeckdhhaoobaaDoorLimbC
namespace Go.Proofs.YtofeckdhhaoobaaDoor
open Go.RowKit LM

theorem off_c {c t v : Nat} (hc : c ≤ t + 1) (ht : t ≤ 1000000000) (hv : v < 1000000000) : t * v + t ≤ t * 1000000000 := by
  have : t * (v + 1) ≤ t * 1000000000 := Nat.mul_le_mul_left _ hv
  rw [Nat.mul_add, Nat.mul_one] at this; exact this

theorem own_step {w : World} {B : Nat} {e : TypeId} {ki : IntKind} {g C : Nat} {L d : List Nat} {off k : Nat} (h : Own w B e ki (some ⟨g, 0, none⟩) C (win L d off)) (hk : d.length = k) (hlt : off + k < L.length) (v : Nat) {yv : Int} (hy : yv = (v : Int)) :
    Own (w.setCell ⟨g, off + k, none⟩ (.int ki yv)) B e ki (some ⟨g, 0, none⟩) C (win L (d ++ [v]) off) := by
  have := h.set' (off + k) v hy
  subst hk
  rwa [win_set v hlt] at this
theorem own_step2 {w : World} {B : Nat} {e : TypeId} {ki : IntKind} {g C : Nat} {L d : List Nat} {off k : Nat} (h : Own w B e ki (some ⟨g, 0, none⟩) C (win L d off)) (hk : d.length = k) (hlt : off + k < L.length) (v v1 : Nat) {yv yv1 : Int} (hy : yv = (v : Int)) (hy1 : yv1 = (v1 : Int)) :
    Own ((w.setCell ⟨g, off + k, none⟩ (.int ki yv1)).setCell ⟨g, off + k, none⟩ (.int ki yv)) B e ki (some ⟨g, 0, none⟩) C (win L (d ++ [v]) off) := by
  have := (h.set' (off + k) v1 hy1).set' (off + k) v hy
  subst hk
  rwa [List.set_set, win_set v hlt] at this
theorem low_c {q t : Nat} (hq : q ≤ t * 1000000000 + 1) (ht : 1 ≤ t) : q / 1000000000 + 1 ≤ t + 1 := by omega
/-- the closing of a round: what was and what is -/
theorem off_round {x y d : List Nat} {t c k u v c' z : Nat} (hk : k < x.length) (hd : d.length = k) (hu : u = x[k]?.getD 0) (hv : v = y[k]?.getD 0)
    (h : vl 1000000000 (x.take k) + 1000000000 ^ k * c = vl 1000000000 d + t * vl 1000000000 (y.take k)) (hz : u + 1000000000 * c' = z + (c + t * v)) :
    vl 1000000000 (x.take (k + 1)) + 1000000000 ^ (k + 1) * c' = vl 1000000000 (d ++ [z]) + t * vl 1000000000 (y.take (k + 1)) :=
  off_step hk hd h c' z (c + t * v) (by rw [hv]) (by rw [← hu]; exact hz)

set_option maxHeartbeats 4000000 in
/-- takeOff: t times y is taken off the window of the row L -/
theorem takeOff_any (B g C off n cx cy t : Nat) (ya : Option Addr) (L y : List Nat) (w : World) (hown : Own w B 50 .u32 (some ⟨g, 0, none⟩) C L) (hoff : off + n ≤ L.length) (hL : L.length ≤ 4294967296)
    (hy : y.length ≤ n) (hyl : Lo 1000000000 y) (hxl : Lo 1000000000 ((L.drop off).take n)) (ht : t ≤ 1000000000) (hry : Rd w .u32 ya y) (hap : Apart ya g) (hle : t * vl 1000000000 y ≤ vl 1000000000 ((L.drop off).take n)) :
    Calls Tryd.prog 90 #[.slice (some ⟨g, off, none⟩) n cx, .slice ya y.length cy, .int .u64 t] w fun e w' => e = .returned (.tuple #[]) ∧ ∃ d : List Nat, d.length = n ∧ Lo 1000000000 d ∧
      vl 1000000000 d = vl 1000000000 ((L.drop off).take n) - t * vl 1000000000 y ∧ Own w' B 50 .u32 (some ⟨g, 0, none⟩) C (win L d off) ∧ w.grownBy w' (some g) := by
  have hxn : ((L.drop off).take n).length = n := by simp; omega
  have HXN := Lib.hid hxn
  have HYL := Lib.hid hyl; have HXL := Lib.hid hxl; have HLE := Lib.hid hle; have HAP := Lib.hid hap
  clear hxn hyl hxl hle hap
  go_enter Tryd.func90, Tryd.ntmps90
  go_wp2
  go_loopw [6, 12] (fun s6 i wr => ∃ (k c : Nat) (d : List Nat), k ≤ n ∧ i = .int .i64 k ∧ s6 = .int .u64 c ∧ c ≤ t + 1 ∧ Hid (d.length = k) ∧ Hid (Lo 1000000000 d) ∧
      Hid (vl 1000000000 (((L.drop off).take n).take k) + 1000000000 ^ k * c = vl 1000000000 d + t * vl 1000000000 (y.take k)) ∧ Own wr B 50 .u32 (some ⟨g, 0, none⟩) C (win L d off) ∧ w.grownBy wr (some g))
    (fun _ i _ => n - (intOf i).toNat)
  case atStart => exact ⟨0, 0, [], Nat.zero_le _, rfl, rfl, by omega, (rfl : ([] : List Nat).length = 0), (Lo_nil _), (by simp [vl] : vl 1000000000 (((L.drop off).take n).take 0) + 1000000000 ^ 0 * 0 = vl 1000000000 [] + t * vl 1000000000 (y.take 0)), by rw [win_nil]; exact hown, gb_refl _ _⟩
  case round =>
    obtain ⟨k, c, d, hk, rfl, rfl, hc, HDL, HDLo, HV, hownr, hgb⟩ := hrel
    by_cases hlt : k < n
    · have hdk := HDL.out
      have hwl : (win L d off).length = L.length := win_length (by omega)
      have hcell := hownr.cell (off + k) (by omega)
      have hu0 : (win L d off)[off + k]?.getD 0 = ((L.drop off).take n)[k]?.getD 0 := by rw [window_get hlt, ← hdk]; exact win_get (by omega)
      rw [hu0] at hcell
      have hfr := hownr.frozen (off + k)
      have hu1 : ((L.drop off).take n)[k]?.getD 0 < 1000000000 := Lo_get HXL.out (by omega) k
      obtain ⟨u, hu⟩ : ∃ u, u = ((L.drop off).take n)[k]?.getD 0 := ⟨_, rfl⟩
      rw [← hu] at hcell hu1
      have HU := Lib.hid hu
      clear hu hu0 hwl hdk
      by_cases hky : k < y.length
      · obtain ⟨b, o, v, e1, HVk, hv, cv⟩ := (hry.gb hgb HAP.out).get HYL.out k hky
        have hoc := off_c hc ht hv
        have hbig : t * 1000000000 ≤ 1000000000000000000 := by omega
        have hp0 : (0 : Int) ≤ (t : Int) * (v : Int) := by have := Nat.zero_le (t * v); rw [← Int.natCast_mul]; omega
        have hp1 : (t : Int) * (v : Int) + (t : Int) ≤ (t : Int) * 1000000000 := by rw [← Int.natCast_mul]; omega
        subst e1
        by_cases hlow : u < (c + t * v) % 1000000000
        · have hlowI : (u : Int) < ((c : Int) + (t : Int) * (v : Int)) % 1000000000 := by rw [← Int.natCast_mul]; omega
          go_wp2
          go_roundw
          case rel => exact ⟨k + 1, (c + t * v) / 1000000000 + 1, d ++ [u + 1000000000 - (c + t * v) % 1000000000], by omega, by go_num, by rw [← Int.natCast_mul]; go_num, by omega, (by rw [List.length_append, HDL.out]; rfl : (d ++ [u + 1000000000 - (c + t * v) % 1000000000]).length = k + 1), (Lo_append HDLo.out (Lo_one (by omega)) : Lo 1000000000 (d ++ [u + 1000000000 - (c + t * v) % 1000000000])),
            off_round (by rw [HXN.out]; exact hlt) HDL.out HU.out HVk.out HV.out (by omega), own_step2 hownr HDL.out (by omega) _ (u + 1000000000) (by rw [← Int.natCast_mul]; omega) (by omega), gb_set (gb_set hgb _ _) _ _⟩
          case measure => simp [intOf]; omega
        · have hlowI : ¬ (u : Int) < ((c : Int) + (t : Int) * (v : Int)) % 1000000000 := by rw [← Int.natCast_mul]; omega
          go_wp2
          go_roundw
          case rel => exact ⟨k + 1, (c + t * v) / 1000000000, d ++ [u - (c + t * v) % 1000000000], by omega, by go_num, by rw [← Int.natCast_mul]; go_num, by omega, (by rw [List.length_append, HDL.out]; rfl : (d ++ [u - (c + t * v) % 1000000000]).length = k + 1), (Lo_append HDLo.out (Lo_one (by omega)) : Lo 1000000000 (d ++ [u - (c + t * v) % 1000000000])),
            off_round (by rw [HXN.out]; exact hlt) HDL.out HU.out HVk.out HV.out (by omega), own_step hownr HDL.out (by omega) _ (by rw [← Int.natCast_mul]; omega), gb_set hgb _ _⟩
          case measure => simp [intOf]; omega
      · have hyv : (0 : Nat) = y[k]?.getD 0 := by simp [hky]
        have HYV := Lib.hid hyv
        clear hyv
        by_cases hlow : u < c % 1000000000
        · have hlowI : (u : Int) < (c : Int) % 1000000000 := by omega
          go_wp2
          go_roundw
          case rel => exact ⟨k + 1, c / 1000000000 + 1, d ++ [u + 1000000000 - c % 1000000000], by omega, by go_num, by go_num, by omega, (by rw [List.length_append, HDL.out]; rfl : (d ++ [u + 1000000000 - c % 1000000000]).length = k + 1), (Lo_append HDLo.out (Lo_one (by omega)) : Lo 1000000000 (d ++ [u + 1000000000 - c % 1000000000])),
            off_round (by rw [HXN.out]; exact hlt) HDL.out HU.out HYV.out HV.out (by omega), own_step2 hownr HDL.out (by omega) _ (u + 1000000000) (by omega) (by omega), gb_set (gb_set hgb _ _) _ _⟩
          case measure => simp [intOf]; omega
        · have hlowI : ¬ (u : Int) < (c : Int) % 1000000000 := by omega
          go_wp2
          go_roundw
          case rel => exact ⟨k + 1, c / 1000000000, d ++ [u - c % 1000000000], by omega, by go_num, by go_num, by omega, (by rw [List.length_append, HDL.out]; rfl : (d ++ [u - c % 1000000000]).length = k + 1), (Lo_append HDLo.out (Lo_one (by omega)) : Lo 1000000000 (d ++ [u - c % 1000000000])),
            off_round (by rw [HXN.out]; exact hlt) HDL.out HU.out HYV.out HV.out (by omega), own_step hownr HDL.out (by omega) _ (by omega), gb_set hgb _ _⟩
          case measure => simp [intOf]; omega
    · obtain rfl : k = n := by omega
      go_wp2
      go_end0
      have hV := HV.out
      rw [← HXN.out] at hV
      exact ⟨rfl, d, HDL.out, HDLo.out, off_end (by rw [HXN.out]; exact HDL.out) HDLo.out (by rw [HXN.out]; exact hy) HLE.out (by rw [HXN.out] at hV ⊢; exact hV), hownr, hgb⟩
end Go.Proofs.YtofeckdhhaoobaaDoor
