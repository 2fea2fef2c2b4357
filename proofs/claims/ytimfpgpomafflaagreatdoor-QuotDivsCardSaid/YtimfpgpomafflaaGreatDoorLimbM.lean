/- Walks: Div64 (with a promise), bounds. -/
import Derived.Test.YtimfpgpomafflaaGreatDoorLimbL
namespace Go.Proofs.YtimfpgpomafflaaGreatDoor
open Go.RowKit LM

def two64 : Nat := 18446744073709551616
def mhi (x y : Nat) : Nat := x * y / two64
def mlo (x y : Nat) : Nat := x * y % two64
def alo (x y : Nat) : Nat := (x + y) % two64
def acar (x y : Nat) : Nat := (x + y) / two64
theorem mlo_le (x y : Nat) : mlo x y ≤ 18446744073709551615 := by unfold mlo two64; omega
theorem alo_le (x y : Nat) : alo x y ≤ 18446744073709551615 := by unfold alo two64; omega
theorem acar_le {x y : Nat} (hx : x ≤ 18446744073709551615) (hy : y < 1000000000) : acar x y ≤ 1 := by unfold acar two64; omega
theorem split3 (x y z : Nat) : (mhi x y + acar (mlo x y) z) * two64 + alo (mlo x y) z = x * y + z := by
  unfold mhi mlo acar alo two64
  generalize x * y = p
  omega
theorem mhi_le {x : Nat} (hx : x ≤ 999999999999999999) : mhi x 1000000000 ≤ 60000000 := by unfold mhi two64; omega
theorem div_two64 {a l : Nat} (h : l ≤ 18446744073709551615) : (a * two64 + l) / two64 = a := by unfold two64; omega

/-- Div64 keeps its word, its first argument being at most T -/
def DivP (T : Nat) : Prop := ∀ (hi lo y : Nat) (w : World), hi ≤ T → hi < y → y ≤ 18446744073709551615 → lo ≤ 18446744073709551615 →
  Calls Tryz.prog 128 #[.int .u64 hi, .int .u64 lo, .int .u64 y] w fun e w' => ∃ q r : Nat, Hid (q = (hi * two64 + lo) / y) ∧ e = .returned (.tuple #[.int .u64 q, .int .u64 r]) ∧ Below w.heap.size w w'

set_option maxHeartbeats 1000000 in
theorem Div64_zero : DivP 0 := by
  intro hi lo y w h0 hy hy64 hlo
  obtain rfl : hi = 0 := by omega
  clear h0
  have hyI : 0 < (y : Int) := by omega
  have hyI1 : ((y : Int) == 0) = false := by simp; omega
  have hqI : (lo : Int) / (y : Int) ≤ 18446744073709551615 := by
    have : (lo : Int) / (y : Int) = ((lo / y : Nat) : Int) := by simp
    rw [this]; have := Nat.div_le_self lo y; omega
  have hqI0 : 0 ≤ (lo : Int) / (y : Int) := by
    have : (lo : Int) / (y : Int) = ((lo / y : Nat) : Int) := by simp
    rw [this]; exact Int.natCast_nonneg _
  go_enter Tryz.func128, Tryz.ntmps128
  go_wp2_with fail
  go_quiet (fail)
  go_wp2
  go_ret2
  exact ⟨lo / y, lo % y, by show lo / y = (0 * two64 + lo) / y; rw [Nat.zero_mul, Nat.zero_add], by simp, bdN (Below.refl _ _) _⟩

theorem DivAt {T : Nat} (HD : DivP T) (hi lo y : Nat) (hiI yI : Int) (e1 : hiI = (hi : Int)) (e2 : yI = (y : Int)) (w : World) (h1 : hi ≤ T) (h2 : hi < y) (h3 : y ≤ 18446744073709551615) (h4 : lo ≤ 18446744073709551615) :
    Calls Tryz.prog 128 #[.int .u64 hiI, .int .u64 lo, .int .u64 yI] w fun e w' => ∃ q r : Nat, Hid (q = (hi * two64 + lo) / y) ∧ e = .returned (.tuple #[.int .u64 q, .int .u64 r]) ∧ Below w.heap.size w w' := by
  subst e1 e2; exact HD hi lo y w h1 h2 h3 h4
theorem Add64_zero (x : Nat) (w : World) (h : ∀ w, (callFunc 127 #[.int .u64 x, .int .u64 ((0 : Nat) : Int), .int .u64 0]).run Tryz.prog w = .ok (.value (.tuple #[.int .u64 (alo x 0 : Nat), .int .u64 (acar x 0 : Nat)])) w) :
    (callFunc 127 #[.int .u64 x, .int .u64 0, .int .u64 0]).run Tryz.prog w = .ok (.value (.tuple #[.int .u64 (alo x 0 : Nat), .int .u64 (acar x 0 : Nat)])) w := h w
theorem Mul64_at (xi : Int) (x : Nat) (hx : xi = (x : Int)) (hx64 : x ≤ 18446744073709551615) (w : World) :
    Calls Tryz.prog 126 #[.int .u64 xi, .int .u64 1000000000] w fun e w' => e = .returned (.tuple #[.int .u64 (mhi x 1000000000 : Nat), .int .u64 (mlo x 1000000000 : Nat)]) ∧ w = w' := by
  subst hx
  have h := Tryz.bits_Mul64 x 1000000000 (by omega) (by omega) w
  exact h.mono fun e w' hh => ⟨hh.1, hh.2.symm⟩
theorem Add64_at (x y : Nat) (w : World) : (callFunc 127 #[.int .u64 x, .int .u64 y, .int .u64 0]).run Tryz.prog w = .ok (.value (.tuple #[.int .u64 (alo x y : Nat), .int .u64 (acar x y : Nat)])) w := by
  have h := Any7.bits_Add64 Tryz.lays7n25 x y 0 (by omega) w
  exact h

set_option maxHeartbeats 4000000 in
set_option maxRecDepth 100000 in
/-- bounds, a divisor of two limbs and more -/
theorem bounds_many (T : Nat) (HD : DivP T) (ya wa : Option Addr) (cy cw m : Nat) (y W : List Nat) (w : World) (hym : y.length = m + 2) (hWm : W.length = m + 3) (hm : m ≤ 4294967296) (hyl : Lo 1000000000 y) (hWlo : Lo 1000000000 W)
    (hry : Rd w .u32 ya y) (hrw : Rd w .u32 wa W) (hy1 : 1 ≤ y[m + 1]?.getD 0) (W3 by_ : Nat) (hW3 : W3 = (W[m + 2]?.getD 0 * 1000000000 + W[m + 1]?.getD 0) * 1000000000 + W[m]?.getD 0) (hby : by_ = y[m + 1]?.getD 0 * 1000000000 + y[m]?.getD 0) (hT : W3 / two64 ≤ T) :
    Calls Tryz.prog 109 #[.slice wa (m + 3) cw, .slice ya (m + 2) cy] w fun e w' => ∃ lo hi : Nat, Hid (lo = W3 / (by_ + 1)) ∧ Hid (hi = W3 / by_) ∧ e = .returned (.tuple #[.int .u64 lo, .int .u64 hi]) ∧ Below w.heap.size w w' := by
  obtain ⟨b1, o1, x0, e1, HX0, hx0, cx0⟩ := hrw.get hWlo (m + 2) (by omega)
  obtain ⟨b1', o1', x1, e1', HX1, hx1, cx1⟩ := hrw.get hWlo (m + 1) (by omega)
  obtain ⟨b1'', o1'', x2, e1'', HX2, hx2, cx2⟩ := hrw.get hWlo m (by omega)
  obtain ⟨b2, o2, z1, e2, HZ1, hz1, cz1⟩ := hry.get hyl (m + 1) (by omega)
  obtain ⟨b2', o2', z2, e2', HZ2, hz2, cz2⟩ := hry.get hyl m (by omega)
  subst e1 e2
  simp only [Option.some.injEq, Addr.mk.injEq, and_true] at e1' e1'' e2'
  obtain ⟨rfl, rfl⟩ := e1'
  obtain ⟨rfl, rfl⟩ := e1''
  obtain ⟨rfl, rfl⟩ := e2'
  have hz1p : 1 ≤ z1 := by rw [HZ1.out]; exact hy1
  rw [← HX0.out, ← HX1.out, ← HX2.out] at hW3
  rw [← HZ1.out, ← HZ2.out] at hby
  have hl1 := mlo_le (x0 * 1000000000 + x1) 1000000000
  have hl2 := alo_le (mlo (x0 * 1000000000 + x1) 1000000000) x2
  have hc1 := acar_le hl1 hx2
  have hh1 := mhi_le (x := x0 * 1000000000 + x1) (by omega)
  have hsp := split3 (x0 * 1000000000 + x1) 1000000000 x2
  rw [← hW3] at hsp
  have hHT : mhi (x0 * 1000000000 + x1) 1000000000 + acar (mlo (x0 * 1000000000 + x1) 1000000000) x2 ≤ T := by
    have : (mhi (x0 * 1000000000 + x1) 1000000000 + acar (mlo (x0 * 1000000000 + x1) 1000000000) x2) = W3 / two64 := by
      rw [← hsp, div_two64 hl2]
    omega
  have hA := Add64_at (mlo (x0 * 1000000000 + x1) 1000000000) x2
  have hM := fun w => Mul64_at ((x0 : Int) * 1000000000 + (x1 : Int)) (x0 * 1000000000 + x1) (by omega) (by omega) w
  generalize mhi (x0 * 1000000000 + x1) 1000000000 = h at *
  generalize mlo (x0 * 1000000000 + x1) 1000000000 = d at *
  generalize alo d x2 = lo1 at *
  generalize acar d x2 = ca at *
  have HSP := Lib.hid hsp; have HM := Lib.hid hM; have HBY := Lib.hid hby
  clear hsp hM hby hW3 hyl hWlo hry hrw hy1 hT hym hWm
  have hD1 := fun w => DivAt HD (h + ca) lo1 (z1 * 1000000000 + z2 + 1) ((h : Int) + (ca : Int)) ((z1 : Int) * 1000000000 + (z2 : Int) + 1) (by omega) (by omega) w hHT (by omega) (by omega) hl2
  have hD2 := fun w => DivAt HD (h + ca) lo1 (z1 * 1000000000 + z2) ((h : Int) + (ca : Int)) ((z1 : Int) * 1000000000 + (z2 : Int)) (by omega) (by omega) w hHT (by omega) (by omega) hl2
  have HD1 := Lib.hid hD1; have HD2 := Lib.hid hD2
  clear hD1 hD2 HD hHT
  go_enter Tryz.func109, Tryz.ntmps109
  go_wp2_with fail
  go_quiet (fail)
  go_wp2_with fail
  go_quiet ((go_at_call 126; first | exact still (HM.out _) | exact still2 (HM.out _)))
  go_wp2_with fail
  refine (HD1.out _).mono ?_
  rintro e w3 ⟨q1, r1, HQ1, rfl, hb3⟩
  go_wp2_with fail
  refine (HD2.out _).mono ?_
  rintro e w4 ⟨q2, r2, HQ2, rfl, hb4⟩
  go_wp2
  go_ret2
  refine ⟨q1, q2, ?_, ?_, rfl, ?_⟩
  · show q1 = W3 / (by_ + 1)
    rw [HBY.out, ← HSP.out]; exact HQ1.out
  · show q2 = W3 / by_
    rw [HBY.out, ← HSP.out]; exact HQ2.out
  · exact (bdN (Below.refl w.heap.size w) _).trans (hb3.trans (hb4.mono hb3.size))

set_option maxHeartbeats 4000000 in
set_option maxRecDepth 100000 in
/-- bounds, a divisor of one limb -/
theorem bounds_one (T : Nat) (HD : DivP T) (ya wa : Option Addr) (cy cw : Nat) (y W : List Nat) (w : World) (hym : y.length = 1) (hWm : W.length = 2) (hyl : Lo 1000000000 y) (hWlo : Lo 1000000000 W)
    (hry : Rd w .u32 ya y) (hrw : Rd w .u32 wa W) (hy1 : 1 ≤ y[0]?.getD 0) (W3 by_ : Nat) (hW3 : W3 = (W[1]?.getD 0 * 1000000000 + W[0]?.getD 0) * 1000000000) (hby : by_ = y[0]?.getD 0 * 1000000000) (hT : W3 / two64 ≤ T) :
    Calls Tryz.prog 109 #[.slice wa 2 cw, .slice ya 1 cy] w fun e w' => ∃ lo hi : Nat, Hid (lo = W3 / (by_ + 1)) ∧ Hid (hi = W3 / by_) ∧ e = .returned (.tuple #[.int .u64 lo, .int .u64 hi]) ∧ Below w.heap.size w w' := by
  obtain ⟨b1, o1, x0, e1, HX0, hx0, cx0⟩ := hrw.get hWlo 1 (by omega)
  obtain ⟨b1', o1', x1, e1', HX1, hx1, cx1⟩ := hrw.get hWlo 0 (by omega)
  obtain ⟨b2, o2, z1, e2, HZ1, hz1, cz1⟩ := hry.get hyl 0 (by omega)
  subst e1 e2
  simp only [Option.some.injEq, Addr.mk.injEq, and_true] at e1'
  obtain ⟨rfl, rfl⟩ := e1'
  rw [Nat.add_zero] at cx1 cz1
  have hz1p : 1 ≤ z1 := by rw [HZ1.out]; exact hy1
  rw [← HX0.out, ← HX1.out] at hW3
  rw [← HZ1.out] at hby
  have hl1 := mlo_le (x0 * 1000000000 + x1) 1000000000
  have hl2 := alo_le (mlo (x0 * 1000000000 + x1) 1000000000) 0
  have hc1 := acar_le (y := 0) hl1 (by omega)
  have hh1 := mhi_le (x := x0 * 1000000000 + x1) (by omega)
  have hsp := split3 (x0 * 1000000000 + x1) 1000000000 0
  rw [Nat.add_zero, ← hW3] at hsp
  have hHT : mhi (x0 * 1000000000 + x1) 1000000000 + acar (mlo (x0 * 1000000000 + x1) 1000000000) 0 ≤ T := by
    have : (mhi (x0 * 1000000000 + x1) 1000000000 + acar (mlo (x0 * 1000000000 + x1) 1000000000) 0) = W3 / two64 := by
      rw [← hsp, div_two64 hl2]
    omega
  have hA := fun w => Add64_zero (mlo (x0 * 1000000000 + x1) 1000000000) w (Add64_at _ 0)
  have hM := fun w => Mul64_at ((x0 : Int) * 1000000000 + (x1 : Int)) (x0 * 1000000000 + x1) (by omega) (by omega) w
  generalize mhi (x0 * 1000000000 + x1) 1000000000 = h at *
  generalize mlo (x0 * 1000000000 + x1) 1000000000 = d at *
  generalize alo d 0 = lo1 at *
  generalize acar d 0 = ca at *
  have HSP := Lib.hid hsp; have HM := Lib.hid hM; have HBY := Lib.hid hby
  clear hsp hM hby hW3 hyl hWlo hry hrw hy1 hT hym hWm
  have hD1 := fun w => DivAt HD (h + ca) lo1 (z1 * 1000000000 + 1) ((h : Int) + (ca : Int)) ((z1 : Int) * 1000000000 + 1) (by omega) (by omega) w hHT (by omega) (by omega) hl2
  have hD2 := fun w => DivAt HD (h + ca) lo1 (z1 * 1000000000) ((h : Int) + (ca : Int)) ((z1 : Int) * 1000000000) (by omega) (by omega) w hHT (by omega) (by omega) hl2
  have HD1 := Lib.hid hD1; have HD2 := Lib.hid hD2
  clear hD1 hD2 HD hHT
  go_enter Tryz.func109, Tryz.ntmps109
  go_wp2_with fail
  go_quiet ((go_at_call 126; first | exact still (HM.out _) | exact still2 (HM.out _)))
  go_wp2_with fail
  refine (HD1.out _).mono ?_
  rintro e w3 ⟨q1, r1, HQ1, rfl, hb3⟩
  go_wp2_with fail
  refine (HD2.out _).mono ?_
  rintro e w4 ⟨q2, r2, HQ2, rfl, hb4⟩
  go_wp2
  go_ret2
  refine ⟨q1, q2, ?_, ?_, rfl, ?_⟩
  · show q1 = W3 / (by_ + 1)
    rw [HBY.out, ← HSP.out]; exact HQ1.out
  · show q2 = W3 / by_
    rw [HBY.out, ← HSP.out]; exact HQ2.out
  · exact (bdN (Below.refl w.heap.size w) _).trans (hb3.trans (hb4.mono hb3.size))
end Go.Proofs.YtimfpgpomafflaaGreatDoor
