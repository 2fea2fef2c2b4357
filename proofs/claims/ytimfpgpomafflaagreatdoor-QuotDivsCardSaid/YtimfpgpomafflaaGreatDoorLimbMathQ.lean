/- Plain mathematics: a dividend of two words, shifted. Nothing of the program. -/
import Derived.Test.YtimfpgpomafflaaGreatDoorLimbMathK
namespace Go.Proofs.YtimfpgpomafflaaGreatDoor.LK

theorem or_add {a b s : Nat} (h : b < 2 ^ s) : (a * 2 ^ s) ||| b = a * 2 ^ s + b := by
  have := Nat.shiftLeft_add_eq_or_of_lt h a
  rw [Nat.shiftLeft_eq] at this
  exact this.symm
theorem low_part {lo s : Nat} (hs : s ≤ 64) (h : lo < 18446744073709551616) : lo / 2 ^ (64 - s) < 2 ^ s := by
  rw [Nat.div_lt_iff_lt_mul (Nat.pow_pos (by omega)), ← Nat.pow_add, show s + (64 - s) = 64 by omega, show (2 : Nat) ^ 64 = 18446744073709551616 by decide]
  exact h
theorem shifted {hi lo s : Nat} (hs : s ≤ 64) : (hi * 2 ^ s + lo / 2 ^ (64 - s)) * 18446744073709551616 + lo * 2 ^ s % 18446744073709551616 = (hi * 18446744073709551616 + lo) * 2 ^ s := by
  have e0 : (18446744073709551616 : Nat) = 2 ^ (64 - s) * 2 ^ s := by rw [← Nat.pow_add, show 64 - s + s = 64 by omega]
  have e1 : lo / 2 ^ (64 - s) = lo * 2 ^ s / 18446744073709551616 := by rw [e0, Nat.mul_div_mul_right _ _ (Nat.pow_pos (by omega))]
  have e2 := Nat.div_add_mod (lo * 2 ^ s) 18446744073709551616
  rw [e1, Nat.add_mul, Nat.add_mul, Nat.mul_right_comm hi]
  rw [Nat.mul_comm (lo * 2 ^ s / 18446744073709551616)]
  omega
theorem shifted_lt {hi lo y s : Nat} (hs : s ≤ 64) (hy : hi < y) (hlo : lo < 18446744073709551616) : hi * 2 ^ s + lo / 2 ^ (64 - s) < y * 2 ^ s := by
  have h := shifted (hi := hi) (lo := lo) hs
  have h1 : hi * 18446744073709551616 + lo < y * 18446744073709551616 := by
    have : (hi + 1) * 18446744073709551616 ≤ y * 18446744073709551616 := Nat.mul_le_mul_right _ hy
    omega
  have h2 : (hi * 18446744073709551616 + lo) * 2 ^ s < y * 18446744073709551616 * 2 ^ s := Nat.mul_lt_mul_of_pos_right h1 (Nat.pow_pos (by omega))
  rw [← h, Nat.mul_right_comm y] at h2
  generalize hi * 2 ^ s + lo / 2 ^ (64 - s) = U at *
  generalize y * 2 ^ s = Y at *
  omega
/-- the whole quotient, out of both halves -/
theorem whole {hi lo y s U A u1 u0 q1 R q0 : Nat} (hs : s ≤ 64) (hy : 0 < y) (hU : U = hi * 2 ^ s + lo / 2 ^ (64 - s)) (hA : A = lo * 2 ^ s % 18446744073709551616) (hu1 : u1 = A / 4294967296) (hu0 : u0 = A % 4294967296)
    (hq1 : q1 = (U * 4294967296 + u1) / (y * 2 ^ s)) (hR : R = U * 4294967296 + u1 - q1 * (y * 2 ^ s)) (hq0 : q0 = (R * 4294967296 + u0) / (y * 2 ^ s)) :
    q1 * 4294967296 + q0 = (hi * 18446744073709551616 + lo) / y := by
  have hp : 0 < 2 ^ s := Nat.pow_pos (by omega)
  have hY : 0 < y * 2 ^ s := Nat.mul_pos hy hp
  have h := two_halves (b := 4294967296) (U := U) (u1 := u1) (u0 := u0) (y := y * 2 ^ s) (q1 := q1) (by decide) hY (by rw [hu0]; exact Nat.mod_lt _ (by decide)) hq1
  rw [← hR, ← hq0] at h
  rw [h]
  have e : (U * 4294967296 + u1) * 4294967296 + u0 = (hi * 18446744073709551616 + lo) * 2 ^ s := by
    rw [← shifted hs, ← hU, ← hA]
    have hd := Nat.div_add_mod A 4294967296
    rw [← hu1, ← hu0] at hd
    clear h hq0 hR hq1 hu1 hu0 hA hU hY hp
    omega
  rw [e, Nat.mul_div_mul_right _ _ hp]
theorem wrap_rest {U u1 P R : Int} (h : U * 4294967296 + u1 - P = R) (h0 : 0 ≤ R) (h1 : R < 18446744073709551616) : ((U * 4294967296 % 18446744073709551616 + u1) % 18446744073709551616 - P % 18446744073709551616) % 18446744073709551616 = R := by omega
end Go.Proofs.YtimfpgpomafflaaGreatDoor.LK
