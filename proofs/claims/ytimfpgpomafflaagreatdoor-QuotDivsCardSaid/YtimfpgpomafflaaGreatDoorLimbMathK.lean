/- Plain mathematics: a quotient's half word, looked for from above (Knuth's algorithm D at two half words). Nothing of the program. -/
import Derived.WalkKit
namespace Go.Proofs.YtimfpgpomafflaaGreatDoor.LK

/-- q times y is not above U times b and u1, just if .. -/
theorem est_iff {b U u1 y y1 y0 q r : Nat} (hy : y = y1 * b + y0) (hU : q * y1 + r = U) : q * y ≤ U * b + u1 ↔ q * y0 ≤ b * r + u1 := by
  have e1 : q * y = q * y1 * b + q * y0 := by rw [hy, Nat.mul_add, Nat.mul_assoc]
  have e2 : U * b = q * y1 * b + b * r := by rw [← hU, Nat.add_mul, Nat.mul_comm r b]
  rw [e1, e2]; omega
theorem quo_lt {b U u1 y : Nat} (hb : 0 < b) (hU : U < y) (hu : u1 < b) : (U * b + u1) / y < b := by
  rw [Nat.div_lt_iff_lt_mul (by omega)]
  have : (U + 1) * b ≤ y * b := Nat.mul_le_mul_right _ hU
  rw [Nat.add_mul, Nat.one_mul] at this
  rw [Nat.mul_comm b y]; omega
/-- the first estimate is not below the quotient, and hardly above the half word -/
theorem est_start {b U u1 y y1 y0 : Nat} (hy : y = y1 * b + y0) (hy1 : 0 < y1) (h2 : y0 < 2 * y1) (hU : U < y) (hu : u1 < b) :
    (U * b + u1) / y ≤ U / y1 ∧ U / y1 ≤ b + 1 ∧ U / y1 * y1 + (U - U / y1 * y1) = U ∧ U - U / y1 * y1 < y1 := by
  have hdm := Nat.div_add_mod U y1
  have hml := Nat.mod_lt U hy1
  have hcm : U / y1 * y1 = y1 * (U / y1) := Nat.mul_comm _ _
  refine ⟨?_, ?_, by omega, by omega⟩
  · rw [Nat.le_div_iff_mul_le hy1]
    have h1 : (U * b + u1) / y * y ≤ U * b + u1 := Nat.div_mul_le_self _ _
    have h3 : (U * b + u1) / y * (y1 * b) ≤ (U * b + u1) / y * y := Nat.mul_le_mul_left _ (by rw [hy]; omega)
    rw [← Nat.mul_assoc] at h3
    have h4 : (U * b + u1) / y * y1 * b < (U + 1) * b := by rw [Nat.add_mul, Nat.one_mul]; omega
    have := Nat.lt_of_mul_lt_mul_right h4
    omega
  · have h1 : U < (b + 2) * y1 := by rw [Nat.add_mul, Nat.mul_comm b y1]; omega
    have := (Nat.div_lt_iff_lt_mul hy1).2 h1
    omega
/-- where the look ends, the quotient is found -/
theorem est_end {b U u1 y y1 y0 q r : Nat} (hy : y = y1 * b + y0) (hy0 : 0 < y) (hU : q * y1 + r = U) (hlo : (U * b + u1) / y ≤ q) (h : q * y0 ≤ b * r + u1) : q = (U * b + u1) / y := by
  have h1 := (est_iff (u1 := u1) hy hU).2 h
  have h2 := (Nat.le_div_iff_mul_le hy0).2 h1
  omega
/-- where it goes on, the quotient lies below -/
theorem est_next {b U u1 y y1 y0 q r : Nat} (hy : y = y1 * b + y0) (hy0 : 0 < y) (hU : q * y1 + r = U) (hlo : (U * b + u1) / y ≤ q) (h : b * r + u1 < q * y0) : (U * b + u1) / y ≤ q - 1 ∧ 1 ≤ q := by
  have h1 : ¬ q * y ≤ U * b + u1 := fun h2 => by have := (est_iff (u1 := u1) hy hU).1 h2; omega
  have h2 : (U * b + u1) / y ≠ q := fun e => h1 (by rw [← e]; exact Nat.div_mul_le_self _ _)
  generalize (U * b + u1) / y = z at *
  omega
/-- a rest of a whole half word ends it -/
theorem est_big {b u1 y0 q r : Nat} (hq : q ≤ b) (h0 : y0 < b) (hr : b ≤ r) : q * y0 ≤ b * r + u1 := by
  have h1 : q * y0 ≤ b * y0 := Nat.mul_le_mul_right _ hq
  have h2 : b * y0 ≤ b * r := Nat.mul_le_mul_left _ (by omega)
  omega
/-- two half words make the whole quotient -/
theorem two_halves {b U u1 u0 y q1 : Nat} (hb : 0 < b) (hy : 0 < y) (hu0 : u0 < b) (hq1 : q1 = (U * b + u1) / y) :
    q1 * b + ((U * b + u1 - q1 * y) * b + u0) / y = ((U * b + u1) * b + u0) / y := by
  have h1 : q1 * y ≤ U * b + u1 := by rw [hq1]; exact Nat.div_mul_le_self _ _
  have e : (U * b + u1) * b + u0 = ((U * b + u1 - q1 * y) * b + u0) + y * (q1 * b) := by
    have : (U * b + u1) * b = (U * b + u1 - q1 * y) * b + q1 * y * b := by rw [← Nat.add_mul, Nat.sub_add_cancel h1]
    rw [this, Nat.mul_comm q1 y, Nat.mul_assoc y]; omega
  rw [e, Nat.add_mul_div_left _ _ hy, Nat.add_comm]
/-- the rest of the first half -/
theorem rest_lt {b U u1 y q1 : Nat} (hy : 0 < y) (hq1 : q1 = (U * b + u1) / y) : U * b + u1 - q1 * y < y := by
  have h1 := Nat.div_add_mod (U * b + u1) y
  have h2 := Nat.mod_lt (U * b + u1) hy
  rw [hq1, Nat.mul_comm _ y]; omega
/-- what is scaled has the same quotient -/
theorem scaled {n y s : Nat} (hs : 0 < s) : n * s / (y * s) = n / y := Nat.mul_div_mul_right n y hs
end Go.Proofs.YtimfpgpomafflaaGreatDoor.LK
