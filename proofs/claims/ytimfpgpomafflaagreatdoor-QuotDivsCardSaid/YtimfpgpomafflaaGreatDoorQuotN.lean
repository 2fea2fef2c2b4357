/- Mathematics of a quotient's 34 digits. Nothing of the program. -/
import Derived.Test.YtimfpgpomafflaaGreatDoorLimbMaths
namespace Go.Proofs.YtimfpgpomafflaaGreatDoor
open Go.RowKit LM

def lqU (u : Nat) (E : Int) : Nat := u * 10 ^ (-E).toNat
def lqD (v : Nat) (E : Int) : Nat := v * 10 ^ E.toNat
/-- a quotient, rounded at a power of ten -/
def lqV (u v : Nat) (E : Int) : Nat := rnd 4 false (lqU u E / lqD v E) (lqU u E % lqD v E) (lqD v E)
def lqF (u v : Nat) : Int := (dl u : Nat) - (dl v : Nat) - 34
/-- the power of a quotient's 34th digit -/
def lqE (u v : Nat) : Int := if 34 < dl (lqU u (lqF u v) / lqD v (lqF u v)) then lqF u v + 1 else lqF u v

theorem rnd_scale {k U V : Nat} (hk : 0 < k) : rnd 4 false (k * U / (k * V)) (k * U % (k * V)) (k * V) = rnd 4 false (U / V) (U % V) V := by
  rw [Nat.mul_div_mul_left _ _ hk, Nat.mul_mod_mul_left]
  generalize U % V = r
  generalize U / V = q
  have e1 : 2 * (k * r) = k * V ↔ 2 * r = V := by
    rw [Nat.mul_left_comm]; exact ⟨fun h => Nat.eq_of_mul_eq_mul_left hk h, fun h => by rw [h]⟩
  have e2 : k * V ≤ 2 * (k * r) ↔ V ≤ 2 * r := by
    rw [Nat.mul_left_comm]; exact ⟨fun h => Nat.le_of_mul_le_mul_left h hk, fun h => Nat.mul_le_mul_left k h⟩
  have key : ∀ a b : Nat, away 4 false q a b = if 2 * a = b then decide (q % 2 = 1) else decide (b ≤ 2 * a) := fun a b => rfl
  unfold rnd
  rw [key, key]
  simp only [e1, e2]
def Fit (N u v : Nat) (E : Int) : Prop := 10 ^ 33 * (v * 10 ^ (E + N).toNat) ≤ u * 10 ^ N ∧ u * 10 ^ N < 10 ^ 34 * (v * 10 ^ (E + N).toNat)
theorem lq_scale {N : Nat} {E : Int} (h1 : -(N : Int) ≤ E) (u v : Nat) : ∃ k, 0 < k ∧ u * 10 ^ N = k * lqU u E ∧ v * 10 ^ (E + N).toNat = k * lqD v E := by
  unfold lqU lqD
  by_cases h : 0 ≤ E
  · refine ⟨10 ^ N, Nat.pow_pos (by omega), ?_, ?_⟩
    · rw [show (-E).toNat = 0 by omega, Nat.pow_zero, Nat.mul_one, Nat.mul_comm]
    · rw [show (E + N).toNat = E.toNat + N by omega, Nat.pow_add]; simp [Nat.mul_comm, Nat.mul_left_comm]
  · refine ⟨10 ^ (E + N).toNat, Nat.pow_pos (by omega), ?_, ?_⟩
    · have e : N = (E + N).toNat + (-E).toNat := by omega
      conv => lhs; rw [e, Nat.pow_add]
      simp [Nat.mul_comm, Nat.mul_left_comm]
    · rw [show E.toNat = 0 by omega, Nat.pow_zero, Nat.mul_one, Nat.mul_comm]
theorem pow_up {a b : Int} (h : a < b) (ha : 0 ≤ a) : 10 * 10 ^ a.toNat ≤ 10 ^ b.toNat := by
  have : 10 ^ (a.toNat + 1) ≤ 10 ^ b.toNat := Nat.pow_le_pow_right (by omega) (by omega)
  rw [Nat.pow_succ] at this; omega
theorem fit_lt {N u v : Nat} {E F : Int} (hE : Fit N u v E) (hF : Fit N u v F) (h1 : -(N : Int) ≤ E) (h : E < F) : False := by
  have h3 := pow_up (show E + N < F + N by omega) (by omega)
  have h4 : v * (10 * 10 ^ (E + N).toNat) ≤ v * 10 ^ (F + N).toNat := Nat.mul_le_mul_left v h3
  have h5 := hE.2
  have h6 := hF.1
  rw [Nat.mul_left_comm] at h4
  generalize v * 10 ^ (E + N).toNat = x at *
  generalize v * 10 ^ (F + N).toNat = y at *
  generalize u * 10 ^ N = z at *
  omega
theorem fit_unique {N u v : Nat} {E F : Int} (hE : Fit N u v E) (hF : Fit N u v F) (h1 : -(N : Int) ≤ E) (h2 : -(N : Int) ≤ F) : E = F := by
  rcases Int.lt_trichotomy E F with h | h | h
  · exact (fit_lt hE hF h1 h).elim
  · exact h
  · exact (fit_lt hF hE h2 h).elim
theorem lqV_scaled {N u v : Nat} {E : Int} (h1 : -(N : Int) ≤ E) : lqV u v E = rnd 4 false (u * 10 ^ N / (v * 10 ^ (E + N).toNat)) (u * 10 ^ N % (v * 10 ^ (E + N).toNat)) (v * 10 ^ (E + N).toNat) := by
  obtain ⟨k, hk, e1, e2⟩ := lq_scale h1 u v
  rw [e1, e2, rnd_scale hk]; rfl
theorem dl_gt {q K : Nat} : K < dl q ↔ 10 ^ K ≤ q := by
  constructor
  · intro h
    rcases Nat.lt_or_ge q (10 ^ K) with h1 | h1
    · have := dl_lt h1; omega
    · exact h1
  · intro h
    rcases Nat.lt_or_ge K (dl q) with h1 | h1
    · exact h1
    · have h2 := lt_dl q
      have h3 : 10 ^ dl q ≤ 10 ^ K := Nat.pow_le_pow_right (by omega) h1
      omega
theorem le_dl {v : Nat} (h : 0 < v) : 10 ^ (dl v - 1) ≤ v := dg_lower (b := 10) (by omega) v h
theorem dl_pos {v : Nat} (h : 0 < v) : 1 ≤ dl v := by unfold dl; rw [dg_pos (by omega) h]; simp
theorem lqF_range {N u v : Nat} (hu : 0 < u) (hv : 0 < v) (hN : (dl v : Int) + 34 ≤ N) : 10 ^ 33 * (v * 10 ^ (lqF u v + N).toNat) ≤ u * 10 ^ N ∧ u * 10 ^ N < 10 ^ 35 * (v * 10 ^ (lqF u v + N).toNat) := by
  have h1 := le_dl hu
  have h2 := lt_dl u
  have h3 := le_dl hv
  have h4 := lt_dl v
  have h5 := dl_pos hu
  have h6 := dl_pos hv
  have e : (lqF u v + N).toNat + dl v + 34 = N + dl u := by unfold lqF; omega
  generalize (lqF u v + N).toNat = k at *
  generalize dl u = a at *
  generalize dl v = b at *
  constructor
  · have p1 : v * 10 ^ k ≤ 10 ^ b * 10 ^ k := Nat.mul_le_mul_right _ (by omega)
    have p2 : 10 ^ (a - 1) * 10 ^ N ≤ u * 10 ^ N := Nat.mul_le_mul_right _ h1
    rw [← Nat.pow_add] at p1 p2
    have p3 : 10 ^ 33 * 10 ^ (b + k) = 10 ^ (a - 1 + N) := by rw [← Nat.pow_add]; congr 1; omega
    have p4 := Nat.mul_le_mul_left (10 ^ 33) p1
    rw [p3] at p4
    exact Nat.le_trans p4 p2
  · have p1 : 10 ^ (b - 1) * 10 ^ k ≤ v * 10 ^ k := Nat.mul_le_mul_right _ h3
    have p2 : u * 10 ^ N < 10 ^ a * 10 ^ N := Nat.mul_lt_mul_of_pos_right h2 (Nat.pow_pos (by omega))
    rw [← Nat.pow_add] at p1 p2
    have p3 : 10 ^ 35 * 10 ^ (b - 1 + k) = 10 ^ (a + N) := by rw [← Nat.pow_add]; congr 1; omega
    have p4 := Nat.mul_le_mul_left (10 ^ 35) p1
    rw [p3] at p4
    exact Nat.lt_of_lt_of_le p2 p4
theorem lqE_fit {N u v : Nat} (hu : 0 < u) (hv : 0 < v) (hN : (dl v : Int) + 34 ≤ N) : Fit N u v (lqE u v) := by
  have hr := lqF_range hu hv hN
  have hk : -(N : Int) ≤ lqF u v := by unfold lqF; omega
  obtain ⟨k, hk0, e1, e2⟩ := lq_scale hk u v
  have hpos : 0 < v * 10 ^ (lqF u v + N).toNat := Nat.mul_pos hv (Nat.pow_pos (by omega))
  have hq : lqU u (lqF u v) / lqD v (lqF u v) = u * 10 ^ N / (v * 10 ^ (lqF u v + N).toNat) := by rw [e1, e2, Nat.mul_div_mul_left _ _ hk0]
  have hd : 34 < dl (lqU u (lqF u v) / lqD v (lqF u v)) ↔ 10 ^ 34 * (v * 10 ^ (lqF u v + N).toNat) ≤ u * 10 ^ N := by
    rw [dl_gt, hq, Nat.le_div_iff_mul_le hpos]
  unfold lqE
  by_cases h : 34 < dl (lqU u (lqF u v) / lqD v (lqF u v))
  · rw [if_pos h]
    have h1 := hd.1 h
    have e : v * 10 ^ (lqF u v + 1 + N).toNat = 10 * (v * 10 ^ (lqF u v + N).toNat) := by
      rw [show (lqF u v + 1 + N).toNat = (lqF u v + N).toNat + 1 by omega, Nat.pow_succ]; simp [Nat.mul_comm, Nat.mul_left_comm]
    unfold Fit
    rw [e]
    generalize v * 10 ^ (lqF u v + N).toNat = x at *
    generalize u * 10 ^ N = y at *
    omega
  · rw [if_neg h]
    have h1 : ¬ _ := fun k => h (hd.2 k)
    unfold Fit
    generalize v * 10 ^ (lqF u v + N).toNat = x at *
    generalize u * 10 ^ N = y at *
    omega
theorem lqE_bounds {u v : Nat} (hu : dl u ≤ 400) (hv : dl v ≤ 400) : -434 ≤ lqE u v ∧ lqE u v ≤ 367 := by
  unfold lqE lqF
  split <;> omega
theorem lqV_le {u v : Nat} (hu : 0 < u) (hv : 0 < v) : lqV u v (lqE u v) ≤ 10 ^ 34 := by
  obtain ⟨N, hN⟩ : ∃ N, N = dl v + 34 := ⟨_, rfl⟩
  have hf := lqE_fit (N := N) hu hv (by omega)
  have hb : -(N : Int) ≤ lqE u v := by unfold lqE lqF; split <;> omega
  rw [lqV_scaled hb]
  have h1 := rnd_le 4 false (u * 10 ^ N / (v * 10 ^ (lqE u v + N).toNat)) (u * 10 ^ N % (v * 10 ^ (lqE u v + N).toNat)) (v * 10 ^ (lqE u v + N).toNat)
  have h2 : u * 10 ^ N / (v * 10 ^ (lqE u v + N).toNat) < 10 ^ 34 := Nat.div_lt_of_lt_mul (by rw [Nat.mul_comm (v * 10 ^ (lqE u v + N).toNat) (10 ^ 34)]; exact hf.2)
  omega
end Go.Proofs.YtimfpgpomafflaaGreatDoor
