/- Plain mathematics: decimal texts. Nothing of the program. -/
import Derived.Test.YtofeckdhhaoobaaDoorLimbMathB
import Derived.Lib.ItoaNum
namespace Go.Proofs.YtofeckdhhaoobaaDoor.LM

/-- k digits of x, with noughts ahead -/
def padd : Nat → Nat → List UInt8
  | 0, _ => []
  | k + 1, x => padd k (x / 10) ++ [UInt8.ofNat (48 + x % 10)]
theorem padd_length : ∀ k x, (padd k x).length = k := by
  intro k; induction k with
  | zero => intro x; rfl
  | succ k ih => intro x; simp [padd, ih]
theorem dec_pad : ∀ (k x r : Nat), 1 ≤ r → x < 10 ^ k → Lib.decDigits (x + 10 ^ k * r) = Lib.decDigits r ++ padd k x := by
  intro k
  induction k with
  | zero => intro x r _ hx; have : x = 0 := by simpa using hx
            subst this; simp [padd]
  | succ k ih =>
    intro x r hr hx
    have h10 : ¬ x + 10 ^ (k + 1) * r < 10 := by
      have h1 : 1 ≤ 10 ^ k := Nat.one_le_pow _ _ (by decide)
      have h2 : 10 ^ (k + 1) * 1 ≤ 10 ^ (k + 1) * r := Nat.mul_le_mul_left _ hr
      rw [Nat.pow_succ] at h2 ⊢; omega
    have e1 : (x + 10 ^ (k + 1) * r) / 10 = x / 10 + 10 ^ k * r := by
      rw [Nat.pow_succ, Nat.mul_comm (10 ^ k) 10, Nat.mul_assoc, Nat.add_mul_div_left _ _ (by omega)]
    have e2 : (x + 10 ^ (k + 1) * r) % 10 = x % 10 := by
      rw [Nat.pow_succ, Nat.mul_comm (10 ^ k) 10, Nat.mul_assoc, Nat.add_mul_mod_self_left]
    rw [Lib.decDigits, dif_neg h10, e1, e2, ih (x / 10) r hr (by rw [Nat.pow_succ] at hx; omega)]
    simp [padd]
theorem dec_padded (x : Nat) (h : x < 1000000000) : (Lib.decDigits (x + 1000000000)).drop 1 = padd 9 x := by
  have := dec_pad 9 x 1 (by omega) h
  rw [show (10 : Nat) ^ 9 * 1 = 1000000000 by decide, Lib.decDigits_one (show 1 < 10 by omega)] at this
  rw [this]; rfl
theorem dec_step (x r : Nat) (hx : x < 1000000000) (hr : 1 ≤ r) : Lib.decDigits (x + 1000000000 * r) = Lib.decDigits r ++ (Lib.decDigits (x + 1000000000)).drop 1 := by
  rw [dec_padded x hx]
  have := dec_pad 9 x r hr hx
  rwa [show (10 : Nat) ^ 9 = 1000000000 by decide] at this
theorem dec_text (n : Nat) : Lib.decDigits n = if n = 0 then [48] else (dg 10 n).reverse.map (fun d => UInt8.ofNat (48 + d)) := by
  induction n using Nat.strongRecOn with
  | _ n ih =>
    by_cases h : n < 10
    · rw [Lib.decDigits_one h]
      by_cases h0 : n = 0
      · subst h0; rfl
      · rw [if_neg h0, dg_pos (by omega) (by omega), Nat.div_eq_of_lt h, dg_zero, Nat.mod_eq_of_lt h]; rfl
    · rw [Lib.decDigits, dif_neg h, ih (n / 10) (by omega), if_neg (by omega), if_neg (by omega), dg_pos (b := 10) (n := n) (by omega) (by omega)]
      simp
theorem nDigits_len {n : Nat} (h : 0 < n) : Lib.nDigits n = (dg 10 n).length := by
  rw [← Lib.decDigits_length, dec_text, if_neg (by omega)]; simp
/-- the digits of a number of limbs -/
theorem nDigits_limb {x r : Nat} : ∀ k, 1 ≤ r → x < 10 ^ k → Lib.nDigits (x + 10 ^ k * r) = Lib.nDigits r + k := by
  intro k hr hx
  rw [← Lib.decDigits_length, dec_pad k x r hr hx, List.length_append, padd_length, Lib.decDigits_length]
theorem vl_top {X : List Nat} {h : Nat} (hh : X.length = h + 1) : vl 1000000000 (X.drop h) = X[h]?.getD 0 := by
  rw [drop_cons (by omega), List.drop_eq_nil_of_le (by omega), vl_one]
theorem vl_drop_step {X : List Nat} {k : Nat} (h : k < X.length) : vl 1000000000 (X.drop k) = X[k]?.getD 0 + 1000000000 * vl 1000000000 (X.drop (k + 1)) := by
  rw [drop_cons h]; rfl
/-- the highest limb of a plain list isn't 0 -/
theorem dg_top {n h : Nat} (hh : (dg 1000000000 n).length = h + 1) : 1 ≤ (dg 1000000000 n)[h]?.getD 0 := by
  rcases Nat.eq_zero_or_pos ((dg 1000000000 n)[h]?.getD 0) with e | e
  · exfalso
    have h1 := tr_step (l := dg 1000000000 n) (k := h) (by omega) e
    rw [show h + 1 = (dg 1000000000 n).length by omega, List.take_length, tr_dg (by omega)] at h1
    have h2 : (tr ((dg 1000000000 n).take h)).length = h + 1 := by rw [h1]; exact hh
    have h3 := tr_take ((dg 1000000000 n).take h)
    have h4 : (tr ((dg 1000000000 n).take h)).length ≤ h := by rw [h3]; simp; omega
    omega
  · exact e
theorem drop_pos {n k h : Nat} (hh : (dg 1000000000 n).length = h + 1) (hk : k ≤ h) : 1 ≤ vl 1000000000 ((dg 1000000000 n).drop k) := by
  have h1 := vl_drop (b := 1000000000) (l := (dg 1000000000 n).drop k) (k := h - k) (by simp; omega)
  rw [List.drop_drop, show k + (h - k) = h by omega, vl_top hh] at h1
  have h2 := dg_top hh
  have h3 : 1 ≤ 1000000000 ^ (h - k) := Nat.one_le_pow _ _ (by omega)
  have h4 := Nat.mul_le_mul h3 h2
  omega
theorem nDigits_high {n h : Nat} (hh : (dg 1000000000 n).length = h + 1) : (dg 10 n).length = 9 * h + Lib.nDigits ((dg 1000000000 n)[h]?.getD 0) := by
  have hn : 0 < n := by
    rcases Nat.eq_zero_or_pos n with e | e
    · subst e; rw [dg_zero] at hh; simp at hh
    · exact e
  rw [← nDigits_len hn]
  have h1 := vl_drop (b := 1000000000) (l := dg 1000000000 n) (k := h) (by omega)
  rw [vl_dg (by omega), vl_top hh] at h1
  have h2 := vl_lt (b := 1000000000) (l := (dg 1000000000 n).take h) (fun z hz => Lo_dg (by omega) n z (List.mem_of_mem_take hz))
  rw [List.length_take, Nat.min_eq_left (by omega)] at h2
  have e : (1000000000 : Nat) ^ h = 10 ^ (9 * h) := by rw [show (1000000000 : Nat) = 10 ^ 9 by decide, ← Nat.pow_mul]
  rw [e] at h1 h2
  have h3 := nDigits_limb (9 * h) (dg_top hh) h2
  rw [← h1] at h3
  omega
end Go.Proofs.YtofeckdhhaoobaaDoor.LM
