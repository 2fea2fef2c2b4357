/- Plain mathematics: digits in base 10 and limbs. Nothing of the program. -/
import Derived.Test.YtofeckdhhaoobaaDoorLimbMathE
namespace Go.Proofs.YtofeckdhhaoobaaDoor.LM

/-- a step of adding digit lists -/
theorem radd_step {x y out : List Nat} {c k s : Nat} (ho : out.length = k) (hs : s = x[k]?.getD 0 + y[k]?.getD 0 + c)
    (h : vl 10 out + 10 ^ k * c = vl 10 (x.take k) + vl 10 (y.take k)) :
    vl 10 (out ++ [s % 10]) + 10 ^ (k + 1) * (s / 10) = vl 10 (x.take (k + 1)) + vl 10 (y.take (k + 1)) := by
  have hx : ∀ z : List Nat, vl 10 (z.take (k + 1)) = vl 10 (z.take k) + 10 ^ k * (z[k]?.getD 0) := by
    intro z
    rcases Nat.lt_or_ge k z.length with h1 | h1
    · rw [take_snoc z k h1, vl_append, vl_one, List.length_take, Nat.min_eq_left (by omega)]
    · rw [List.take_of_length_le (by omega), List.take_of_length_le (by omega)]; simp [h1]
  rw [hx x, hx y, vl_append, vl_one, ho, Nat.pow_succ]
  generalize 10 ^ k = p at *
  have e1 : p * (s % 10) + p * 10 * (s / 10) = p * (x[k]?.getD 0) + p * (y[k]?.getD 0) + p * c := by
    rw [Nat.mul_assoc, ← Nat.mul_add, Nat.mod_add_div, hs, Nat.mul_add, Nat.mul_add]
  omega
theorem vl10_shift {x : List Nat} {n : Nat} : vl 10 (List.replicate n 0 ++ x) = 10 ^ n * vl 10 x := by
  rw [vl_append, vl_zeros, List.length_replicate, Nat.zero_add]
theorem from_step {l : List Nat} {k : Nat} (hk : k < l.length) : vl 1000000000 (l.take (k + 1)) = vl 1000000000 (l.take k) + 10 ^ (9 * k) * (l[k]?.getD 0) := by
  rw [take_snoc l k hk, vl_append, vl_one, List.length_take, Nat.min_eq_left (by omega), show (1000000000 : Nat) ^ k = 10 ^ (9 * k) by rw [show (1000000000 : Nat) = 10 ^ 9 by decide, ← Nat.pow_mul]]
theorem piece_step {x : List Nat} {i k : Nat} (hk : k ≤ 8) : vl 10 ((x.drop (i + k)).take (9 - k)) = x[i + k]?.getD 0 + 10 * vl 10 ((x.drop (i + k + 1)).take (8 - k)) := by
  rcases Nat.lt_or_ge (i + k) x.length with h | h
  · rw [drop_cons h, show 9 - k = (8 - k) + 1 by omega, List.take_succ_cons]; rfl
  · rw [List.drop_eq_nil_of_le (by omega), List.drop_eq_nil_of_le (by omega)]; simp [h, vl]
theorem piece_lt {x : List Nat} (hlo : Lo 10 x) (i n : Nat) : vl 10 ((x.drop i).take n) < 10 ^ n := by
  have h1 := vl_lt (b := 10) (l := (x.drop i).take n) (fun z hz => hlo z (List.mem_of_mem_drop (List.mem_of_mem_take hz)))
  have h2 : ((x.drop i).take n).length ≤ n := by rw [List.length_take]; exact Nat.min_le_left _ _
  exact Nat.lt_of_lt_of_le h1 (Nat.pow_le_pow_right (by omega) h2)
theorem nine_step {x : List Nat} {j : Nat} : vl 10 (x.drop (9 * j)) = vl 10 ((x.drop (9 * j)).take 9) + 1000000000 * vl 10 (x.drop (9 * (j + 1))) := by
  rcases Nat.le_total 9 (x.drop (9 * j)).length with h | h
  · have h1 := vl_drop (b := 10) (l := x.drop (9 * j)) (k := 9) h
    rw [List.drop_drop, show 9 * j + 9 = 9 * (j + 1) by omega, show (10 : Nat) ^ 9 = 1000000000 by decide] at h1
    exact h1
  · rw [List.take_of_length_le h]
    have : x.drop (9 * (j + 1)) = [] := List.drop_eq_nil_of_le (by simp at h; omega)
    rw [this, vl_nil]; omega
theorem to_step {x L : List Nat} {j : Nat} (hL : L.length = j) (h : vl 10 x = vl 1000000000 L + 1000000000 ^ j * vl 10 (x.drop (9 * j))) :
    vl 10 x = vl 1000000000 (L ++ [vl 10 ((x.drop (9 * j)).take 9)]) + 1000000000 ^ (j + 1) * vl 10 (x.drop (9 * (j + 1))) := by
  rw [h, nine_step, vl_append, vl_one, hL, Nat.pow_succ]
  rw [Nat.mul_add, Nat.mul_assoc, Nat.add_assoc]
theorem nDigits_le9 {x : Nat} (h : x < 1000000000) : Lib.nDigits x ≤ 9 := by
  rcases Nat.eq_zero_or_pos x with e | e
  · subst e; rw [Lib.nDigits_small (by omega)]; omega
  · rw [nDigits_len e]; exact dg_len_of_lt (by omega) (by rw [show (10 : Nat) ^ 9 = 1000000000 by decide]; exact h)
theorem to_end {v : Nat} {L : List Nat} (hlo : Lo 1000000000 L) (hv : vl 1000000000 L = v) (hlen : 9 * L.length < (dg 10 v).length + 9) (hlen2 : (dg 10 v).length ≤ 9 * L.length) : L = dg 1000000000 v := by
  have htr : tr L = dg 1000000000 v := by rw [tr_eq (by omega) hlo, hv]
  have hl : L.length = (dg 1000000000 v).length := by
    rcases Nat.eq_zero_or_pos v with e | e
    · subst e
      rw [dg_zero] at hlen
      rw [dg_zero]
      simp at hlen ⊢
      have : L.length = 0 := by omega
      exact List.eq_nil_of_length_eq_zero this
    · obtain ⟨h, hh⟩ : ∃ h, (dg 1000000000 v).length = h + 1 := ⟨(dg 1000000000 v).length - 1, by have : (dg 1000000000 v).length ≠ 0 := (by rw [dg_pos (by omega) e]; simp); omega⟩
      have h1 := nDigits_high hh
      have h2 := nDigits_le9 (x := (dg 1000000000 v)[h]?.getD 0) (Lo_get (Lo_dg (by omega) v) (by omega) h)
      have h3 := Lib.nDigits_pos ((dg 1000000000 v)[h]?.getD 0)
      omega
  have h2 := tr_take L
  rw [htr, ← hl, List.take_length] at h2
  exact h2.symm
end Go.Proofs.YtofeckdhhaoobaaDoor.LM
