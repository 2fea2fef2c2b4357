/- Plain mathematics: digits in base 10 and limbs. Nothing of the program. -/
import Derived.Test.YtpgiljibicigeaaGreatDoorLimbKs
import Derived.BigQuiet
import Derived.IntWalk
set_option linter.unusedVariables false
set_option linter.unusedSimpArgs false
namespace Go.Proofs.YtpgiljibicigeaaGreatDoor.LM

/-- a step of adding digit lists -/
theorem radd_step {x y out : List Nat} {c k s : Nat} (ho : out.length = k) (hs : s = x[k]?.getD 0 + y[k]?.getD 0 + c)
    (h : vl 10 out + 10 ^ k * c = vl 10 (x.take k) + vl 10 (y.take k)) :
    vl 10 (out ++ [s % 10]) + 10 ^ (k + 1) * (s / 10) = vl 10 (x.take (k + 1)) + vl 10 (y.take (k + 1)) := by
  have hx : ∀ z : List Nat, vl 10 (z.take (k + 1)) = vl 10 (z.take k) + 10 ^ k * (z[k]?.getD 0) := by
    intro z
    rcases Nat.lt_or_ge k z.length with h1 | h1
    · rw [take_snoc z k h1, vl_append, vl_one, List.length_take, Nat.min_eq_left (by omega)]
    · rw [List.take_of_length_le (by omega), List.take_of_length_le (by omega)]; simp [h1]
  rw [hx x, hx y, vl_append, vl_one, ho, Nat.pow_succ]
  generalize 10 ^ k = p at *
  have e1 : p * (s % 10) + p * 10 * (s / 10) = p * (x[k]?.getD 0) + p * (y[k]?.getD 0) + p * c := by
    rw [Nat.mul_assoc, ← Nat.mul_add, Nat.mod_add_div, hs, Nat.mul_add, Nat.mul_add]
  omega
theorem vl10_shift {x : List Nat} {n : Nat} : vl 10 (List.replicate n 0 ++ x) = 10 ^ n * vl 10 x := by
  rw [vl_append, vl_zeros, List.length_replicate, Nat.zero_add]
theorem from_step {l : List Nat} {k : Nat} (hk : k < l.length) : vl 1000000000 (l.take (k + 1)) = vl 1000000000 (l.take k) + 10 ^ (9 * k) * (l[k]?.getD 0) := by
  rw [take_snoc l k hk, vl_append, vl_one, List.length_take, Nat.min_eq_left (by omega), show (1000000000 : Nat) ^ k = 10 ^ (9 * k) by rw [show (1000000000 : Nat) = 10 ^ 9 by decide, ← Nat.pow_mul]]
theorem piece_step {x : List Nat} {i k : Nat} (hk : k ≤ 8) : vl 10 ((x.drop (i + k)).take (9 - k)) = x[i + k]?.getD 0 + 10 * vl 10 ((x.drop (i + k + 1)).take (8 - k)) := by
  rcases Nat.lt_or_ge (i + k) x.length with h | h
  · rw [drop_cons h, show 9 - k = (8 - k) + 1 by omega, List.take_succ_cons]; rfl
  · rw [List.drop_eq_nil_of_le (by omega), List.drop_eq_nil_of_le (by omega)]; simp [h, vl]
theorem piece_lt {x : List Nat} (hlo : Lo 10 x) (i n : Nat) : vl 10 ((x.drop i).take n) < 10 ^ n := by
  have h1 := vl_lt (b := 10) (l := (x.drop i).take n) (fun z hz => hlo z (List.mem_of_mem_drop (List.mem_of_mem_take hz)))
  have h2 : ((x.drop i).take n).length ≤ n := by rw [List.length_take]; exact Nat.min_le_left _ _
  exact Nat.lt_of_lt_of_le h1 (Nat.pow_le_pow_right (by omega) h2)
theorem nine_step {x : List Nat} {j : Nat} : vl 10 (x.drop (9 * j)) = vl 10 ((x.drop (9 * j)).take 9) + 1000000000 * vl 10 (x.drop (9 * (j + 1))) := by
  rcases Nat.le_total 9 (x.drop (9 * j)).length with h | h
  · have h1 := vl_drop (b := 10) (l := x.drop (9 * j)) (k := 9) h
    rw [List.drop_drop, show 9 * j + 9 = 9 * (j + 1) by omega, show (10 : Nat) ^ 9 = 1000000000 by decide] at h1
    exact h1
  · rw [List.take_of_length_le h]
    have : x.drop (9 * (j + 1)) = [] := List.drop_eq_nil_of_le (by simp at h; omega)
    rw [this, vl_nil]; omega
theorem to_step {x L : List Nat} {j : Nat} (hL : L.length = j) (h : vl 10 x = vl 1000000000 L + 1000000000 ^ j * vl 10 (x.drop (9 * j))) :
    vl 10 x = vl 1000000000 (L ++ [vl 10 ((x.drop (9 * j)).take 9)]) + 1000000000 ^ (j + 1) * vl 10 (x.drop (9 * (j + 1))) := by
  rw [h, nine_step, vl_append, vl_one, hL, Nat.pow_succ]
  rw [Nat.mul_add, Nat.mul_assoc, Nat.add_assoc]
theorem nDigits_le9 {x : Nat} (h : x < 1000000000) : Lib.nDigits x ≤ 9 := by
  rcases Nat.eq_zero_or_pos x with e | e
  · subst e; rw [Lib.nDigits_small (by omega)]; omega
  · rw [nDigits_len e]; exact dg_len_of_lt (by omega) (by rw [show (10 : Nat) ^ 9 = 1000000000 by decide]; exact h)
theorem to_end {v : Nat} {L : List Nat} (hlo : Lo 1000000000 L) (hv : vl 1000000000 L = v) (hlen : 9 * L.length < (dg 10 v).length + 9) (hlen2 : (dg 10 v).length ≤ 9 * L.length) : L = dg 1000000000 v := by
  have htr : tr L = dg 1000000000 v := by rw [tr_eq (by omega) hlo, hv]
  have hl : L.length = (dg 1000000000 v).length := by
    rcases Nat.eq_zero_or_pos v with e | e
    · subst e
      rw [dg_zero] at hlen
      rw [dg_zero]
      simp at hlen ⊢
      have : L.length = 0 := by omega
      exact List.eq_nil_of_length_eq_zero this
    · obtain ⟨h, hh⟩ : ∃ h, (dg 1000000000 v).length = h + 1 := ⟨(dg 1000000000 v).length - 1, by have : (dg 1000000000 v).length ≠ 0 := (by rw [dg_pos (by omega) e]; simp); omega⟩
      have h1 := nDigits_high hh
      have h2 := nDigits_le9 (x := (dg 1000000000 v)[h]?.getD 0) (Lo_get (Lo_dg (by omega) v) (by omega) h)
      have h3 := Lib.nDigits_pos ((dg 1000000000 v)[h]?.getD 0)
      omega
  have h2 := tr_take L
  rw [htr, ← hl, List.take_length] at h2
  exact h2.symm
end Go.Proofs.YtpgiljibicigeaaGreatDoor.LM

/- Plain mathematics: the document's difference, product, quotient, text, cut. Nothing of the program. -/
namespace Go.Proofs.YtpgiljibicigeaaGreatDoor.LM

theorem take10 (x : List Nat) (k : Nat) : vl 10 (x.take (k + 1)) = vl 10 (x.take k) + 10 ^ k * (x[k]?.getD 0) := by
  rcases Nat.lt_or_ge k x.length with h1 | h1
  · rw [take_snoc x k h1, vl_append, vl_one, List.length_take, Nat.min_eq_left (by omega)]
  · rw [List.take_of_length_le (by omega), List.take_of_length_le (by omega)]; simp [h1]

/-! The difference -/
theorem rsub_step {x y out : List Nat} {c c' k v : Nat} (ho : out.length = k) (hv : x[k]?.getD 0 + 10 * c' = v + (y[k]?.getD 0 + c))
    (h : vl 10 (x.take k) + 10 ^ k * c = vl 10 out + vl 10 (y.take k)) :
    vl 10 (x.take (k + 1)) + 10 ^ (k + 1) * c' = vl 10 (out ++ [v]) + vl 10 (y.take (k + 1)) := by
  rw [take10, take10, vl_append, vl_one, ho, Nat.pow_succ]
  generalize 10 ^ k = p at *
  have e1 : p * (x[k]?.getD 0) + p * 10 * c' = p * v + p * (y[k]?.getD 0) + p * c := by
    rw [Nat.mul_assoc, ← Nat.mul_add, hv, Nat.mul_add, Nat.mul_add, Nat.add_assoc]
  omega
theorem rsub_end {x y out : List Nat} {c : Nat} (ho : out.length = x.length) (hlo : Lo 10 out) (hy : y.length ≤ x.length) (hle : vl 10 y ≤ vl 10 x)
    (h : vl 10 (x.take x.length) + 10 ^ x.length * c = vl 10 out + vl 10 (y.take x.length)) : tr out = dg 10 (vl 10 x - vl 10 y) := by
  rw [List.take_length, List.take_of_length_le hy] at h
  have h1 := vl_lt hlo
  rw [ho] at h1
  have hc : c = 0 := by
    rcases Nat.eq_zero_or_pos c with e | e
    · exact e
    · have := Nat.le_mul_of_pos_right (10 ^ x.length) e; omega
  subst hc
  rw [Nat.mul_zero] at h
  rw [tr_eq (by omega) hlo, show vl 10 out = vl 10 x - vl 10 y by omega]

/-! The product -/
/-- a place raised -/
theorem vl_set {b : Nat} : ∀ {S : List Nat} {j z : Nat}, j < S.length → vl b (S.set j (S[j]?.getD 0 + z)) = vl b S + b ^ j * z := by
  intro S
  induction S with
  | nil => intro j z h; simp at h
  | cons s t ih =>
    intro j z h
    cases j with
    | zero => simp [vl]; omega
    | succ j =>
      simp only [List.length_cons] at h
      have := ih (j := j) (z := z) (by omega)
      simp only [List.set_cons_succ, vl, List.getElem?_cons_succ]
      rw [this, Nat.pow_succ, Nat.mul_add, Nat.mul_comm (b ^ j) b, Nat.mul_assoc, Nat.add_assoc]
/-- no sum is great -/
def Mb (i k : Nat) (S : List Nat) : Prop := ∀ j, S[j]?.getD 0 ≤ 81 * i + (if j < i + k then 81 else 0)
theorem Mb_zero (n : Nat) : Mb 0 0 (List.replicate n 0) := by
  intro j
  rcases Nat.lt_or_ge j n with h | h <;> simp [h]
theorem Mb_at {i k : Nat} {S : List Nat} (h : Mb i k S) : S[i + k]?.getD 0 ≤ 81 * i := by
  have := h (i + k); rwa [if_neg (by omega)] at this
theorem Mb_step {i k z : Nat} {S : List Nat} (h : Mb i k S) (hz : z ≤ 81) : Mb i (k + 1) (S.set (i + k) (S[i + k]?.getD 0 + z)) := by
  intro j
  by_cases hj : j = i + k
  · subst hj
    have := Mb_at h
    rw [if_pos (by omega)]
    rcases Nat.lt_or_ge (i + k) S.length with h1 | h1
    · rw [List.getElem?_set, if_pos rfl, if_pos h1]; simp only [Option.getD_some]; omega
    · rw [List.getElem?_set, if_pos rfl, if_neg (by omega)]; simp
  · rw [List.getElem?_set, if_neg (fun e => hj e.symm)]
    have := h j
    by_cases h2 : j < i + k
    · rw [if_pos h2] at this; rw [if_pos (by omega)]; exact this
    · rw [if_neg h2] at this; rw [if_neg (by omega)]; exact this
theorem Mb_next {i k : Nat} {S : List Nat} (h : Mb i k S) : Mb (i + 1) 0 S := by
  intro j
  have := h j
  by_cases h2 : j < i + k
  · rw [if_pos h2] at this; split <;> omega
  · rw [if_neg h2] at this; split <;> omega
theorem Mb_le {i : Nat} {S : List Nat} (h : Mb i 0 S) (j : Nat) : S[j]?.getD 0 ≤ 81 * (i + 1) := by
  have := h j; split at this <;> omega
theorem rmul_step {x y S : List Nat} {i k p q z : Nat} (hk : i + k < S.length) (hp : p = x[i]?.getD 0) (hq : q = y[k]?.getD 0) (hz : z = S[i + k]?.getD 0 + p * q)
    (h : vl 10 S = vl 10 (x.take i) * vl 10 y + 10 ^ i * (p * vl 10 (y.take k))) :
    vl 10 (S.set (i + k) z) = vl 10 (x.take i) * vl 10 y + 10 ^ i * (p * vl 10 (y.take (k + 1))) := by
  rw [hz, vl_set hk, h, take10, ← hq, Nat.mul_add p, Nat.mul_add (10 ^ i), Nat.pow_add]
  have : 10 ^ i * 10 ^ k * (p * q) = 10 ^ i * (p * (10 ^ k * q)) := by
    rw [Nat.mul_assoc, Nat.mul_left_comm (10 ^ k)]
  omega
theorem rmul_next {x y S : List Nat} {i p : Nat} (hp : p = x[i]?.getD 0) (h : vl 10 S = vl 10 (x.take i) * vl 10 y + 10 ^ i * (p * vl 10 (y.take y.length))) :
    vl 10 S = vl 10 (x.take (i + 1)) * vl 10 y := by
  rw [List.take_length] at h
  rw [h, take10, ← hp, Nat.add_mul, Nat.mul_assoc]
theorem rcar_step {S D : List Nat} {c i s : Nat} (hD : D.length = i) (hs : s = S[i]?.getD 0) (h : vl 10 (S.take i) = vl 10 D + 10 ^ i * c) :
    vl 10 (S.take (i + 1)) = vl 10 (D ++ [(c + s) % 10]) + 10 ^ (i + 1) * ((c + s) / 10) := by
  rw [take10, h, ← hs, vl_append, vl_one, hD, Nat.pow_succ]
  have e1 : 10 ^ i * ((c + s) % 10) + 10 ^ i * 10 * ((c + s) / 10) = 10 ^ i * c + 10 ^ i * s := by
    rw [Nat.mul_assoc, ← Nat.mul_add, Nat.mod_add_div, Nat.mul_add]
  omega
theorem rcar_end {x y S D : List Nat} {c n : Nat} (hx : Lo 10 x) (hy : Lo 10 y) (hS : S.length = n) (hn : n = x.length + y.length + 1) (hD : D.length = n) (hDl : Lo 10 D) (hv : vl 10 S = vl 10 (x.take x.length) * vl 10 y)
    (h : vl 10 (S.take n) = vl 10 D + 10 ^ n * c) : tr D = dg 10 (vl 10 x * vl 10 y) := by
  rw [← hS, List.take_length, hS, hv, List.take_length] at h
  have h1 := vl_lt hx
  have h2 := vl_lt hy
  have h3 : vl 10 x * vl 10 y < 10 ^ n := by
    have h4 : vl 10 x * vl 10 y < 10 ^ x.length * 10 ^ y.length := Nat.mul_lt_mul'' h1 h2
    rw [← Nat.pow_add] at h4
    exact Nat.lt_of_lt_of_le h4 (Nat.pow_le_pow_right (by omega) (by omega))
  have hc : c = 0 := by
    rcases Nat.eq_zero_or_pos c with e | e
    · exact e
    · have := Nat.le_mul_of_pos_right (10 ^ n) e; omega
  subst hc
  rw [Nat.mul_zero, Nat.add_zero] at h
  rw [tr_eq (by omega) hDl, ← h]
theorem fill_set {D : List Nat} {z v : Nat} : (D ++ List.replicate (z + 1) 0).set D.length v = (D ++ [v]) ++ List.replicate z 0 := by
  rw [List.set_append, if_neg (by omega), Nat.sub_self, List.replicate_succ, List.set_cons_zero]; simp

/-! The cut -/
theorem dg_drop {b : Nat} (hb : 2 ≤ b) : ∀ n v, (dg b v).drop n = dg b (v / b ^ n) := by
  intro n
  induction n with
  | zero => intro v; simp
  | succ n ih =>
    intro v
    rcases Nat.eq_zero_or_pos v with h | h
    · subst h; rw [dg_zero, Nat.zero_div, dg_zero]; simp
    · rw [dg_pos hb h, List.drop_succ_cons, ih, Nat.pow_succ, Nat.mul_comm, Nat.div_div_eq_div_mul]
theorem tr_low {b : Nat} (hb : 2 ≤ b) {n v : Nat} (h : n ≤ (dg b v).length) : tr ((dg b v).take n) = dg b (v % b ^ n) := by
  have hlo : Lo b ((dg b v).take n) := fun z hz => Lo_dg hb v z (List.mem_of_mem_take hz)
  have h1 := vl_drop (b := b) h
  have h2 := vl_lt hlo
  rw [List.length_take, Nat.min_eq_left h] at h2
  rw [vl_dg hb] at h1
  have e : v % b ^ n = vl b ((dg b v).take n) := by
    generalize vl b ((dg b v).take n) = p at *
    generalize vl b ((dg b v).drop n) = q at *
    rw [h1, Nat.add_mul_mod_self_left, Nat.mod_eq_of_lt h2]
  rw [tr_eq hb hlo, e]
theorem low_all {b : Nat} (hb : 2 ≤ b) {n v : Nat} (h : (dg b v).length ≤ n) : v / b ^ n = 0 ∧ v % b ^ n = v := by
  have h1 : v < b ^ n := Nat.lt_of_lt_of_le (dg_upper hb v) (Nat.pow_le_pow_right (by omega) h)
  exact ⟨Nat.div_eq_of_lt h1, Nat.mod_eq_of_lt h1⟩

/-! The quotient -/
theorem rdiv_in {r z : Nat} (hz : z < 10) : tr (z :: dg 10 r) = dg 10 (z + 10 * r) := by
  have hlo : Lo 10 (z :: dg 10 r) := by
    intro y hy
    rcases List.mem_cons.1 hy with rfl | hy
    · exact hz
    · exact Lo_dg (by omega) r y hy
  rw [tr_eq (by omega) hlo, vl, vl_dg (by omega)]
theorem drop10 {x : List Nat} {k : Nat} (h : k < x.length) : vl 10 (x.drop k) = x[k]?.getD 0 + 10 * vl 10 (x.drop (k + 1)) := by rw [drop_cons h, vl]
theorem rdiv_round {x : List Nat} {i u z q r t s : Nat} (hi : i < x.length) (hz : z = x[i]?.getD 0) (h : vl 10 (x.drop (i + 1)) = q * u + r) (hts : t * u + s = z + 10 * r) :
    vl 10 (x.drop i) = (t + 10 * q) * u + s := by
  rw [drop10 hi, ← hz, h, Nat.add_mul, Nat.mul_add, Nat.mul_assoc]; omega
theorem rdiv_end {v u q r : Nat} (h : v = q * u + r) (hr : r < u) : q = v / u ∧ r = v % u := by
  constructor
  · rw [h, Nat.mul_comm, Nat.mul_add_div (by omega), Nat.div_eq_of_lt hr, Nat.add_zero]
  · rw [h, Nat.mul_comm, Nat.mul_add_mod, Nat.mod_eq_of_lt hr]
theorem rdiv_nine {u t s z r : Nat} (hr : r < u) (hz : z < 10) (hts : t * u + s = z + 10 * r) (hge : u ≤ s) : t + 1 ≤ 9 := by
  rcases Nat.lt_or_ge t 9 with h | h
  · omega
  · exfalso
    have : 9 * u ≤ t * u := Nat.mul_le_mul_right _ h
    omega
theorem rdiv_less {u t s : Nat} (hge : u ≤ s) : (t + 1) * u + (s - u) = t * u + s := by rw [Nat.add_mul]; omega
/-- q's places -/
theorem q_set {k t v : Nat} {D : List Nat} : (List.replicate k 0 ++ t :: D).set k v = List.replicate k 0 ++ v :: D := by
  rw [List.set_append, if_neg (by simp)]; simp
theorem q_get {k t : Nat} {D : List Nat} : (List.replicate k 0 ++ t :: D)[k]?.getD 0 = t := by
  rw [List.getElem?_append_right (by simp)]; simp
theorem q_open {k : Nat} {D : List Nat} : List.replicate (k + 1) 0 ++ D = List.replicate k 0 ++ 0 :: D := by
  rw [List.replicate_succ']; simp

/-! The text -/
theorem text_set {n k v : Nat} {T : List Nat} (h : k < n) : (List.replicate (n - k) 0 ++ T).set (n - 1 - k) v = List.replicate (n - (k + 1)) 0 ++ v :: T := by
  rw [show n - k = (n - (k + 1)) + 1 by omega, show n - 1 - k = n - (k + 1) by omega, q_open, q_set]
/-- the first k digits as signs, the highest first -/
def rsig (x : List Nat) (k : Nat) : List Nat := ((x.take k).map (fun d => 48 + d)).reverse
theorem rsig_length {x : List Nat} {k : Nat} (h : k ≤ x.length) : (rsig x k).length = k := by simp [rsig]; omega
theorem rsig_step {x : List Nat} {k : Nat} (h : k < x.length) : rsig x (k + 1) = (48 + x[k]?.getD 0) :: rsig x k := by
  unfold rsig; rw [take_snoc x k h]; simp
theorem rsig_all {v : Nat} (h : 0 < v) : rsig (dg 10 v) (dg 10 v).length = (Lib.decDigits v).map (fun (b : UInt8) => b.toNat) := by
  unfold rsig
  rw [dec_text, if_neg (by omega), List.take_length, List.map_map, List.map_reverse]
  congr 1
  apply List.map_congr_left
  intro d hd
  have := Lo_dg (b := 10) (by omega) v d hd
  simp; omega
end Go.Proofs.YtpgiljibicigeaaGreatDoor.LM

/- Plain mathematics of exact decimals: noughts at the end, the plain one of a worth, what fits. Nothing of the program. -/
namespace Go.Proofs.YtpgiljibicigeaaGreatDoor.LM

/-- how many noughts a number's digits end with -/
def tz (n : Nat) : Nat := if _h : 0 < n ∧ n % 10 = 0 then tz (n / 10) + 1 else 0
termination_by n
decreasing_by exact Nat.div_lt_self _h.1 (by omega)
theorem tz_no {n : Nat} (h : n % 10 ≠ 0) : tz n = 0 := by rw [tz]; simp [h]
theorem tz_zero : tz 0 = 0 := by rw [tz]; simp
theorem tz_yes {n : Nat} (h0 : 0 < n) (h : n % 10 = 0) : tz n = tz (n / 10) + 1 := by rw [tz]; simp [h0, h]
theorem tz_mul {m : Nat} (hm : 0 < m) : ∀ k, tz (m * 10 ^ k) = tz m + k := by
  intro k
  induction k with
  | zero => simp
  | succ k ih =>
    have hp : 0 < 10 ^ k := Nat.pow_pos (by omega)
    have hmp : 0 < m * 10 ^ k := Nat.mul_pos hm hp
    rw [Nat.pow_succ, ← Nat.mul_assoc, tz_yes (by omega) (Nat.mul_mod_left _ _), Nat.mul_div_left _ (by omega), ih]; omega
theorem tz_plain {m : Nat} (hm : m % 10 ≠ 0) (k : Nat) : tz (m * 10 ^ k) = k := by rw [tz_mul (by omega), tz_no hm, Nat.zero_add]
/-- a number without its noughts at the end -/
def core (n : Nat) : Nat := n / 10 ^ tz n
theorem core_zero : core 0 = 0 := by unfold core; rw [Nat.zero_div]
theorem tz_spec : ∀ n, 0 < n → core n % 10 ≠ 0 ∧ core n * 10 ^ tz n = n := by
  intro n
  induction n using Nat.strongRecOn with
  | _ n ih =>
    intro hn
    unfold core
    by_cases h : n % 10 = 0
    · have h1 := ih (n / 10) (by omega) (by omega)
      unfold core at h1
      rw [tz_yes hn h, Nat.pow_succ, Nat.mul_comm (10 ^ tz (n / 10)) 10, ← Nat.div_div_eq_div_mul]
      refine ⟨h1.1, ?_⟩
      rw [Nat.mul_left_comm, h1.2]; omega
    · rw [tz_no h]; simp [h]
theorem core_plain {m : Nat} (hm : m % 10 ≠ 0) (k : Nat) : core (m * 10 ^ k) = m := by
  unfold core; rw [tz_plain hm, Nat.mul_div_cancel _ (Nat.pow_pos (by omega))]
theorem core_pos {n : Nat} (h : 0 < n) : 0 < core n := by have := (tz_spec n h).1; omega
theorem core_le (n : Nat) : core n ≤ n := Nat.div_le_self _ _
theorem tz_lt {n M : Nat} (h0 : 0 < n) (h : n < 10 ^ M) : tz n < M := by
  have h1 := (tz_spec n h0).2
  have h2 := core_pos h0
  rcases Nat.lt_or_ge (tz n) M with h3 | h3
  · exact h3
  · exfalso
    have h4 : 10 ^ M ≤ 10 ^ tz n := Nat.pow_le_pow_right (by omega) h3
    have h5 := Nat.le_mul_of_pos_left (10 ^ tz n) h2
    omega

/-- a number in sign, digits' worth, and power -/
structure Pl where
  neg : Bool
  m : Nat
  e : Int
def zP : Pl := ⟨false, 0, 0⟩
/-- the plain one -/
def pl (s : Bool) (v : Nat) (e : Int) : Pl := if v = 0 then zP else ⟨s, core v, e + tz v⟩
def dl (m : Nat) : Nat := (dg 10 m).length
def inR (p : Pl) : Bool := decide (dl p.m ≤ 400 ∧ -10000 ≤ p.e + dl p.m - 1 ∧ p.e + dl p.m - 1 ≤ 10000)
/-- an answer: an error's number, and a number -/
structure Ans where
  err : Nat
  p : Pl
def tellA (s : Bool) (v : Nat) (e : Int) : Ans := if inR (pl s v e) = true then ⟨0, pl s v e⟩ else ⟨3, zP⟩
def nearB (n : Nat) (e : Int) : Bool := decide (n ≤ 200 ∧ -30000 ≤ e ∧ e ≤ 30000)
def normA (n : Nat) (s : Bool) (v : Nat) (e : Int) : Ans := if nearB n e = true then tellA s v e else ⟨1, zP⟩
/-- is plain -/
def PlainP (p : Pl) : Prop := (p.m = 0 ∧ p = zP) ∨ p.m % 10 ≠ 0
theorem pl_plain (s : Bool) (v : Nat) (e : Int) : PlainP (pl s v e) := by
  unfold pl
  by_cases h : v = 0
  · rw [if_pos h]; exact .inl ⟨rfl, rfl⟩
  · rw [if_neg h]; exact .inr (tz_spec v (by omega)).1
theorem pl_of_plain {p : Pl} (h : PlainP p) : pl p.neg p.m p.e = p := by
  unfold pl
  rcases h with ⟨h0, h1⟩ | h
  · rw [if_pos h0, h1]
  · rw [if_neg (by omega)]
    have e1 : core p.m = p.m := by have := core_plain h 0; simpa using this
    rw [e1, tz_no h]; simp
theorem zP_in : inR zP = true := by
  unfold inR zP dl
  rw [dg_zero]; rfl
theorem inR_bounds {p : Pl} (h : inR p = true) : dl p.m ≤ 400 ∧ -10400 ≤ p.e ∧ p.e ≤ 10001 := by
  unfold inR at h
  have := of_decide_eq_true h
  omega
theorem tellA_in (s : Bool) (v : Nat) (e : Int) : inR (tellA s v e).p = true := by
  unfold tellA
  by_cases h : inR (pl s v e) = true
  · rw [if_pos h]; exact h
  · rw [if_neg h]; exact zP_in
theorem tellA_plain (s : Bool) (v : Nat) (e : Int) : PlainP (tellA s v e).p := by
  unfold tellA
  by_cases h : inR (pl s v e) = true
  · rw [if_pos h]; exact pl_plain _ _ _
  · rw [if_neg h]; exact .inl ⟨rfl, rfl⟩
theorem normA_in (n : Nat) (s : Bool) (v : Nat) (e : Int) : inR (normA n s v e).p = true := by
  unfold normA
  split
  · exact tellA_in _ _ _
  · exact zP_in
theorem normA_plain (n : Nat) (s : Bool) (v : Nat) (e : Int) : PlainP (normA n s v e).p := by
  unfold normA
  split
  · exact tellA_plain _ _ _
  · exact .inl ⟨rfl, rfl⟩
theorem Ans.z_of_err {n : Nat} {s : Bool} {v : Nat} {e : Int} (h : (normA n s v e).err ≠ 0) : (normA n s v e).p = zP := by
  unfold normA tellA at *
  split at h
  · rename_i h1
    rw [if_pos h1]
    split at h
    · exact absurd rfl h
    · rename_i h2; rw [if_neg h2]
  · rename_i h1; rw [if_neg h1]

/-! Noughts at the end of limbs. -/
theorem tz_limbs {l : List Nat} {k : Nat} (hk : k < l.length) (hz : ∀ j, j < k → l[j]?.getD 0 = 0) (hne : l[k]?.getD 0 ≠ 0) (hlo : Lo 1000000000 l) : tz (vl 1000000000 l) = 9 * k + tz (l[k]?.getD 0) := by
  have h1 : ∀ j, j ≤ k → vl 1000000000 (l.take j) = 0 := by
    intro j
    induction j with
    | zero => intro _; rfl
    | succ j ih => intro hj; rw [take_snoc l j (by omega), vl_append, ih (by omega), vl_one, hz j (by omega)]; simp
  have h2 := vl_drop (b := 1000000000) (l := l) (k := k) (by omega)
  rw [h1 k (Nat.le_refl _), Nat.zero_add, vl_drop_step hk] at h2
  have hx := Lo_get hlo (by omega) k
  generalize l[k]?.getD 0 = x at *
  generalize vl 1000000000 (l.drop (k + 1)) = r at *
  rw [h2, show (1000000000 : Nat) ^ k = 10 ^ (9 * k) by rw [show (1000000000 : Nat) = 10 ^ 9 by decide, ← Nat.pow_mul], Nat.mul_comm, tz_mul (by omega)]
  obtain ⟨c1, c2⟩ := tz_spec x (by omega)
  have ht : tz x < 9 := tz_lt (M := 9) (by omega) (by rw [show (10 : Nat) ^ 9 = 1000000000 by decide]; exact hx)
  have e : x + 1000000000 * r = (core x + 10 ^ (9 - tz x) * r) * 10 ^ tz x := by
    rw [Nat.add_mul, c2, Nat.mul_right_comm, ← Nat.pow_add, show 9 - tz x + tz x = 9 by omega, show (10 : Nat) ^ 9 = 1000000000 by decide]
  have hmod : (core x + 10 ^ (9 - tz x) * r) % 10 ≠ 0 := by
    obtain ⟨q, hq⟩ : ∃ q, 9 - tz x = q + 1 := ⟨9 - tz x - 1, by omega⟩
    rw [hq, Nat.pow_succ, Nat.mul_comm (10 ^ q) 10, Nat.mul_assoc, Nat.add_mul_mod_self_left]; exact c1
  rw [e, tz_plain hmod]; omega
end Go.Proofs.YtpgiljibicigeaaGreatDoor.LM

/- Walks of dec: isNear, noughtsAtEnd. -/
namespace Go.Proofs.YtpgiljibicigeaaGreatDoor
open Go.RowKit LM

theorem zeros_worth {l : List Nat} : ∀ k, k ≤ l.length → (∀ j, j < k → l[j]?.getD 0 = 0) → vl 1000000000 (l.take k) = 0 := by
  intro k
  induction k with
  | zero => intro _ _; rfl
  | succ k ih => intro hk h; rw [take_snoc l k (by omega), vl_append, ih (by omega) (fun j hj => h j (by omega)), vl_one, h k (by omega)]; simp
theorem zeros_more {l : List Nat} {k : Nat} (h0 : 0 < vl 1000000000 l) (hk : k < l.length) (hz : ∀ j, j < k → l[j]?.getD 0 = 0) (h : l[k]?.getD 0 = 0) : k + 1 < l.length := by
  rcases Nat.lt_or_ge (k + 1) l.length with h1 | h1
  · exact h1
  · exfalso
    have h2 := zeros_worth (l := l) (k + 1) (by omega) (fun j hj => by
      rcases Nat.lt_or_ge j k with h3 | h3
      · exact hz j h3
      · rw [show j = k by omega]; exact h)
    rw [List.take_of_length_le h1] at h2
    omega

set_option maxHeartbeats 2000000 in
theorem noughtsAtEnd_any (a : Option Addr) (c : Nat) (l : List Nat) (w : World) (hl : l.length ≤ 1000000) (hlo : Lo 1000000000 l) (hv : 0 < vl 1000000000 l) (hrd : Rd w .u32 a l) :
    Calls Tryz.prog 136 #[.slice a l.length c] w fun e w' => e = .returned (.int .i64 (tz (vl 1000000000 l) : Nat)) ∧ w = w' := by
  have HLO := Lib.hid hlo; have HV := Lib.hid hv
  have hpos : 0 < l.length := by
    rcases Nat.eq_zero_or_pos l.length with e | e
    · rw [List.eq_nil_of_length_eq_zero e] at hv; simp [vl] at hv
    · exact e
  clear hlo hv
  go_enter Tryz.func136, Tryz.ntmps136
  go_wp2
  go_loop [3] (fun i => ∃ k : Nat, k < l.length ∧ i = .int .i64 k ∧ Hid (∀ j, j < k → l[j]?.getD 0 = 0)) (fun i => l.length - (intOf i).toNat)
  case atStart => exact ⟨0, hpos, rfl, Lib.hid (fun j hj => by omega)⟩
  case round =>
    obtain ⟨k, hk, rfl, HZ⟩ := hrel
    obtain ⟨b, off, x, e1, HX, hx, hc⟩ := hrd.get HLO.out k hk
    subst e1
    rcases Nat.eq_zero_or_pos x with h0 | h0
    · have hk1 : k + 1 < l.length := zeros_more HV.out hk HZ.out (by rw [← HX.out]; exact h0)
      have HZ1 := Lib.hid (show ∀ j, j < k + 1 → l[j]?.getD 0 = 0 from fun j hj => by
        rcases Nat.lt_or_ge j k with h3 | h3
        · exact HZ.out j h3
        · rw [show j = k by omega, ← HX.out]; exact h0)
      have hxB : ((x : Int) == 0) = true := by simp [h0]
      clear h0
      go_wp2
      go_round
      case rel => exact ⟨k + 1, hk1, by go_num, HZ1⟩
      case measure => simp [intOf]; omega
    · have hxB : ((x : Int) == 0) = false := by simp; omega
      have hT := tz_limbs hk HZ.out (by rw [← HX.out]; omega) HLO.out
      rw [← HX.out] at hT
      have HT := Lib.hid hT
      clear hT
      go_wp2_with fail
      clear hxB hc
      go_loop [4, 5] (fun v4 v5 => ∃ j r : Nat, v4 = .int .i64 ((9 * k + j : Nat) : Int) ∧ v5 = .int .u32 r ∧ 0 < r ∧ r < 1000000000 ∧ j ≤ 9 ∧ r * 10 ^ j ≤ 1000000000 ∧ Hid (tz x = j + tz r)) (fun _ v5 => (intOf v5).toNat)
      case atStart => exact ⟨0, x, by go_num, rfl, h0, hx, by omega, by omega, Lib.hid (by omega)⟩
      case round =>
        obtain ⟨j, r, rfl, rfl, hr0, hr, hj, hrj, HJ⟩ := hrel
        by_cases hm : r % 10 = 0
        · have hmB : ((r : Int) % 10 == 0) = true := by simp; omega
          have hj9 : j + 1 ≤ 9 := by
            rcases Nat.lt_or_ge j 9 with h | h
            · exact h
            · exfalso
              have : j = 9 := by omega
              rw [this] at hrj
              omega
          have hrj2 : r / 10 * 10 ^ (j + 1) ≤ 1000000000 := by
            rw [Nat.pow_succ, Nat.mul_comm (10 ^ j) 10, ← Nat.mul_assoc, show r / 10 * 10 = r by omega]; exact hrj
          have HJ2 := Lib.hid (show tz x = (j + 1) + tz (r / 10) by rw [HJ.out, tz_yes hr0 hm]; omega)
          have hr10 : 0 < r / 10 := by omega
          have hrlt : r / 10 < r := by omega
          clear hm hrj
          go_wp2
          go_round
          case rel => exact ⟨j + 1, r / 10, by go_num, by go_num, hr10, by omega, hj9, hrj2, HJ2⟩
          case measure => simp [intOf]; omega
        · have hmB : ((r : Int) % 10 == 0) = false := by simp; omega
          have hfin := HT.out
          rw [HJ.out, tz_no hm] at hfin
          have HFIN := Lib.hid hfin
          clear hfin hm
          go_wp2
          go_ret
          exact ⟨ret_int (by rw [HFIN.out]; omega), rfl⟩
end Go.Proofs.YtpgiljibicigeaaGreatDoor

/- Walks: the document's answer: trim, digit, Add, Shift. -/
namespace Go.Proofs.YtpgiljibicigeaaGreatDoor
open Go.RowKit LM

end Go.Proofs.YtpgiljibicigeaaGreatDoor

/- Walks: the document's answer: From, To; of, to. -/
namespace Go.Proofs.YtpgiljibicigeaaGreatDoor
open Go.RowKit LM

theorem shift_vl {x y : List Nat} {n : Nat} (h : y = [] ∧ x = [] ∨ y = List.replicate n 0 ++ x) (hx : Lo 10 x) : vl 10 y = 10 ^ n * vl 10 x ∧ Lo 10 y ∧ y.length ≤ n + x.length := by
  rcases h with ⟨rfl, rfl⟩ | rfl
  · exact ⟨by rw [vl_nil, Nat.mul_zero], Lo_nil _, by simp⟩
  · exact ⟨vl10_shift, Lo_append (Lo_zeros (by omega)) hx, by simp⟩
theorem dg10_le {l : List Nat} (hlo : Lo 4294967296 l) (k : Nat) : (dg 10 (vl 1000000000 (l.take k))).length ≤ 9 * (k + 1) := by
  refine dg_len_of_lt (by omega) ?_
  have h1 := vl_bound (l := l.take k) (fun z hz => hlo z (List.mem_of_mem_take hz))
  rw [show (1000000000 : Nat) = 10 ^ 9 by decide, ← Nat.pow_mul] at h1
  refine Nat.lt_of_lt_of_le (by rw [show (1000000000 : Nat) = 10 ^ 9 by decide]; exact h1) (Nat.pow_le_pow_right (by omega) ?_)
  have : (l.take k).length ≤ k := by rw [List.length_take]; exact Nat.min_le_left _ _
  omega

theorem nine_end {x : List Nat} {j : Nat} (h : x.length ≤ 9 * j) : vl 10 (x.drop (9 * j)) = 0 := by rw [List.drop_eq_nil_of_le h, vl_nil]

end Go.Proofs.YtpgiljibicigeaaGreatDoor
