/- Plain mathematics: the document's difference, product, quotient, text, cut. Nothing of the program. -/
import Derived.Test.YtofeckdhhaoobaaDoorLimbMathF
namespace Go.Proofs.YtofeckdhhaoobaaDoor.LM

theorem take10 (x : List Nat) (k : Nat) : vl 10 (x.take (k + 1)) = vl 10 (x.take k) + 10 ^ k * (x[k]?.getD 0) := by
  rcases Nat.lt_or_ge k x.length with h1 | h1
  · rw [take_snoc x k h1, vl_append, vl_one, List.length_take, Nat.min_eq_left (by omega)]
  · rw [List.take_of_length_le (by omega), List.take_of_length_le (by omega)]; simp [h1]

/-! The difference -/
theorem rsub_step {x y out : List Nat} {c c' k v : Nat} (ho : out.length = k) (hv : x[k]?.getD 0 + 10 * c' = v + (y[k]?.getD 0 + c))
    (h : vl 10 (x.take k) + 10 ^ k * c = vl 10 out + vl 10 (y.take k)) :
    vl 10 (x.take (k + 1)) + 10 ^ (k + 1) * c' = vl 10 (out ++ [v]) + vl 10 (y.take (k + 1)) := by
  rw [take10, take10, vl_append, vl_one, ho, Nat.pow_succ]
  generalize 10 ^ k = p at *
  have e1 : p * (x[k]?.getD 0) + p * 10 * c' = p * v + p * (y[k]?.getD 0) + p * c := by
    rw [Nat.mul_assoc, ← Nat.mul_add, hv, Nat.mul_add, Nat.mul_add, Nat.add_assoc]
  omega
theorem rsub_end {x y out : List Nat} {c : Nat} (ho : out.length = x.length) (hlo : Lo 10 out) (hy : y.length ≤ x.length) (hle : vl 10 y ≤ vl 10 x)
    (h : vl 10 (x.take x.length) + 10 ^ x.length * c = vl 10 out + vl 10 (y.take x.length)) : tr out = dg 10 (vl 10 x - vl 10 y) := by
  rw [List.take_length, List.take_of_length_le hy] at h
  have h1 := vl_lt hlo
  rw [ho] at h1
  have hc : c = 0 := by
    rcases Nat.eq_zero_or_pos c with e | e
    · exact e
    · have := Nat.le_mul_of_pos_right (10 ^ x.length) e; omega
  subst hc
  rw [Nat.mul_zero] at h
  rw [tr_eq (by omega) hlo, show vl 10 out = vl 10 x - vl 10 y by omega]

/-! The product -/
/-- a place raised -/
theorem vl_set {b : Nat} : ∀ {S : List Nat} {j z : Nat}, j < S.length → vl b (S.set j (S[j]?.getD 0 + z)) = vl b S + b ^ j * z := by
  intro S
  induction S with
  | nil => intro j z h; simp at h
  | cons s t ih =>
    intro j z h
    cases j with
    | zero => simp [vl]; omega
    | succ j =>
      simp only [List.length_cons] at h
      have := ih (j := j) (z := z) (by omega)
      simp only [List.set_cons_succ, vl, List.getElem?_cons_succ]
      rw [this, Nat.pow_succ, Nat.mul_add, Nat.mul_comm (b ^ j) b, Nat.mul_assoc, Nat.add_assoc]
/-- no sum is great -/
def Mb (i k : Nat) (S : List Nat) : Prop := ∀ j, S[j]?.getD 0 ≤ 81 * i + (if j < i + k then 81 else 0)
theorem Mb_zero (n : Nat) : Mb 0 0 (List.replicate n 0) := by
  intro j
  rcases Nat.lt_or_ge j n with h | h <;> simp [h]
theorem Mb_at {i k : Nat} {S : List Nat} (h : Mb i k S) : S[i + k]?.getD 0 ≤ 81 * i := by
  have := h (i + k); rwa [if_neg (by omega)] at this
theorem Mb_step {i k z : Nat} {S : List Nat} (h : Mb i k S) (hz : z ≤ 81) : Mb i (k + 1) (S.set (i + k) (S[i + k]?.getD 0 + z)) := by
  intro j
  by_cases hj : j = i + k
  · subst hj
    have := Mb_at h
    rw [if_pos (by omega)]
    rcases Nat.lt_or_ge (i + k) S.length with h1 | h1
    · rw [List.getElem?_set, if_pos rfl, if_pos h1]; simp only [Option.getD_some]; omega
    · rw [List.getElem?_set, if_pos rfl, if_neg (by omega)]; simp
  · rw [List.getElem?_set, if_neg (fun e => hj e.symm)]
    have := h j
    by_cases h2 : j < i + k
    · rw [if_pos h2] at this; rw [if_pos (by omega)]; exact this
    · rw [if_neg h2] at this; rw [if_neg (by omega)]; exact this
theorem Mb_next {i k : Nat} {S : List Nat} (h : Mb i k S) : Mb (i + 1) 0 S := by
  intro j
  have := h j
  by_cases h2 : j < i + k
  · rw [if_pos h2] at this; split <;> omega
  · rw [if_neg h2] at this; split <;> omega
theorem Mb_le {i : Nat} {S : List Nat} (h : Mb i 0 S) (j : Nat) : S[j]?.getD 0 ≤ 81 * (i + 1) := by
  have := h j; split at this <;> omega
theorem rmul_step {x y S : List Nat} {i k p q z : Nat} (hk : i + k < S.length) (hp : p = x[i]?.getD 0) (hq : q = y[k]?.getD 0) (hz : z = S[i + k]?.getD 0 + p * q)
    (h : vl 10 S = vl 10 (x.take i) * vl 10 y + 10 ^ i * (p * vl 10 (y.take k))) :
    vl 10 (S.set (i + k) z) = vl 10 (x.take i) * vl 10 y + 10 ^ i * (p * vl 10 (y.take (k + 1))) := by
  rw [hz, vl_set hk, h, take10, ← hq, Nat.mul_add p, Nat.mul_add (10 ^ i), Nat.pow_add]
  have : 10 ^ i * 10 ^ k * (p * q) = 10 ^ i * (p * (10 ^ k * q)) := by
    rw [Nat.mul_assoc, Nat.mul_left_comm (10 ^ k)]
  omega
theorem rmul_next {x y S : List Nat} {i p : Nat} (hp : p = x[i]?.getD 0) (h : vl 10 S = vl 10 (x.take i) * vl 10 y + 10 ^ i * (p * vl 10 (y.take y.length))) :
    vl 10 S = vl 10 (x.take (i + 1)) * vl 10 y := by
  rw [List.take_length] at h
  rw [h, take10, ← hp, Nat.add_mul, Nat.mul_assoc]
theorem rcar_step {S D : List Nat} {c i s : Nat} (hD : D.length = i) (hs : s = S[i]?.getD 0) (h : vl 10 (S.take i) = vl 10 D + 10 ^ i * c) :
    vl 10 (S.take (i + 1)) = vl 10 (D ++ [(c + s) % 10]) + 10 ^ (i + 1) * ((c + s) / 10) := by
  rw [take10, h, ← hs, vl_append, vl_one, hD, Nat.pow_succ]
  have e1 : 10 ^ i * ((c + s) % 10) + 10 ^ i * 10 * ((c + s) / 10) = 10 ^ i * c + 10 ^ i * s := by
    rw [Nat.mul_assoc, ← Nat.mul_add, Nat.mod_add_div, Nat.mul_add]
  omega
theorem rcar_end {x y S D : List Nat} {c n : Nat} (hx : Lo 10 x) (hy : Lo 10 y) (hS : S.length = n) (hn : n = x.length + y.length + 1) (hD : D.length = n) (hDl : Lo 10 D) (hv : vl 10 S = vl 10 (x.take x.length) * vl 10 y)
    (h : vl 10 (S.take n) = vl 10 D + 10 ^ n * c) : tr D = dg 10 (vl 10 x * vl 10 y) := by
  rw [← hS, List.take_length, hS, hv, List.take_length] at h
  have h1 := vl_lt hx
  have h2 := vl_lt hy
  have h3 : vl 10 x * vl 10 y < 10 ^ n := by
    have h4 : vl 10 x * vl 10 y < 10 ^ x.length * 10 ^ y.length := Nat.mul_lt_mul'' h1 h2
    rw [← Nat.pow_add] at h4
    exact Nat.lt_of_lt_of_le h4 (Nat.pow_le_pow_right (by omega) (by omega))
  have hc : c = 0 := by
    rcases Nat.eq_zero_or_pos c with e | e
    · exact e
    · have := Nat.le_mul_of_pos_right (10 ^ n) e; omega
  subst hc
  rw [Nat.mul_zero, Nat.add_zero] at h
  rw [tr_eq (by omega) hDl, ← h]
theorem fill_set {D : List Nat} {z v : Nat} : (D ++ List.replicate (z + 1) 0).set D.length v = (D ++ [v]) ++ List.replicate z 0 := by
  rw [List.set_append, if_neg (by omega), Nat.sub_self, List.replicate_succ, List.set_cons_zero]; simp

/-! The cut -/
theorem dg_drop {b : Nat} (hb : 2 ≤ b) : ∀ n v, (dg b v).drop n = dg b (v / b ^ n) := by
  intro n
  induction n with
  | zero => intro v; simp
  | succ n ih =>
    intro v
    rcases Nat.eq_zero_or_pos v with h | h
    · subst h; rw [dg_zero, Nat.zero_div, dg_zero]; simp
    · rw [dg_pos hb h, List.drop_succ_cons, ih, Nat.pow_succ, Nat.mul_comm, Nat.div_div_eq_div_mul]
theorem tr_low {b : Nat} (hb : 2 ≤ b) {n v : Nat} (h : n ≤ (dg b v).length) : tr ((dg b v).take n) = dg b (v % b ^ n) := by
  have hlo : Lo b ((dg b v).take n) := fun z hz => Lo_dg hb v z (List.mem_of_mem_take hz)
  have h1 := vl_drop (b := b) h
  have h2 := vl_lt hlo
  rw [List.length_take, Nat.min_eq_left h] at h2
  rw [vl_dg hb] at h1
  have e : v % b ^ n = vl b ((dg b v).take n) := by
    generalize vl b ((dg b v).take n) = p at *
    generalize vl b ((dg b v).drop n) = q at *
    rw [h1, Nat.add_mul_mod_self_left, Nat.mod_eq_of_lt h2]
  rw [tr_eq hb hlo, e]
theorem low_all {b : Nat} (hb : 2 ≤ b) {n v : Nat} (h : (dg b v).length ≤ n) : v / b ^ n = 0 ∧ v % b ^ n = v := by
  have h1 : v < b ^ n := Nat.lt_of_lt_of_le (dg_upper hb v) (Nat.pow_le_pow_right (by omega) h)
  exact ⟨Nat.div_eq_of_lt h1, Nat.mod_eq_of_lt h1⟩

/-! The quotient -/
theorem rdiv_in {r z : Nat} (hz : z < 10) : tr (z :: dg 10 r) = dg 10 (z + 10 * r) := by
  have hlo : Lo 10 (z :: dg 10 r) := by
    intro y hy
    rcases List.mem_cons.1 hy with rfl | hy
    · exact hz
    · exact Lo_dg (by omega) r y hy
  rw [tr_eq (by omega) hlo, vl, vl_dg (by omega)]
theorem drop10 {x : List Nat} {k : Nat} (h : k < x.length) : vl 10 (x.drop k) = x[k]?.getD 0 + 10 * vl 10 (x.drop (k + 1)) := by rw [drop_cons h, vl]
theorem rdiv_round {x : List Nat} {i u z q r t s : Nat} (hi : i < x.length) (hz : z = x[i]?.getD 0) (h : vl 10 (x.drop (i + 1)) = q * u + r) (hts : t * u + s = z + 10 * r) :
    vl 10 (x.drop i) = (t + 10 * q) * u + s := by
  rw [drop10 hi, ← hz, h, Nat.add_mul, Nat.mul_add, Nat.mul_assoc]; omega
theorem rdiv_end {v u q r : Nat} (h : v = q * u + r) (hr : r < u) : q = v / u ∧ r = v % u := by
  constructor
  · rw [h, Nat.mul_comm, Nat.mul_add_div (by omega), Nat.div_eq_of_lt hr, Nat.add_zero]
  · rw [h, Nat.mul_comm, Nat.mul_add_mod, Nat.mod_eq_of_lt hr]
theorem rdiv_nine {u t s z r : Nat} (hr : r < u) (hz : z < 10) (hts : t * u + s = z + 10 * r) (hge : u ≤ s) : t + 1 ≤ 9 := by
  rcases Nat.lt_or_ge t 9 with h | h
  · omega
  · exfalso
    have : 9 * u ≤ t * u := Nat.mul_le_mul_right _ h
    omega
theorem rdiv_less {u t s : Nat} (hge : u ≤ s) : (t + 1) * u + (s - u) = t * u + s := by rw [Nat.add_mul]; omega
/-- q's places -/
theorem q_set {k t v : Nat} {D : List Nat} : (List.replicate k 0 ++ t :: D).set k v = List.replicate k 0 ++ v :: D := by
  rw [List.set_append, if_neg (by simp)]; simp
theorem q_get {k t : Nat} {D : List Nat} : (List.replicate k 0 ++ t :: D)[k]?.getD 0 = t := by
  rw [List.getElem?_append_right (by simp)]; simp
theorem q_open {k : Nat} {D : List Nat} : List.replicate (k + 1) 0 ++ D = List.replicate k 0 ++ 0 :: D := by
  rw [List.replicate_succ']; simp

/-! The text -/
theorem text_set {n k v : Nat} {T : List Nat} (h : k < n) : (List.replicate (n - k) 0 ++ T).set (n - 1 - k) v = List.replicate (n - (k + 1)) 0 ++ v :: T := by
  rw [show n - k = (n - (k + 1)) + 1 by omega, show n - 1 - k = n - (k + 1) by omega, q_open, q_set]
/-- the first k digits as signs, the highest first -/
def rsig (x : List Nat) (k : Nat) : List Nat := ((x.take k).map (fun d => 48 + d)).reverse
theorem rsig_length {x : List Nat} {k : Nat} (h : k ≤ x.length) : (rsig x k).length = k := by simp [rsig]; omega
theorem rsig_step {x : List Nat} {k : Nat} (h : k < x.length) : rsig x (k + 1) = (48 + x[k]?.getD 0) :: rsig x k := by
  unfold rsig; rw [take_snoc x k h]; simp
theorem rsig_all {v : Nat} (h : 0 < v) : rsig (dg 10 v) (dg 10 v).length = (Lib.decDigits v).map (fun (b : UInt8) => b.toNat) := by
  unfold rsig
  rw [dec_text, if_neg (by omega), List.take_length, List.map_map, List.map_reverse]
  congr 1
  apply List.map_congr_left
  intro d hd
  have := Lo_dg (b := 10) (by omega) v d hd
  simp; omega
end Go.Proofs.YtofeckdhhaoobaaDoor.LM
