/- Plain mathematics: order of digit lists, taking off, adding. Nothing of the program. -/
import Derived.Test.YtofeckdhhaoobaaDoorLimbMath
namespace Go.Proofs.YtofeckdhhaoobaaDoor.LM

/-- -1, 0, 1 -/
def cmpN (a b : Nat) : Int := if a < b then -1 else if b < a then 1 else 0
theorem cmpN_lt {a b : Nat} (h : a < b) : cmpN a b = -1 := if_pos h
theorem cmpN_gt {a b : Nat} (h : b < a) : cmpN a b = 1 := by unfold cmpN; rw [if_neg (by omega), if_pos h]
theorem cmpN_eq (a : Nat) : cmpN a a = 0 := by unfold cmpN; rw [if_neg (by omega), if_neg (by omega)]

theorem dg_lower {b : Nat} (hb : 2 ≤ b) : ∀ n, 0 < n → b ^ ((dg b n).length - 1) ≤ n := by
  intro n
  induction n using Nat.strongRecOn with
  | _ n ih =>
    intro hn
    rw [dg_pos hb hn]
    simp only [List.length_cons, Nat.add_sub_cancel]
    rcases Nat.eq_zero_or_pos (n / b) with h0 | h0
    · rw [h0, dg_zero]; simp; omega
    · have h1 := ih (n / b) (Nat.div_lt_self hn (by omega)) h0
      have h2 : (dg b (n / b)).length = ((dg b (n / b)).length - 1) + 1 := by
        have : (dg b (n / b)).length ≠ 0 := by rw [dg_pos hb h0]; simp
        omega
      rw [h2, Nat.pow_succ]
      exact Nat.le_trans (Nat.mul_le_mul_right b h1) (Nat.div_mul_le_self n b)
theorem dg_upper {b : Nat} (hb : 2 ≤ b) (n : Nat) : n < b ^ (dg b n).length := by
  have := vl_lt (Lo_dg hb n); rw [vl_dg hb] at this; exact this
theorem dg_len_lt {b m n : Nat} (hb : 2 ≤ b) (h : (dg b m).length < (dg b n).length) : m < n := by
  have h1 := dg_upper hb m
  have h0 : 0 < n := by
    rcases Nat.eq_zero_or_pos n with e | e
    · subst e; rw [dg_zero] at h; simp at h
    · exact e
  have h2 := dg_lower hb n h0
  have h3 : b ^ (dg b m).length ≤ b ^ ((dg b n).length - 1) := Nat.pow_le_pow_right (by omega) (by omega)
  omega
theorem dg_len_le {b m n : Nat} (hb : 2 ≤ b) (h : m ≤ n) : (dg b m).length ≤ (dg b n).length := by
  rcases Nat.lt_or_ge (dg b n).length (dg b m).length with h1 | h1
  · have := dg_len_lt hb h1; omega
  · exact h1
/-- so many limbs at most -/
theorem dg_len_of_lt {b n k : Nat} (hb : 2 ≤ b) (h : n < b ^ k) : (dg b n).length ≤ k := by
  rcases Nat.eq_zero_or_pos n with e | e
  · subst e; rw [dg_zero]; simp
  · rcases Nat.lt_or_ge k (dg b n).length with h1 | h1
    · have h2 := dg_lower hb n e
      have h3 : b ^ k ≤ b ^ ((dg b n).length - 1) := Nat.pow_le_pow_right (by omega) (by omega)
      omega
    · exact h1

theorem vl_drop {b : Nat} {l : List Nat} {k : Nat} (h : k ≤ l.length) : vl b l = vl b (l.take k) + b ^ k * vl b (l.drop k) := by
  have := vl_append b (l.take k) (l.drop k)
  rw [List.take_append_drop, List.length_take, Nat.min_eq_left h] at this
  exact this
theorem drop_cons {l : List Nat} {k : Nat} (h : k < l.length) : l.drop k = l[k]?.getD 0 :: l.drop (k + 1) := by
  rw [List.drop_eq_getElem_cons h]; simp [h]
/-- the highest places that part decide -/
theorem vl_part {b : Nat} {x y : List Nat} {k : Nat} (hx : Lo b x) (h1 : k < x.length) (h2 : k < y.length) (hd : x.drop (k + 1) = y.drop (k + 1)) (hlt : x[k]?.getD 0 < y[k]?.getD 0) : vl b x < vl b y := by
  rw [vl_drop (b := b) (l := x) (k := k) (by omega), vl_drop (b := b) (l := y) (k := k) (by omega), drop_cons h1, drop_cons h2]
  simp only [vl]; rw [hd]
  have h3 : vl b (x.take k) < b ^ k := by
    have := vl_lt (b := b) (l := x.take k) (fun z hz => hx z (List.mem_of_mem_take hz))
    rwa [List.length_take, Nat.min_eq_left (by omega)] at this
  have h4 : b ^ k * (x[k]?.getD 0 + 1) ≤ b ^ k * (y[k]?.getD 0) := Nat.mul_le_mul_left _ hlt
  rw [Nat.mul_add, Nat.mul_add]; rw [Nat.mul_add, Nat.mul_one] at h4
  omega
theorem drop_step {x y : List Nat} {k : Nat} (h1 : k < x.length) (h2 : k < y.length) (hd : x.drop (k + 1) = y.drop (k + 1)) (e : x[k]?.getD 0 = y[k]?.getD 0) : x.drop k = y.drop k := by
  rw [drop_cons h1, drop_cons h2, hd, e]

/-! Taking off -/
/-- a step of taking t times y off x: d are the new low places, c the carry -/
theorem off_step {x y d : List Nat} {t c k : Nat} (hk : k < x.length) (hd : d.length = k)
    (h : vl 1000000000 (x.take k) + 1000000000 ^ k * c = vl 1000000000 d + t * vl 1000000000 (y.take k)) (c' v q : Nat)
    (hq : q = c + t * (y[k]?.getD 0)) (hv : x[k]?.getD 0 + 1000000000 * c' = v + q) :
    vl 1000000000 (x.take (k + 1)) + 1000000000 ^ (k + 1) * c' = vl 1000000000 (d ++ [v]) + t * vl 1000000000 (y.take (k + 1)) := by
  rw [take_snoc x k hk, vl_append, vl_append, vl_one, vl_one, hd, List.length_take, Nat.min_eq_left (by omega : k ≤ x.length), Nat.pow_succ]
  have hy : vl 1000000000 (y.take (k + 1)) = vl 1000000000 (y.take k) + 1000000000 ^ k * (y[k]?.getD 0) := by
    rcases Nat.lt_or_ge k y.length with h1 | h1
    · rw [take_snoc y k h1, vl_append, vl_one, List.length_take, Nat.min_eq_left (by omega)]
    · rw [List.take_of_length_le (by omega), List.take_of_length_le (by omega)]; simp [h1]
  rw [hy]
  generalize x[k]?.getD 0 = X at *
  generalize y[k]?.getD 0 = Y at *
  generalize 1000000000 ^ k = p at *
  have e1 : p * X + p * 1000000000 * c' = p * v + p * (c + t * Y) := by rw [Nat.mul_assoc, ← Nat.mul_add, hv, hq, Nat.mul_add]
  have e2 : t * (vl 1000000000 (y.take k) + p * Y) = t * vl 1000000000 (y.take k) + p * (t * Y) := by rw [Nat.mul_add, Nat.mul_left_comm]
  rw [e2]; rw [Nat.mul_add p c] at e1
  omega
theorem off_end {x y d : List Nat} {t c : Nat} (hd : d.length = x.length) (hlo : Lo 1000000000 d) (hy : y.length ≤ x.length) (hle : t * vl 1000000000 y ≤ vl 1000000000 x)
    (h : vl 1000000000 (x.take x.length) + 1000000000 ^ x.length * c = vl 1000000000 d + t * vl 1000000000 (y.take x.length)) : vl 1000000000 d = vl 1000000000 x - t * vl 1000000000 y := by
  rw [List.take_length, List.take_of_length_le hy] at h
  have h1 := vl_lt hlo
  rw [hd] at h1
  rcases Nat.eq_zero_or_pos c with e | e
  · subst e; rw [Nat.mul_zero] at h; omega
  · have := Nat.le_mul_of_pos_right (1000000000 ^ x.length) e
    omega

/-- a window of a row, its first places turned -/
def win (L d : List Nat) (off : Nat) : List Nat := L.take off ++ d ++ L.drop (off + d.length)
theorem win_length {L d : List Nat} {off : Nat} (h : off + d.length ≤ L.length) : (win L d off).length = L.length := by simp [win]; omega
theorem win_nil (L : List Nat) (off : Nat) : win L [] off = L := by simp [win]
theorem win_get {L d : List Nat} {off : Nat} (h : off ≤ L.length) : (win L d off)[off + d.length]?.getD 0 = L[off + d.length]?.getD 0 := by
  have h1 : ¬ off + d.length < off := by omega
  simp [win, List.getElem?_append, Nat.min_eq_left h, h1]
theorem win_set {L d : List Nat} {off : Nat} (v : Nat) (h : off + d.length < L.length) : (win L d off).set (off + d.length) v = win L (d ++ [v]) off := by
  unfold win
  have h1 : (L.take off ++ d).length = off + d.length := by simp; omega
  rw [List.set_append, if_neg (by omega), h1, Nat.sub_self, drop_cons h]
  simp [Nat.add_assoc]
theorem window_get {L : List Nat} {off n k : Nat} (h : k < n) : ((L.drop off).take n)[k]?.getD 0 = L[off + k]?.getD 0 := by
  simp [h]

/-! Adding in place -/
/-- the sums of the first k places -/
def addl (x y : List Nat) (k : Nat) : List Nat := (List.range k).map (fun j => x[j]?.getD 0 + y[j]?.getD 0) ++ x.drop k
theorem addl_length {x y : List Nat} {k : Nat} (h : k ≤ x.length) : (addl x y k).length = x.length := by simp [addl]; omega
theorem addl_zero (x y : List Nat) : addl x y 0 = x := by simp [addl]
theorem addl_get {x y : List Nat} {k : Nat} : (addl x y k)[k]?.getD 0 = x[k]?.getD 0 := by simp [addl, List.getElem?_append]
theorem addl_set {x y : List Nat} {k : Nat} (h : k < x.length) : (addl x y k).set k (x[k]?.getD 0 + y[k]?.getD 0) = addl x y (k + 1) := by
  unfold addl
  rw [List.set_append, if_neg (by simp), drop_cons h]
  simp [List.range_succ]
theorem addl_worth {x y : List Nat} : ∀ k, k ≤ x.length → k ≤ y.length → vl 1000000000 (addl x y k) = vl 1000000000 x + vl 1000000000 (y.take k) := by
  intro k
  induction k with
  | zero => intro _ _; simp [addl, vl]
  | succ k ih =>
    intro h1 h2
    have ih := ih (by omega) (by omega)
    unfold addl at ih ⊢
    rw [vl_append] at ih ⊢
    rw [drop_cons (show k < x.length by omega)] at ih
    rw [take_snoc y k (by omega), vl_append, vl_one, List.range_succ, List.map_append, vl_append]
    simp only [List.length_append, List.length_map, List.length_range, List.map_cons, List.map_nil, vl_one, List.length_cons, List.length_nil, vl, List.length_take, Nat.zero_add, Nat.min_eq_left (by omega : k ≤ y.length), Nat.pow_succ] at ih ⊢
    generalize x[k]?.getD 0 = X at *
    generalize y[k]?.getD 0 = Y at *
    generalize 1000000000 ^ k = p at *
    rw [Nat.mul_add] at ih
    rw [Nat.mul_add, Nat.mul_assoc]
    omega
theorem addl_Lo {x y : List Nat} {k : Nat} (hx : Lo 1000000000 x) (hy : Lo 1000000000 y) : Lo 4294967296 (addl x y k) := by
  intro z hz
  rcases List.mem_append.1 hz with hz | hz
  · obtain ⟨j, _, rfl⟩ := List.mem_map.1 hz
    have h1 := Lo_get hx (by omega) j
    have h2 := Lo_get hy (by omega) j
    show x[j]?.getD 0 + y[j]?.getD 0 < _
    omega
  · have := hx z (List.mem_of_mem_drop hz); omega
theorem Lo_mono {M N : Nat} {l : List Nat} (h : Lo M l) (hMN : M ≤ N) : Lo N l := fun x hx => Nat.lt_of_lt_of_le (h x hx) hMN
/-! Multiplying -/
theorem mul_step {D Y E : List Nat} {i j u c p v q : Nat} (hi : i + j < D.length) (hE : E.length = j) (hp : p = D[i + j]?.getD 0) (hv : v = Y[j]?.getD 0) (hj : j < Y.length)
    (h : vl 1000000000 ((D.drop i).take j) + u * vl 1000000000 (Y.take j) = vl 1000000000 E + 1000000000 ^ j * c) (hq : q = p + u * v + c) :
    vl 1000000000 ((D.drop i).take (j + 1)) + u * vl 1000000000 (Y.take (j + 1)) = vl 1000000000 (E ++ [q % 1000000000]) + 1000000000 ^ (j + 1) * (q / 1000000000) := by
  have hg : (D.drop i)[j]?.getD 0 = p := by rw [List.getElem?_drop, hp]
  rw [take_snoc (D.drop i) j (by simp; omega), take_snoc Y j hj, vl_append, vl_append, vl_append, vl_one, vl_one, vl_one, hE, hg, ← hv, List.length_take, List.length_take, Nat.min_eq_left (by simp; omega), Nat.min_eq_left (by omega), Nat.pow_succ]
  generalize 1000000000 ^ j = b at *
  have e1 : b * (q % 1000000000) + b * 1000000000 * (q / 1000000000) = b * p + b * (u * v) + b * c := by
    rw [Nat.mul_assoc, ← Nat.mul_add, Nat.mod_add_div, hq, Nat.mul_add, Nat.mul_add]
  have e2 : u * (vl 1000000000 (Y.take j) + b * v) = u * vl 1000000000 (Y.take j) + b * (u * v) := by rw [Nat.mul_add, Nat.mul_left_comm]
  rw [e2]
  omega
theorem mul_end {D Y E X : List Nat} {i u c : Nat} (hD : D.length = i + Y.length) (hi : i < X.length) (hu : u = X[i]?.getD 0) (hE : E.length = Y.length)
    (h : vl 1000000000 ((D.drop i).take Y.length) + u * vl 1000000000 (Y.take Y.length) = vl 1000000000 E + 1000000000 ^ Y.length * c) (hv : vl 1000000000 D = vl 1000000000 (X.take i) * vl 1000000000 Y) :
    vl 1000000000 (D.take i ++ E ++ [c]) = vl 1000000000 (X.take (i + 1)) * vl 1000000000 Y := by
  rw [List.take_length, List.take_of_length_le (by simp; omega)] at h
  have h1 := vl_drop (b := 1000000000) (l := D) (k := i) (by omega)
  rw [take_snoc X i hi, vl_append, vl_append, vl_append, vl_one, vl_one, ← hu, List.length_append, List.length_take, List.length_take, Nat.min_eq_left (by omega), Nat.min_eq_left (by omega), hE, Nat.pow_add]
  generalize 1000000000 ^ i = b at *
  generalize 1000000000 ^ Y.length = b' at *
  rw [hv] at h1
  rw [Nat.add_mul, h1]
  have e1 : b * (vl 1000000000 (D.drop i) + u * vl 1000000000 Y) = b * (vl 1000000000 E + b' * c) := by rw [h]
  rw [Nat.mul_add, Nat.mul_add, ← Nat.mul_assoc, ← Nat.mul_assoc] at e1
  omega
theorem mul_row {D E : List Nat} {i m z c : Nat} (hD : D.length = i + m) (hE : E.length = m) :
    (win (D ++ List.replicate (z + 1) 0) E i).set (i + m) c = (D.take i ++ E ++ [c]) ++ List.replicate z 0 := by
  unfold win
  rw [hE, List.take_append_of_le_length (by omega), ← hD, List.drop_left]
  have h1 : (D.take i ++ E).length = D.length := by simp; omega
  rw [List.set_append, if_neg (by omega), h1, Nat.sub_self, List.replicate_succ, List.set_cons_zero]
  simp
theorem mul_get {D E : List Nat} {i j m z : Nat} (hD : D.length = i + m) (hE : E.length = j) (hj : j < m) : (win (D ++ List.replicate z 0) E i)[i + j]?.getD 0 = D[i + j]?.getD 0 := by
  subst hE
  rw [win_get (by simp; omega), List.getElem?_append_left (by omega)]
theorem vl_pad (l : List Nat) (z : Nat) : vl 1000000000 (l ++ List.replicate z 0) = vl 1000000000 l := by rw [vl_append, vl_zeros]; simp
end Go.Proofs.YtofeckdhhaoobaaDoor.LM
