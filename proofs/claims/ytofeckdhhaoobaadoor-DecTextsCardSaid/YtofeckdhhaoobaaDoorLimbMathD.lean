/- Plain mathematics: the school's division. Nothing of the program. -/
import Derived.Test.YtofeckdhhaoobaaDoorLimbMathC
namespace Go.Proofs.YtofeckdhhaoobaaDoor.LM

/-! is t times y above a window? -/
theorem above_snoc {E V : List Nat} {e v : Nat} (hE : Lo 1000000000 E) (hV : Lo 1000000000 V) (hl : E.length = V.length) :
    (vl 1000000000 (V ++ [v]) < vl 1000000000 (E ++ [e])) ↔ (v < e ∨ v = e ∧ vl 1000000000 V < vl 1000000000 E) := by
  rw [vl_append, vl_append, vl_one, vl_one, ← hl]
  have h1 := vl_lt hE
  have h2 := vl_lt hV
  rw [← hl] at h2
  generalize 1000000000 ^ E.length = p at *
  constructor
  · intro h
    rcases Nat.lt_trichotomy v e with h3 | h3 | h3
    · exact .inl h3
    · subst h3; exact .inr ⟨rfl, by omega⟩
    · exfalso
      have : p * (e + 1) ≤ p * v := Nat.mul_le_mul_left _ h3
      rw [Nat.mul_add, Nat.mul_one] at this; omega
  · rintro (h3 | ⟨rfl, h4⟩)
    · have : p * (v + 1) ≤ p * e := Nat.mul_le_mul_left _ h3
      rw [Nat.mul_add, Nat.mul_one] at this; omega
    · omega
theorem above_step {y E : List Nat} {t c k v : Nat} (hE : E.length = k) (hv : v = y[k]?.getD 0) (h : t * vl 1000000000 (y.take k) = vl 1000000000 E + 1000000000 ^ k * c) :
    t * vl 1000000000 (y.take (k + 1)) = vl 1000000000 (E ++ [(c + t * v) % 1000000000]) + 1000000000 ^ (k + 1) * ((c + t * v) / 1000000000) := by
  have hy : vl 1000000000 (y.take (k + 1)) = vl 1000000000 (y.take k) + 1000000000 ^ k * v := by
    rw [hv]
    rcases Nat.lt_or_ge k y.length with h1 | h1
    · rw [take_snoc y k h1, vl_append, vl_one, List.length_take, Nat.min_eq_left (by omega)]
    · rw [List.take_of_length_le (by omega), List.take_of_length_le (by omega)]; simp [h1]
  rw [hy, Nat.mul_add, h, vl_append, vl_one, hE, Nat.pow_succ]
  generalize 1000000000 ^ k = p at *
  have e1 : p * ((c + t * v) % 1000000000) + p * 1000000000 * ((c + t * v) / 1000000000) = p * c + p * (t * v) := by
    rw [Nat.mul_assoc, ← Nat.mul_add, Nat.mod_add_div, Nat.mul_add]
  rw [Nat.mul_left_comm t p v]
  omega
theorem above_end {y E : List Nat} {t c n : Nat} (hE : E.length = n) (hy : y.length ≤ n) (hlt : t * vl 1000000000 y < 1000000000 ^ n) (h : t * vl 1000000000 (y.take n) = vl 1000000000 E + 1000000000 ^ n * c) :
    vl 1000000000 E = t * vl 1000000000 y := by
  rw [List.take_of_length_le hy] at h
  rcases Nat.eq_zero_or_pos c with e | e
  · subst e; omega
  · have := Nat.le_mul_of_pos_right (1000000000 ^ n) e; omega

/-! The bounds of a quotient's limb -/
/-- the three highest places of a window, the two highest of a divisor: W is the window, y the divisor, s the place value -/
theorem bound_high {W y W3 b s : Nat} (hs : 0 < s) (hy : b * s ≤ y) (hW : W < (W3 + 1) * s) (hb : 0 < b) : W / y ≤ W3 / b := by
  rw [Nat.le_div_iff_mul_le hb]
  have h1 : W / y * y ≤ W := Nat.div_mul_le_self W y
  have h2 : W / y * b * s ≤ W / y * y := by rw [Nat.mul_assoc]; exact Nat.mul_le_mul_left _ hy
  have h3 : W / y * b * s < (W3 + 1) * s := by omega
  have := Nat.lt_of_mul_lt_mul_right h3
  omega
theorem bound_low {W y W3 b s : Nat} (hy0 : 0 < y) (hy : y ≤ (b + 1) * s) (hW : W3 * s ≤ W) : W3 / (b + 1) ≤ W / y := by
  rw [Nat.le_div_iff_mul_le hy0]
  have h1 : W3 / (b + 1) * y ≤ W3 / (b + 1) * ((b + 1) * s) := Nat.mul_le_mul_left _ hy
  have h2 : W3 / (b + 1) * (b + 1) ≤ W3 := Nat.div_mul_le_self _ _
  have h3 : W3 / (b + 1) * (b + 1) * s ≤ W3 * s := Nat.mul_le_mul_right _ h2
  rw [Nat.mul_assoc] at h3
  omega
theorem search_count {lo hi W y : Nat} (hy : 0 < y) (h1 : lo ≤ W / y) (h2 : W / y ≤ hi) : (List.range (hi - lo)).countP (fun i => !decide (W < (lo + i + 1) * y)) = W / y - lo := by
  have key : ∀ i, (!decide (W < (lo + i + 1) * y)) = decide (i < W / y - lo) := by
    intro i
    have e : (W < (lo + i + 1) * y) ↔ ¬ (i < W / y - lo) := by
      rw [← Nat.div_lt_iff_lt_mul hy]; omega
    by_cases h : i < W / y - lo
    · rw [decide_eq_false (fun h3 => (e.1 h3) h), decide_eq_true h]; rfl
    · rw [decide_eq_true (e.2 h), decide_eq_false h]; rfl
  rw [show (fun i => !decide (W < (lo + i + 1) * y)) = (fun i => decide (i < W / y - lo)) from funext key]
  have : ∀ n m, m ≤ n → (List.range n).countP (fun i => decide (i < m)) = m := by
    intro n m
    induction n with
    | zero => intro h; simp; omega
    | succ n ih =>
      intro h
      rw [List.range_succ, List.countP_append]
      rcases Nat.lt_or_ge n m with h3 | h3
      · have hm : m = n + 1 := by omega
        subst hm
        have : (List.range n).countP (fun i => decide (i < n + 1)) = n := by
          have h4 : (List.range n).countP (fun i => decide (i < n + 1)) = (List.range n).length := List.countP_eq_length.2 (by intro a ha; have := List.mem_range.1 ha; simp; omega)
          rw [h4, List.length_range]
        rw [this]; simp
      · rw [ih h3]; simp; omega
  exact this _ _ (by omega)

/-! The rounds -/
theorem vl_window {R : List Nat} {p m : Nat} (hlt : vl 1000000000 (R.drop p) < 1000000000 ^ m) : vl 1000000000 ((R.drop p).take m) = vl 1000000000 (R.drop p) := by
  rcases Nat.le_total m (R.drop p).length with h | h
  · have h1 := vl_drop (b := 1000000000) (l := R.drop p) (k := m) h
    rcases Nat.eq_zero_or_pos (vl 1000000000 ((R.drop p).drop m)) with e | e
    · rw [e] at h1; omega
    · have := Nat.le_mul_of_pos_right (1000000000 ^ m) e; omega
  · rw [List.take_of_length_le h]
theorem win_drop {R d : List Nat} {at_ : Nat} (h : at_ + d.length ≤ R.length) : (win R d at_).drop at_ = d ++ R.drop (at_ + d.length) := by
  unfold win
  rw [List.append_assoc, List.drop_append, List.drop_of_length_le (by simp; omega), List.nil_append, List.length_take, Nat.min_eq_left (by omega), Nat.sub_self, List.drop_zero]
theorem win_take {R d : List Nat} {at_ : Nat} (h : at_ ≤ R.length) : (win R d at_).take at_ = R.take at_ := by
  unfold win
  rw [List.append_assoc, List.take_append_of_le_length (by simp; omega), List.take_take, Nat.min_self]
/-- one round of the school's division -/
theorem div_round {X Y R D d : List Nat} {p m : Nat} (hm : Y.length = m) (hY : 0 < vl 1000000000 Y) (hYlo : Lo 1000000000 Y) (hRlo : Lo 1000000000 R) (hp : p + m + 1 ≤ R.length)
    (hr : vl 1000000000 (R.drop (p + 1)) < vl 1000000000 Y) (hX : vl 1000000000 X = vl 1000000000 R + vl 1000000000 Y * (1000000000 ^ (p + 1) * vl 1000000000 D))
    (hd : d.length = m + 1) (hdv : vl 1000000000 d = vl 1000000000 ((R.drop p).take (m + 1)) - vl 1000000000 ((R.drop p).take (m + 1)) / vl 1000000000 Y * vl 1000000000 Y) :
    vl 1000000000 ((R.drop p).take (m + 1)) / vl 1000000000 Y < 1000000000 ∧ vl 1000000000 ((win R d p).drop p) < vl 1000000000 Y ∧
    vl 1000000000 X = vl 1000000000 (win R d p) + vl 1000000000 Y * (1000000000 ^ p * vl 1000000000 (vl 1000000000 ((R.drop p).take (m + 1)) / vl 1000000000 Y :: D)) := by
  have hYb := vl_lt hYlo
  rw [hm] at hYb
  have hx0 : R[p]?.getD 0 < 1000000000 := Lo_get hRlo (by omega) p
  have hstep := vl_drop_step (X := R) (k := p) (by omega)
  have hWlt : vl 1000000000 (R.drop p) < 1000000000 * vl 1000000000 Y := by omega
  have hWb : vl 1000000000 (R.drop p) < 1000000000 ^ (m + 1) := by rw [Nat.pow_succ]; omega
  have hwin := vl_window hWb
  rw [hwin] at hdv ⊢
  generalize hWe : vl 1000000000 (R.drop p) = W at *
  have hq : W / vl 1000000000 Y < 1000000000 := by rw [Nat.div_lt_iff_lt_mul hY]; exact hWlt
  have hmod : vl 1000000000 d = W % vl 1000000000 Y := by
    have := Nat.div_add_mod W (vl 1000000000 Y); rw [Nat.mul_comm] at this; omega
  have hzero : vl 1000000000 (R.drop (p + d.length)) = 0 := by
    have h1 := vl_drop (b := 1000000000) (l := R.drop p) (k := m + 1) (by simp; omega)
    rw [hwin, hWe, List.drop_drop] at h1
    rw [hd]
    rcases Nat.eq_zero_or_pos (vl 1000000000 (R.drop (p + (m + 1)))) with e | e
    · exact e
    · have := Nat.le_mul_of_pos_right (1000000000 ^ (m + 1)) e
      have := Nat.pow_pos (n := m + 1) (show 0 < 1000000000 by omega); omega
  have hdrop : vl 1000000000 ((win R d p).drop p) = W % vl 1000000000 Y := by
    rw [win_drop (by omega), vl_append, hzero, Nat.mul_zero, Nat.add_zero, hmod]
  refine ⟨hq, by rw [hdrop]; exact Nat.mod_lt _ hY, ?_⟩
  have hR := vl_drop (b := 1000000000) (l := R) (k := p) (by omega)
  have hR' := vl_drop (b := 1000000000) (l := win R d p) (k := p) (by rw [win_length (by omega)]; omega)
  rw [win_take (by omega), hdrop] at hR'
  rw [hWe] at hR
  rw [hX, hR, hR']
  simp only [vl]
  have hdm := Nat.div_add_mod W (vl 1000000000 Y)
  rw [Nat.pow_succ]
  generalize 1000000000 ^ p = b at *
  generalize vl 1000000000 Y = Yv at *
  generalize vl 1000000000 D = Dv at *
  have e1 : b * W = b * (Yv * (W / Yv)) + b * (W % Yv) := by rw [← Nat.mul_add, hdm]
  have e2 : Yv * (b * (W / Yv + 1000000000 * Dv)) = b * (Yv * (W / Yv)) + Yv * (b * 1000000000 * Dv) := by
    rw [Nat.mul_add, Nat.mul_add, Nat.mul_left_comm Yv b, Nat.mul_assoc b]
  rw [e1, e2]
  omega
/-- the end of the school's division -/
theorem div_end {X Y R D : List Nat} (hY : 0 < vl 1000000000 Y) (hr : vl 1000000000 (R.drop 0) < vl 1000000000 Y) (hX : vl 1000000000 X = vl 1000000000 R + vl 1000000000 Y * (1000000000 ^ 0 * vl 1000000000 D)) :
    vl 1000000000 D = vl 1000000000 X / vl 1000000000 Y ∧ vl 1000000000 R = vl 1000000000 X % vl 1000000000 Y := by
  rw [List.drop_zero] at hr
  rw [Nat.pow_zero, Nat.one_mul] at hX
  constructor
  · rw [hX, Nat.add_mul_div_left _ _ hY, Nat.div_eq_of_lt hr, Nat.zero_add]
  · rw [hX, Nat.add_mul_mod_self_left, Nat.mod_eq_of_lt hr]
/-- the beginning -/
theorem div_start {X Y : List Nat} {m : Nat} (hm : Y.length = m + 1) (hX : Lo 1000000000 X) (hlen : m + 1 ≤ X.length) (hYtop : 1 ≤ Y[m]?.getD 0) :
    vl 1000000000 ((X ++ [0]).drop (X.length - m)) < vl 1000000000 Y := by
  rw [List.drop_append_of_le_length (by omega), vl_append, vl_one, Nat.mul_zero, Nat.add_zero]
  have h1 := vl_lt (b := 1000000000) (l := X.drop (X.length - m)) (fun z hz => hX z (List.mem_of_mem_drop hz))
  rw [List.length_drop, show X.length - (X.length - m) = m by omega] at h1
  have h2 := vl_drop (b := 1000000000) (l := Y) (k := m) (by omega)
  rw [vl_top hm] at h2
  have h3 := Nat.le_mul_of_pos_right (1000000000 ^ m) (show 0 < Y[m]?.getD 0 by omega)
  omega
end Go.Proofs.YtofeckdhhaoobaaDoor.LM
