/- Plain mathematics of digit lists: worth of a list in a base, the plain list of a number, trimming. Nothing of the program. -/
import Derived.WalkKit
import Derived.Lib.ItoaNum
set_option linter.unusedVariables false
set_option linter.unusedSimpArgs false
namespace Go.Proofs.YtpgiljibicigeaaGreatDoor.LM

/-- worth of a list in base b, lowest first -/
def vl (b : Nat) : List Nat → Nat
  | [] => 0
  | x :: t => x + b * vl b t

/-- the plain list of a number -/
def dg (b : Nat) (n : Nat) : List Nat :=
  if _h : 2 ≤ b ∧ 0 < n then n % b :: dg b (n / b) else []
termination_by n
decreasing_by exact Nat.div_lt_self _h.2 (by omega)

/-- without noughts at the high end -/
def tr : List Nat → List Nat
  | [] => []
  | x :: t => if x = 0 ∧ tr t = [] then [] else x :: tr t

/-- all below b -/
def Lo (b : Nat) (l : List Nat) : Prop := ∀ x ∈ l, x < b

theorem dg_zero (b : Nat) : dg b 0 = [] := by rw [dg]; simp
theorem dg_pos {b n : Nat} (hb : 2 ≤ b) (hn : 0 < n) : dg b n = n % b :: dg b (n / b) := by rw [dg]; simp [hb, hn]

theorem vl_dg {b : Nat} (hb : 2 ≤ b) : ∀ n, vl b (dg b n) = n := by
  intro n
  induction n using Nat.strongRecOn with
  | _ n ih =>
    by_cases h : 0 < n
    · rw [dg_pos hb h]; simp only [vl]; rw [ih (n / b) (Nat.div_lt_self h (by omega))]; exact Nat.mod_add_div n b
    · have : n = 0 := by omega
      subst this; rw [dg_zero]; rfl

theorem Lo_dg {b : Nat} (hb : 2 ≤ b) : ∀ n, Lo b (dg b n) := by
  intro n
  induction n using Nat.strongRecOn with
  | _ n ih =>
    by_cases h : 0 < n
    · rw [dg_pos hb h]; intro x hx; rcases List.mem_cons.1 hx with rfl | hx
      · exact Nat.mod_lt _ (by omega)
      · exact ih (n / b) (Nat.div_lt_self h (by omega)) x hx
    · have : n = 0 := by omega
      subst this; rw [dg_zero]; intro x hx; cases hx

theorem vl_tr (b : Nat) : ∀ l, vl b (tr l) = vl b l := by
  intro l
  induction l with
  | nil => rfl
  | cons x t ih =>
    simp only [tr]
    split
    · rename_i h
      rw [h.2] at ih
      simp only [vl] at ih ⊢
      rw [← ih, h.1]; simp
    · simp only [vl]; rw [ih]

theorem Lo_tr {b : Nat} : ∀ {l}, Lo b l → Lo b (tr l) := by
  intro l
  induction l with
  | nil => intro h; exact h
  | cons x t ih =>
    intro h
    simp only [tr]
    split
    · intro y hy; cases hy
    · intro y hy
      rcases List.mem_cons.1 hy with rfl | hy
      · exact h _ (List.mem_cons_self ..)
      · exact ih (fun z hz => h z (List.mem_cons_of_mem _ hz)) y hy

/-- trimming a list of digits makes the plain list of its worth -/
theorem tr_eq {b : Nat} (hb : 2 ≤ b) : ∀ {l}, Lo b l → tr l = dg b (vl b l) := by
  intro l
  induction l with
  | nil => intro _; simp [tr, vl, dg_zero]
  | cons x t ih =>
    intro h
    have hx : x < b := h _ (List.mem_cons_self ..)
    have ht := ih (fun z hz => h z (List.mem_cons_of_mem _ hz))
    simp only [tr, vl]
    by_cases hz : x = 0 ∧ tr t = []
    · rw [if_pos hz]
      have h0 : vl b t = 0 := by rw [← vl_tr, hz.2]; rfl
      rw [hz.1, h0]; simp [dg_zero]
    · rw [if_neg hz]
      have hpos : 0 < x + b * vl b t := by
        by_cases h0 : x = 0
        · have : tr t ≠ [] := fun e => hz ⟨h0, e⟩
          have hv : 0 < vl b t := by
            rcases Nat.eq_zero_or_pos (vl b t) with e | e
            · rw [ht, e, dg_zero] at this; exact absurd rfl this
            · exact e
          have := Nat.mul_pos (show 0 < b by omega) hv
          omega
        · omega
      rw [dg_pos hb hpos, Nat.add_mul_mod_self_left, Nat.mod_eq_of_lt hx, Nat.add_mul_div_left _ _ (by omega : 0 < b), Nat.div_eq_of_lt hx, Nat.zero_add, ht]

theorem tr_dg {b : Nat} (hb : 2 ≤ b) (n : Nat) : tr (dg b n) = dg b n := by rw [tr_eq hb (Lo_dg hb n), vl_dg hb]

theorem vl_append (b : Nat) : ∀ l m, vl b (l ++ m) = vl b l + b ^ l.length * vl b m := by
  intro l m
  induction l with
  | nil => simp [vl]
  | cons x t ih => simp only [List.cons_append, vl, ih, List.length_cons, Nat.pow_succ]; rw [Nat.mul_add, ← Nat.add_assoc, ← Nat.mul_assoc, Nat.mul_comm b (b ^ t.length)]

theorem vl_lt {b : Nat} : ∀ {l}, Lo b l → vl b l < b ^ l.length := by
  intro l
  induction l with
  | nil => intro _; simp [vl]
  | cons x t ih =>
    intro h
    have hx : x < b := h _ (List.mem_cons_self ..)
    have ht := ih (fun z hz => h z (List.mem_cons_of_mem _ hz))
    simp only [vl, List.length_cons, Nat.pow_succ]
    have h1 : b * vl b t + b ≤ b * b ^ t.length := by
      have := Nat.mul_le_mul_left b (show vl b t + 1 ≤ b ^ t.length from ht)
      rw [Nat.mul_add, Nat.mul_one] at this; exact this
    rw [Nat.mul_comm (b ^ t.length) b]; omega

theorem Lo_append {b : Nat} {l m : List Nat} (h : Lo b l) (k : Lo b m) : Lo b (l ++ m) := by
  intro x hx; rcases List.mem_append.1 hx with hx | hx
  · exact h x hx
  · exact k x hx
theorem Lo_one {b x : Nat} (h : x < b) : Lo b [x] := by intro y hy; simp at hy; omega
theorem Lo_nil (b : Nat) : Lo b [] := by intro y hy; cases hy
theorem Lo_zeros {b n : Nat} (h : 0 < b) : Lo b (List.replicate n 0) := by intro y hy; rw [(List.mem_replicate.1 hy).2]; exact h
theorem vl_zeros (b n : Nat) : vl b (List.replicate n 0) = 0 := by
  induction n with
  | zero => rfl
  | succ n ih => simp [List.replicate_succ, vl, ih]

theorem tr_take : ∀ l, tr l = l.take (tr l).length := by
  intro l
  induction l with
  | nil => simp [tr]
  | cons x t ih =>
    simp only [tr]; split
    · simp
    · simp only [List.length_cons, List.take_succ_cons]; rw [← ih]

theorem tr_snoc_zero : ∀ l, tr (l ++ [0]) = tr l := by
  intro l
  induction l with
  | nil => simp [tr]
  | cons x t ih => simp only [List.cons_append, tr, ih]
theorem tr_snoc_pos {x : Nat} (h : x ≠ 0) : ∀ l, tr (l ++ [x]) = l ++ [x] := by
  intro l
  induction l with
  | nil => simp [tr, h]
  | cons y t ih => simp only [List.cons_append, tr, ih]; rw [if_neg (by simp)]

theorem dg_inj {b m n : Nat} (hb : 2 ≤ b) : dg b m = dg b n ↔ m = n := ⟨fun h => by rw [← vl_dg hb m, h, vl_dg hb], fun h => by rw [h]⟩

theorem dg_eq_nil {b n : Nat} (hb : 2 ≤ b) : dg b n = [] ↔ n = 0 := by
  rw [← dg_zero b, dg_inj hb]

theorem vl_nil (b : Nat) : vl b [] = 0 := rfl
theorem vl_one (b x : Nat) : vl b [x] = x := by simp [vl]
theorem take_snoc (l : List Nat) (k : Nat) (h : k < l.length) : l.take (k + 1) = l.take k ++ [l[k]?.getD 0] := by
  rw [List.take_add_one, List.getElem?_eq_getElem h]; simp
/-- a step of trimming, from the high end -/
theorem tr_step {l : List Nat} {k : Nat} (h : k < l.length) (h0 : l[k]?.getD 0 = 0) : tr (l.take k) = tr (l.take (k + 1)) := by rw [take_snoc l k h, h0, tr_snoc_zero]
theorem tr_end {l : List Nat} {k : Nat} (h : k < l.length) (h0 : l[k]?.getD 0 ≠ 0) : tr (l.take (k + 1)) = l.take (k + 1) := by rw [take_snoc l k h, tr_snoc_pos h0]

/-! Making plain. -/
def ncar (l : List Nat) : Nat → Nat
  | 0 => 0
  | k + 1 => (l[k]?.getD 0 + ncar l k) / 1000000000
def nlow (l : List Nat) : Nat → List Nat
  | 0 => []
  | k + 1 => nlow l k ++ [(l[k]?.getD 0 + ncar l k) % 1000000000]
theorem nlow_length (l : List Nat) : ∀ k, (nlow l k).length = k := by
  intro k; induction k with
  | zero => rfl
  | succ k ih => simp [nlow, ih]
theorem Lo_get {M : Nat} {l : List Nat} (h : Lo M l) (hM : 0 < M) (k : Nat) : l[k]?.getD 0 < M := by
  rcases Nat.lt_or_ge k l.length with h1 | h1
  · have := h (l[k]) (List.getElem_mem h1); simpa [h1] using this
  · simp [h1]; exact hM
theorem ncar_le {l : List Nat} (h : Lo 4294967296 l) : ∀ k, ncar l k ≤ 4 := by
  intro k; induction k with
  | zero => simp [ncar]
  | succ k ih => have := Lo_get h (by omega) k; simp only [ncar]; omega
theorem Lo_nlow (l : List Nat) : ∀ k, Lo 1000000000 (nlow l k) := by
  intro k; induction k with
  | zero => exact Lo_nil _
  | succ k ih => exact Lo_append ih (Lo_one (Nat.mod_lt _ (by omega)))
theorem nlow_worth (l : List Nat) : ∀ k, k ≤ l.length → vl 1000000000 (l.take k) = vl 1000000000 (nlow l k) + 1000000000 ^ k * ncar l k := by
  intro k; induction k with
  | zero => intro _; simp [nlow, ncar, vl]
  | succ k ih =>
    intro hk
    rw [take_snoc l k (by omega), vl_append, ih (by omega), vl_one, List.length_take, Nat.min_eq_left (by omega : k ≤ l.length)]
    simp only [nlow, ncar]
    rw [vl_append, nlow_length, vl_one, Nat.pow_succ]
    have e1 : ∀ (p x c : Nat), p * ((x + c) % 1000000000) + p * 1000000000 * ((x + c) / 1000000000) = p * c + p * x := by
      intro p x c
      rw [Nat.mul_assoc, ← Nat.mul_add, Nat.mod_add_div, Nat.mul_add, Nat.add_comm]
    have := e1 (1000000000 ^ k) (l[k]?.getD 0) (ncar l k)
    omega
theorem norm_eq {l : List Nat} (h : Lo 4294967296 l) : tr (nlow l l.length ++ [ncar l l.length]) = dg 1000000000 (vl 1000000000 l) := by
  have hc := ncar_le h l.length
  rw [tr_eq (by omega) (Lo_append (Lo_nlow l _) (Lo_one (by omega))), vl_append, nlow_length, vl_one, ← nlow_worth l l.length (Nat.le_refl _), List.take_length]
end Go.Proofs.YtpgiljibicigeaaGreatDoor.LM

/- Plain mathematics: order of digit lists, taking off, adding. Nothing of the program. -/
namespace Go.Proofs.YtpgiljibicigeaaGreatDoor.LM

/-- -1, 0, 1 -/
def cmpN (a b : Nat) : Int := if a < b then -1 else if b < a then 1 else 0
theorem cmpN_lt {a b : Nat} (h : a < b) : cmpN a b = -1 := if_pos h
theorem cmpN_gt {a b : Nat} (h : b < a) : cmpN a b = 1 := by unfold cmpN; rw [if_neg (by omega), if_pos h]
theorem cmpN_eq (a : Nat) : cmpN a a = 0 := by unfold cmpN; rw [if_neg (by omega), if_neg (by omega)]

theorem dg_lower {b : Nat} (hb : 2 ≤ b) : ∀ n, 0 < n → b ^ ((dg b n).length - 1) ≤ n := by
  intro n
  induction n using Nat.strongRecOn with
  | _ n ih =>
    intro hn
    rw [dg_pos hb hn]
    simp only [List.length_cons, Nat.add_sub_cancel]
    rcases Nat.eq_zero_or_pos (n / b) with h0 | h0
    · rw [h0, dg_zero]; simp; omega
    · have h1 := ih (n / b) (Nat.div_lt_self hn (by omega)) h0
      have h2 : (dg b (n / b)).length = ((dg b (n / b)).length - 1) + 1 := by
        have : (dg b (n / b)).length ≠ 0 := by rw [dg_pos hb h0]; simp
        omega
      rw [h2, Nat.pow_succ]
      exact Nat.le_trans (Nat.mul_le_mul_right b h1) (Nat.div_mul_le_self n b)
theorem dg_upper {b : Nat} (hb : 2 ≤ b) (n : Nat) : n < b ^ (dg b n).length := by
  have := vl_lt (Lo_dg hb n); rw [vl_dg hb] at this; exact this
theorem dg_len_lt {b m n : Nat} (hb : 2 ≤ b) (h : (dg b m).length < (dg b n).length) : m < n := by
  have h1 := dg_upper hb m
  have h0 : 0 < n := by
    rcases Nat.eq_zero_or_pos n with e | e
    · subst e; rw [dg_zero] at h; simp at h
    · exact e
  have h2 := dg_lower hb n h0
  have h3 : b ^ (dg b m).length ≤ b ^ ((dg b n).length - 1) := Nat.pow_le_pow_right (by omega) (by omega)
  omega
theorem dg_len_le {b m n : Nat} (hb : 2 ≤ b) (h : m ≤ n) : (dg b m).length ≤ (dg b n).length := by
  rcases Nat.lt_or_ge (dg b n).length (dg b m).length with h1 | h1
  · have := dg_len_lt hb h1; omega
  · exact h1
/-- so many limbs at most -/
theorem dg_len_of_lt {b n k : Nat} (hb : 2 ≤ b) (h : n < b ^ k) : (dg b n).length ≤ k := by
  rcases Nat.eq_zero_or_pos n with e | e
  · subst e; rw [dg_zero]; simp
  · rcases Nat.lt_or_ge k (dg b n).length with h1 | h1
    · have h2 := dg_lower hb n e
      have h3 : b ^ k ≤ b ^ ((dg b n).length - 1) := Nat.pow_le_pow_right (by omega) (by omega)
      omega
    · exact h1

theorem vl_drop {b : Nat} {l : List Nat} {k : Nat} (h : k ≤ l.length) : vl b l = vl b (l.take k) + b ^ k * vl b (l.drop k) := by
  have := vl_append b (l.take k) (l.drop k)
  rw [List.take_append_drop, List.length_take, Nat.min_eq_left h] at this
  exact this
theorem drop_cons {l : List Nat} {k : Nat} (h : k < l.length) : l.drop k = l[k]?.getD 0 :: l.drop (k + 1) := by
  rw [List.drop_eq_getElem_cons h]; simp [h]
/-- the highest places that part decide -/
theorem vl_part {b : Nat} {x y : List Nat} {k : Nat} (hx : Lo b x) (h1 : k < x.length) (h2 : k < y.length) (hd : x.drop (k + 1) = y.drop (k + 1)) (hlt : x[k]?.getD 0 < y[k]?.getD 0) : vl b x < vl b y := by
  rw [vl_drop (b := b) (l := x) (k := k) (by omega), vl_drop (b := b) (l := y) (k := k) (by omega), drop_cons h1, drop_cons h2]
  simp only [vl]; rw [hd]
  have h3 : vl b (x.take k) < b ^ k := by
    have := vl_lt (b := b) (l := x.take k) (fun z hz => hx z (List.mem_of_mem_take hz))
    rwa [List.length_take, Nat.min_eq_left (by omega)] at this
  have h4 : b ^ k * (x[k]?.getD 0 + 1) ≤ b ^ k * (y[k]?.getD 0) := Nat.mul_le_mul_left _ hlt
  rw [Nat.mul_add, Nat.mul_add]; rw [Nat.mul_add, Nat.mul_one] at h4
  omega
theorem drop_step {x y : List Nat} {k : Nat} (h1 : k < x.length) (h2 : k < y.length) (hd : x.drop (k + 1) = y.drop (k + 1)) (e : x[k]?.getD 0 = y[k]?.getD 0) : x.drop k = y.drop k := by
  rw [drop_cons h1, drop_cons h2, hd, e]

/-! Taking off -/
/-- a step of taking t times y off x: d are the new low places, c the carry -/
theorem off_step {x y d : List Nat} {t c k : Nat} (hk : k < x.length) (hd : d.length = k)
    (h : vl 1000000000 (x.take k) + 1000000000 ^ k * c = vl 1000000000 d + t * vl 1000000000 (y.take k)) (c' v q : Nat)
    (hq : q = c + t * (y[k]?.getD 0)) (hv : x[k]?.getD 0 + 1000000000 * c' = v + q) :
    vl 1000000000 (x.take (k + 1)) + 1000000000 ^ (k + 1) * c' = vl 1000000000 (d ++ [v]) + t * vl 1000000000 (y.take (k + 1)) := by
  rw [take_snoc x k hk, vl_append, vl_append, vl_one, vl_one, hd, List.length_take, Nat.min_eq_left (by omega : k ≤ x.length), Nat.pow_succ]
  have hy : vl 1000000000 (y.take (k + 1)) = vl 1000000000 (y.take k) + 1000000000 ^ k * (y[k]?.getD 0) := by
    rcases Nat.lt_or_ge k y.length with h1 | h1
    · rw [take_snoc y k h1, vl_append, vl_one, List.length_take, Nat.min_eq_left (by omega)]
    · rw [List.take_of_length_le (by omega), List.take_of_length_le (by omega)]; simp [h1]
  rw [hy]
  generalize x[k]?.getD 0 = X at *
  generalize y[k]?.getD 0 = Y at *
  generalize 1000000000 ^ k = p at *
  have e1 : p * X + p * 1000000000 * c' = p * v + p * (c + t * Y) := by rw [Nat.mul_assoc, ← Nat.mul_add, hv, hq, Nat.mul_add]
  have e2 : t * (vl 1000000000 (y.take k) + p * Y) = t * vl 1000000000 (y.take k) + p * (t * Y) := by rw [Nat.mul_add, Nat.mul_left_comm]
  rw [e2]; rw [Nat.mul_add p c] at e1
  omega
theorem off_end {x y d : List Nat} {t c : Nat} (hd : d.length = x.length) (hlo : Lo 1000000000 d) (hy : y.length ≤ x.length) (hle : t * vl 1000000000 y ≤ vl 1000000000 x)
    (h : vl 1000000000 (x.take x.length) + 1000000000 ^ x.length * c = vl 1000000000 d + t * vl 1000000000 (y.take x.length)) : vl 1000000000 d = vl 1000000000 x - t * vl 1000000000 y := by
  rw [List.take_length, List.take_of_length_le hy] at h
  have h1 := vl_lt hlo
  rw [hd] at h1
  rcases Nat.eq_zero_or_pos c with e | e
  · subst e; rw [Nat.mul_zero] at h; omega
  · have := Nat.le_mul_of_pos_right (1000000000 ^ x.length) e
    omega

/-- a window of a row, its first places turned -/
def win (L d : List Nat) (off : Nat) : List Nat := L.take off ++ d ++ L.drop (off + d.length)
theorem win_length {L d : List Nat} {off : Nat} (h : off + d.length ≤ L.length) : (win L d off).length = L.length := by simp [win]; omega
theorem win_nil (L : List Nat) (off : Nat) : win L [] off = L := by simp [win]
theorem win_get {L d : List Nat} {off : Nat} (h : off ≤ L.length) : (win L d off)[off + d.length]?.getD 0 = L[off + d.length]?.getD 0 := by
  have h1 : ¬ off + d.length < off := by omega
  simp [win, List.getElem?_append, Nat.min_eq_left h, h1]
theorem win_set {L d : List Nat} {off : Nat} (v : Nat) (h : off + d.length < L.length) : (win L d off).set (off + d.length) v = win L (d ++ [v]) off := by
  unfold win
  have h1 : (L.take off ++ d).length = off + d.length := by simp; omega
  rw [List.set_append, if_neg (by omega), h1, Nat.sub_self, drop_cons h]
  simp [Nat.add_assoc]
theorem window_get {L : List Nat} {off n k : Nat} (h : k < n) : ((L.drop off).take n)[k]?.getD 0 = L[off + k]?.getD 0 := by
  simp [h]

/-! Adding in place -/
/-- the sums of the first k places -/
def addl (x y : List Nat) (k : Nat) : List Nat := (List.range k).map (fun j => x[j]?.getD 0 + y[j]?.getD 0) ++ x.drop k
theorem addl_length {x y : List Nat} {k : Nat} (h : k ≤ x.length) : (addl x y k).length = x.length := by simp [addl]; omega
theorem addl_zero (x y : List Nat) : addl x y 0 = x := by simp [addl]
theorem addl_get {x y : List Nat} {k : Nat} : (addl x y k)[k]?.getD 0 = x[k]?.getD 0 := by simp [addl, List.getElem?_append]
theorem addl_set {x y : List Nat} {k : Nat} (h : k < x.length) : (addl x y k).set k (x[k]?.getD 0 + y[k]?.getD 0) = addl x y (k + 1) := by
  unfold addl
  rw [List.set_append, if_neg (by simp), drop_cons h]
  simp [List.range_succ]
theorem addl_worth {x y : List Nat} : ∀ k, k ≤ x.length → k ≤ y.length → vl 1000000000 (addl x y k) = vl 1000000000 x + vl 1000000000 (y.take k) := by
  intro k
  induction k with
  | zero => intro _ _; simp [addl, vl]
  | succ k ih =>
    intro h1 h2
    have ih := ih (by omega) (by omega)
    unfold addl at ih ⊢
    rw [vl_append] at ih ⊢
    rw [drop_cons (show k < x.length by omega)] at ih
    rw [take_snoc y k (by omega), vl_append, vl_one, List.range_succ, List.map_append, vl_append]
    simp only [List.length_append, List.length_map, List.length_range, List.map_cons, List.map_nil, vl_one, List.length_cons, List.length_nil, vl, List.length_take, Nat.zero_add, Nat.min_eq_left (by omega : k ≤ y.length), Nat.pow_succ] at ih ⊢
    generalize x[k]?.getD 0 = X at *
    generalize y[k]?.getD 0 = Y at *
    generalize 1000000000 ^ k = p at *
    rw [Nat.mul_add] at ih
    rw [Nat.mul_add, Nat.mul_assoc]
    omega
theorem addl_Lo {x y : List Nat} {k : Nat} (hx : Lo 1000000000 x) (hy : Lo 1000000000 y) : Lo 4294967296 (addl x y k) := by
  intro z hz
  rcases List.mem_append.1 hz with hz | hz
  · obtain ⟨j, _, rfl⟩ := List.mem_map.1 hz
    have h1 := Lo_get hx (by omega) j
    have h2 := Lo_get hy (by omega) j
    show x[j]?.getD 0 + y[j]?.getD 0 < _
    omega
  · have := hx z (List.mem_of_mem_drop hz); omega
theorem Lo_mono {M N : Nat} {l : List Nat} (h : Lo M l) (hMN : M ≤ N) : Lo N l := fun x hx => Nat.lt_of_lt_of_le (h x hx) hMN
/-! Multiplying -/
theorem mul_step {D Y E : List Nat} {i j u c p v q : Nat} (hi : i + j < D.length) (hE : E.length = j) (hp : p = D[i + j]?.getD 0) (hv : v = Y[j]?.getD 0) (hj : j < Y.length)
    (h : vl 1000000000 ((D.drop i).take j) + u * vl 1000000000 (Y.take j) = vl 1000000000 E + 1000000000 ^ j * c) (hq : q = p + u * v + c) :
    vl 1000000000 ((D.drop i).take (j + 1)) + u * vl 1000000000 (Y.take (j + 1)) = vl 1000000000 (E ++ [q % 1000000000]) + 1000000000 ^ (j + 1) * (q / 1000000000) := by
  have hg : (D.drop i)[j]?.getD 0 = p := by rw [List.getElem?_drop, hp]
  rw [take_snoc (D.drop i) j (by simp; omega), take_snoc Y j hj, vl_append, vl_append, vl_append, vl_one, vl_one, vl_one, hE, hg, ← hv, List.length_take, List.length_take, Nat.min_eq_left (by simp; omega), Nat.min_eq_left (by omega), Nat.pow_succ]
  generalize 1000000000 ^ j = b at *
  have e1 : b * (q % 1000000000) + b * 1000000000 * (q / 1000000000) = b * p + b * (u * v) + b * c := by
    rw [Nat.mul_assoc, ← Nat.mul_add, Nat.mod_add_div, hq, Nat.mul_add, Nat.mul_add]
  have e2 : u * (vl 1000000000 (Y.take j) + b * v) = u * vl 1000000000 (Y.take j) + b * (u * v) := by rw [Nat.mul_add, Nat.mul_left_comm]
  rw [e2]
  omega
theorem mul_end {D Y E X : List Nat} {i u c : Nat} (hD : D.length = i + Y.length) (hi : i < X.length) (hu : u = X[i]?.getD 0) (hE : E.length = Y.length)
    (h : vl 1000000000 ((D.drop i).take Y.length) + u * vl 1000000000 (Y.take Y.length) = vl 1000000000 E + 1000000000 ^ Y.length * c) (hv : vl 1000000000 D = vl 1000000000 (X.take i) * vl 1000000000 Y) :
    vl 1000000000 (D.take i ++ E ++ [c]) = vl 1000000000 (X.take (i + 1)) * vl 1000000000 Y := by
  rw [List.take_length, List.take_of_length_le (by simp; omega)] at h
  have h1 := vl_drop (b := 1000000000) (l := D) (k := i) (by omega)
  rw [take_snoc X i hi, vl_append, vl_append, vl_append, vl_one, vl_one, ← hu, List.length_append, List.length_take, List.length_take, Nat.min_eq_left (by omega), Nat.min_eq_left (by omega), hE, Nat.pow_add]
  generalize 1000000000 ^ i = b at *
  generalize 1000000000 ^ Y.length = b' at *
  rw [hv] at h1
  rw [Nat.add_mul, h1]
  have e1 : b * (vl 1000000000 (D.drop i) + u * vl 1000000000 Y) = b * (vl 1000000000 E + b' * c) := by rw [h]
  rw [Nat.mul_add, Nat.mul_add, ← Nat.mul_assoc, ← Nat.mul_assoc] at e1
  omega
theorem mul_row {D E : List Nat} {i m z c : Nat} (hD : D.length = i + m) (hE : E.length = m) :
    (win (D ++ List.replicate (z + 1) 0) E i).set (i + m) c = (D.take i ++ E ++ [c]) ++ List.replicate z 0 := by
  unfold win
  rw [hE, List.take_append_of_le_length (by omega), ← hD, List.drop_left]
  have h1 : (D.take i ++ E).length = D.length := by simp; omega
  rw [List.set_append, if_neg (by omega), h1, Nat.sub_self, List.replicate_succ, List.set_cons_zero]
  simp
theorem mul_get {D E : List Nat} {i j m z : Nat} (hD : D.length = i + m) (hE : E.length = j) (hj : j < m) : (win (D ++ List.replicate z 0) E i)[i + j]?.getD 0 = D[i + j]?.getD 0 := by
  subst hE
  rw [win_get (by simp; omega), List.getElem?_append_left (by omega)]
theorem vl_pad (l : List Nat) (z : Nat) : vl 1000000000 (l ++ List.replicate z 0) = vl 1000000000 l := by rw [vl_append, vl_zeros]; simp
end Go.Proofs.YtpgiljibicigeaaGreatDoor.LM

/- Plain mathematics: decimal texts. Nothing of the program. -/
namespace Go.Proofs.YtpgiljibicigeaaGreatDoor.LM

/-- k digits of x, with noughts ahead -/
def padd : Nat → Nat → List UInt8
  | 0, _ => []
  | k + 1, x => padd k (x / 10) ++ [UInt8.ofNat (48 + x % 10)]
theorem padd_length : ∀ k x, (padd k x).length = k := by
  intro k; induction k with
  | zero => intro x; rfl
  | succ k ih => intro x; simp [padd, ih]
theorem dec_pad : ∀ (k x r : Nat), 1 ≤ r → x < 10 ^ k → Lib.decDigits (x + 10 ^ k * r) = Lib.decDigits r ++ padd k x := by
  intro k
  induction k with
  | zero => intro x r _ hx; have : x = 0 := by simpa using hx
            subst this; simp [padd]
  | succ k ih =>
    intro x r hr hx
    have h10 : ¬ x + 10 ^ (k + 1) * r < 10 := by
      have h1 : 1 ≤ 10 ^ k := Nat.one_le_pow _ _ (by decide)
      have h2 : 10 ^ (k + 1) * 1 ≤ 10 ^ (k + 1) * r := Nat.mul_le_mul_left _ hr
      rw [Nat.pow_succ] at h2 ⊢; omega
    have e1 : (x + 10 ^ (k + 1) * r) / 10 = x / 10 + 10 ^ k * r := by
      rw [Nat.pow_succ, Nat.mul_comm (10 ^ k) 10, Nat.mul_assoc, Nat.add_mul_div_left _ _ (by omega)]
    have e2 : (x + 10 ^ (k + 1) * r) % 10 = x % 10 := by
      rw [Nat.pow_succ, Nat.mul_comm (10 ^ k) 10, Nat.mul_assoc, Nat.add_mul_mod_self_left]
    rw [Lib.decDigits, dif_neg h10, e1, e2, ih (x / 10) r hr (by rw [Nat.pow_succ] at hx; omega)]
    simp [padd]
theorem dec_padded (x : Nat) (h : x < 1000000000) : (Lib.decDigits (x + 1000000000)).drop 1 = padd 9 x := by
  have := dec_pad 9 x 1 (by omega) h
  rw [show (10 : Nat) ^ 9 * 1 = 1000000000 by decide, Lib.decDigits_one (show 1 < 10 by omega)] at this
  rw [this]; rfl
theorem dec_step (x r : Nat) (hx : x < 1000000000) (hr : 1 ≤ r) : Lib.decDigits (x + 1000000000 * r) = Lib.decDigits r ++ (Lib.decDigits (x + 1000000000)).drop 1 := by
  rw [dec_padded x hx]
  have := dec_pad 9 x r hr hx
  rwa [show (10 : Nat) ^ 9 = 1000000000 by decide] at this
theorem dec_text (n : Nat) : Lib.decDigits n = if n = 0 then [48] else (dg 10 n).reverse.map (fun d => UInt8.ofNat (48 + d)) := by
  induction n using Nat.strongRecOn with
  | _ n ih =>
    by_cases h : n < 10
    · rw [Lib.decDigits_one h]
      by_cases h0 : n = 0
      · subst h0; rfl
      · rw [if_neg h0, dg_pos (by omega) (by omega), Nat.div_eq_of_lt h, dg_zero, Nat.mod_eq_of_lt h]; rfl
    · rw [Lib.decDigits, dif_neg h, ih (n / 10) (by omega), if_neg (by omega), if_neg (by omega), dg_pos (b := 10) (n := n) (by omega) (by omega)]
      simp
theorem nDigits_len {n : Nat} (h : 0 < n) : Lib.nDigits n = (dg 10 n).length := by
  rw [← Lib.decDigits_length, dec_text, if_neg (by omega)]; simp
/-- the digits of a number of limbs -/
theorem nDigits_limb {x r : Nat} : ∀ k, 1 ≤ r → x < 10 ^ k → Lib.nDigits (x + 10 ^ k * r) = Lib.nDigits r + k := by
  intro k hr hx
  rw [← Lib.decDigits_length, dec_pad k x r hr hx, List.length_append, padd_length, Lib.decDigits_length]
theorem vl_top {X : List Nat} {h : Nat} (hh : X.length = h + 1) : vl 1000000000 (X.drop h) = X[h]?.getD 0 := by
  rw [drop_cons (by omega), List.drop_eq_nil_of_le (by omega), vl_one]
theorem vl_drop_step {X : List Nat} {k : Nat} (h : k < X.length) : vl 1000000000 (X.drop k) = X[k]?.getD 0 + 1000000000 * vl 1000000000 (X.drop (k + 1)) := by
  rw [drop_cons h]; rfl
/-- the highest limb of a plain list isn't 0 -/
theorem dg_top {n h : Nat} (hh : (dg 1000000000 n).length = h + 1) : 1 ≤ (dg 1000000000 n)[h]?.getD 0 := by
  rcases Nat.eq_zero_or_pos ((dg 1000000000 n)[h]?.getD 0) with e | e
  · exfalso
    have h1 := tr_step (l := dg 1000000000 n) (k := h) (by omega) e
    rw [show h + 1 = (dg 1000000000 n).length by omega, List.take_length, tr_dg (by omega)] at h1
    have h2 : (tr ((dg 1000000000 n).take h)).length = h + 1 := by rw [h1]; exact hh
    have h3 := tr_take ((dg 1000000000 n).take h)
    have h4 : (tr ((dg 1000000000 n).take h)).length ≤ h := by rw [h3]; simp; omega
    omega
  · exact e
theorem drop_pos {n k h : Nat} (hh : (dg 1000000000 n).length = h + 1) (hk : k ≤ h) : 1 ≤ vl 1000000000 ((dg 1000000000 n).drop k) := by
  have h1 := vl_drop (b := 1000000000) (l := (dg 1000000000 n).drop k) (k := h - k) (by simp; omega)
  rw [List.drop_drop, show k + (h - k) = h by omega, vl_top hh] at h1
  have h2 := dg_top hh
  have h3 : 1 ≤ 1000000000 ^ (h - k) := Nat.one_le_pow _ _ (by omega)
  have h4 := Nat.mul_le_mul h3 h2
  omega
theorem nDigits_high {n h : Nat} (hh : (dg 1000000000 n).length = h + 1) : (dg 10 n).length = 9 * h + Lib.nDigits ((dg 1000000000 n)[h]?.getD 0) := by
  have hn : 0 < n := by
    rcases Nat.eq_zero_or_pos n with e | e
    · subst e; rw [dg_zero] at hh; simp at hh
    · exact e
  rw [← nDigits_len hn]
  have h1 := vl_drop (b := 1000000000) (l := dg 1000000000 n) (k := h) (by omega)
  rw [vl_dg (by omega), vl_top hh] at h1
  have h2 := vl_lt (b := 1000000000) (l := (dg 1000000000 n).take h) (fun z hz => Lo_dg (by omega) n z (List.mem_of_mem_take hz))
  rw [List.length_take, Nat.min_eq_left (by omega)] at h2
  have e : (1000000000 : Nat) ^ h = 10 ^ (9 * h) := by rw [show (1000000000 : Nat) = 10 ^ 9 by decide, ← Nat.pow_mul]
  rw [e] at h1 h2
  have h3 := nDigits_limb (9 * h) (dg_top hh) h2
  rw [← h1] at h3
  omega
end Go.Proofs.YtpgiljibicigeaaGreatDoor.LM
