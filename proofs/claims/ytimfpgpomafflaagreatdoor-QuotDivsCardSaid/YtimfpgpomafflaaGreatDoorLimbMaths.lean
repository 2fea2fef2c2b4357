/- Plain mathematics of digit lists: worth of a list in a base, the plain list of a number, trimming. Nothing of the program. -/
import Derived.WalkKit
import Derived.Lib.ItoaNum
namespace Go.Proofs.YtimfpgpomafflaaGreatDoor.LM

/-- worth of a list in base b, lowest first -/
def vl (b : Nat) : List Nat → Nat
  | [] => 0
  | x :: t => x + b * vl b t

/-- the plain list of a number -/
def dg (b : Nat) (n : Nat) : List Nat :=
  if _h : 2 ≤ b ∧ 0 < n then n % b :: dg b (n / b) else []
termination_by n
decreasing_by exact Nat.div_lt_self _h.2 (by omega)

/-- without noughts at the high end -/
def tr : List Nat → List Nat
  | [] => []
  | x :: t => if x = 0 ∧ tr t = [] then [] else x :: tr t

/-- all below b -/
def Lo (b : Nat) (l : List Nat) : Prop := ∀ x ∈ l, x < b

theorem dg_zero (b : Nat) : dg b 0 = [] := by rw [dg]; simp
theorem dg_pos {b n : Nat} (hb : 2 ≤ b) (hn : 0 < n) : dg b n = n % b :: dg b (n / b) := by rw [dg]; simp [hb, hn]

theorem vl_dg {b : Nat} (hb : 2 ≤ b) : ∀ n, vl b (dg b n) = n := by
  intro n
  induction n using Nat.strongRecOn with
  | _ n ih =>
    by_cases h : 0 < n
    · rw [dg_pos hb h]; simp only [vl]; rw [ih (n / b) (Nat.div_lt_self h (by omega))]; exact Nat.mod_add_div n b
    · have : n = 0 := by omega
      subst this; rw [dg_zero]; rfl

theorem Lo_dg {b : Nat} (hb : 2 ≤ b) : ∀ n, Lo b (dg b n) := by
  intro n
  induction n using Nat.strongRecOn with
  | _ n ih =>
    by_cases h : 0 < n
    · rw [dg_pos hb h]; intro x hx; rcases List.mem_cons.1 hx with rfl | hx
      · exact Nat.mod_lt _ (by omega)
      · exact ih (n / b) (Nat.div_lt_self h (by omega)) x hx
    · have : n = 0 := by omega
      subst this; rw [dg_zero]; intro x hx; cases hx

theorem vl_tr (b : Nat) : ∀ l, vl b (tr l) = vl b l := by
  intro l
  induction l with
  | nil => rfl
  | cons x t ih =>
    simp only [tr]
    split
    · rename_i h
      rw [h.2] at ih
      simp only [vl] at ih ⊢
      rw [← ih, h.1]; simp
    · simp only [vl]; rw [ih]

theorem Lo_tr {b : Nat} : ∀ {l}, Lo b l → Lo b (tr l) := by
  intro l
  induction l with
  | nil => intro h; exact h
  | cons x t ih =>
    intro h
    simp only [tr]
    split
    · intro y hy; cases hy
    · intro y hy
      rcases List.mem_cons.1 hy with rfl | hy
      · exact h _ (List.mem_cons_self ..)
      · exact ih (fun z hz => h z (List.mem_cons_of_mem _ hz)) y hy

/-- trimming a list of digits makes the plain list of its worth -/
theorem tr_eq {b : Nat} (hb : 2 ≤ b) : ∀ {l}, Lo b l → tr l = dg b (vl b l) := by
  intro l
  induction l with
  | nil => intro _; simp [tr, vl, dg_zero]
  | cons x t ih =>
    intro h
    have hx : x < b := h _ (List.mem_cons_self ..)
    have ht := ih (fun z hz => h z (List.mem_cons_of_mem _ hz))
    simp only [tr, vl]
    by_cases hz : x = 0 ∧ tr t = []
    · rw [if_pos hz]
      have h0 : vl b t = 0 := by rw [← vl_tr, hz.2]; rfl
      rw [hz.1, h0]; simp [dg_zero]
    · rw [if_neg hz]
      have hpos : 0 < x + b * vl b t := by
        by_cases h0 : x = 0
        · have : tr t ≠ [] := fun e => hz ⟨h0, e⟩
          have hv : 0 < vl b t := by
            rcases Nat.eq_zero_or_pos (vl b t) with e | e
            · rw [ht, e, dg_zero] at this; exact absurd rfl this
            · exact e
          have := Nat.mul_pos (show 0 < b by omega) hv
          omega
        · omega
      rw [dg_pos hb hpos, Nat.add_mul_mod_self_left, Nat.mod_eq_of_lt hx, Nat.add_mul_div_left _ _ (by omega : 0 < b), Nat.div_eq_of_lt hx, Nat.zero_add, ht]

theorem tr_dg {b : Nat} (hb : 2 ≤ b) (n : Nat) : tr (dg b n) = dg b n := by rw [tr_eq hb (Lo_dg hb n), vl_dg hb]

theorem vl_append (b : Nat) : ∀ l m, vl b (l ++ m) = vl b l + b ^ l.length * vl b m := by
  intro l m
  induction l with
  | nil => simp [vl]
  | cons x t ih => simp only [List.cons_append, vl, ih, List.length_cons, Nat.pow_succ]; rw [Nat.mul_add, ← Nat.add_assoc, ← Nat.mul_assoc, Nat.mul_comm b (b ^ t.length)]

theorem vl_lt {b : Nat} : ∀ {l}, Lo b l → vl b l < b ^ l.length := by
  intro l
  induction l with
  | nil => intro _; simp [vl]
  | cons x t ih =>
    intro h
    have hx : x < b := h _ (List.mem_cons_self ..)
    have ht := ih (fun z hz => h z (List.mem_cons_of_mem _ hz))
    simp only [vl, List.length_cons, Nat.pow_succ]
    have h1 : b * vl b t + b ≤ b * b ^ t.length := by
      have := Nat.mul_le_mul_left b (show vl b t + 1 ≤ b ^ t.length from ht)
      rw [Nat.mul_add, Nat.mul_one] at this; exact this
    rw [Nat.mul_comm (b ^ t.length) b]; omega

theorem Lo_append {b : Nat} {l m : List Nat} (h : Lo b l) (k : Lo b m) : Lo b (l ++ m) := by
  intro x hx; rcases List.mem_append.1 hx with hx | hx
  · exact h x hx
  · exact k x hx
theorem Lo_one {b x : Nat} (h : x < b) : Lo b [x] := by intro y hy; simp at hy; omega
theorem Lo_nil (b : Nat) : Lo b [] := by intro y hy; cases hy
theorem Lo_zeros {b n : Nat} (h : 0 < b) : Lo b (List.replicate n 0) := by intro y hy; rw [(List.mem_replicate.1 hy).2]; exact h
theorem vl_zeros (b n : Nat) : vl b (List.replicate n 0) = 0 := by
  induction n with
  | zero => rfl
  | succ n ih => simp [List.replicate_succ, vl, ih]

theorem tr_take : ∀ l, tr l = l.take (tr l).length := by
  intro l
  induction l with
  | nil => simp [tr]
  | cons x t ih =>
    simp only [tr]; split
    · simp
    · simp only [List.length_cons, List.take_succ_cons]; rw [← ih]

theorem tr_snoc_zero : ∀ l, tr (l ++ [0]) = tr l := by
  intro l
  induction l with
  | nil => simp [tr]
  | cons x t ih => simp only [List.cons_append, tr, ih]
theorem tr_snoc_pos {x : Nat} (h : x ≠ 0) : ∀ l, tr (l ++ [x]) = l ++ [x] := by
  intro l
  induction l with
  | nil => simp [tr, h]
  | cons y t ih => simp only [List.cons_append, tr, ih]; rw [if_neg (by simp)]

theorem dg_inj {b m n : Nat} (hb : 2 ≤ b) : dg b m = dg b n ↔ m = n := ⟨fun h => by rw [← vl_dg hb m, h, vl_dg hb], fun h => by rw [h]⟩

theorem dg_eq_nil {b n : Nat} (hb : 2 ≤ b) : dg b n = [] ↔ n = 0 := by
  rw [← dg_zero b, dg_inj hb]

theorem vl_nil (b : Nat) : vl b [] = 0 := rfl
theorem vl_one (b x : Nat) : vl b [x] = x := by simp [vl]
theorem take_snoc (l : List Nat) (k : Nat) (h : k < l.length) : l.take (k + 1) = l.take k ++ [l[k]?.getD 0] := by
  rw [List.take_add_one, List.getElem?_eq_getElem h]; simp
/-- a step of trimming, from the high end -/
theorem tr_step {l : List Nat} {k : Nat} (h : k < l.length) (h0 : l[k]?.getD 0 = 0) : tr (l.take k) = tr (l.take (k + 1)) := by rw [take_snoc l k h, h0, tr_snoc_zero]
theorem tr_end {l : List Nat} {k : Nat} (h : k < l.length) (h0 : l[k]?.getD 0 ≠ 0) : tr (l.take (k + 1)) = l.take (k + 1) := by rw [take_snoc l k h, tr_snoc_pos h0]

/-! Making plain. -/
def ncar (l : List Nat) : Nat → Nat
  | 0 => 0
  | k + 1 => (l[k]?.getD 0 + ncar l k) / 1000000000
def nlow (l : List Nat) : Nat → List Nat
  | 0 => []
  | k + 1 => nlow l k ++ [(l[k]?.getD 0 + ncar l k) % 1000000000]
theorem nlow_length (l : List Nat) : ∀ k, (nlow l k).length = k := by
  intro k; induction k with
  | zero => rfl
  | succ k ih => simp [nlow, ih]
theorem Lo_get {M : Nat} {l : List Nat} (h : Lo M l) (hM : 0 < M) (k : Nat) : l[k]?.getD 0 < M := by
  rcases Nat.lt_or_ge k l.length with h1 | h1
  · have := h (l[k]) (List.getElem_mem h1); simpa [h1] using this
  · simp [h1]; exact hM
theorem ncar_le {l : List Nat} (h : Lo 4294967296 l) : ∀ k, ncar l k ≤ 4 := by
  intro k; induction k with
  | zero => simp [ncar]
  | succ k ih => have := Lo_get h (by omega) k; simp only [ncar]; omega
theorem Lo_nlow (l : List Nat) : ∀ k, Lo 1000000000 (nlow l k) := by
  intro k; induction k with
  | zero => exact Lo_nil _
  | succ k ih => exact Lo_append ih (Lo_one (Nat.mod_lt _ (by omega)))
theorem nlow_worth (l : List Nat) : ∀ k, k ≤ l.length → vl 1000000000 (l.take k) = vl 1000000000 (nlow l k) + 1000000000 ^ k * ncar l k := by
  intro k; induction k with
  | zero => intro _; simp [nlow, ncar, vl]
  | succ k ih =>
    intro hk
    rw [take_snoc l k (by omega), vl_append, ih (by omega), vl_one, List.length_take, Nat.min_eq_left (by omega : k ≤ l.length)]
    simp only [nlow, ncar]
    rw [vl_append, nlow_length, vl_one, Nat.pow_succ]
    have e1 : ∀ (p x c : Nat), p * ((x + c) % 1000000000) + p * 1000000000 * ((x + c) / 1000000000) = p * c + p * x := by
      intro p x c
      rw [Nat.mul_assoc, ← Nat.mul_add, Nat.mod_add_div, Nat.mul_add, Nat.add_comm]
    have := e1 (1000000000 ^ k) (l[k]?.getD 0) (ncar l k)
    omega
theorem norm_eq {l : List Nat} (h : Lo 4294967296 l) : tr (nlow l l.length ++ [ncar l l.length]) = dg 1000000000 (vl 1000000000 l) := by
  have hc := ncar_le h l.length
  rw [tr_eq (by omega) (Lo_append (Lo_nlow l _) (Lo_one (by omega))), vl_append, nlow_length, vl_one, ← nlow_worth l l.length (Nat.le_refl _), List.take_length]
end Go.Proofs.YtimfpgpomafflaaGreatDoor.LM

/- Plain mathematics: order of digit lists, taking off, adding. Nothing of the program. -/
namespace Go.Proofs.YtimfpgpomafflaaGreatDoor.LM

/-- -1, 0, 1 -/
def cmpN (a b : Nat) : Int := if a < b then -1 else if b < a then 1 else 0
theorem cmpN_lt {a b : Nat} (h : a < b) : cmpN a b = -1 := if_pos h
theorem cmpN_gt {a b : Nat} (h : b < a) : cmpN a b = 1 := by unfold cmpN; rw [if_neg (by omega), if_pos h]
theorem cmpN_eq (a : Nat) : cmpN a a = 0 := by unfold cmpN; rw [if_neg (by omega), if_neg (by omega)]

theorem dg_lower {b : Nat} (hb : 2 ≤ b) : ∀ n, 0 < n → b ^ ((dg b n).length - 1) ≤ n := by
  intro n
  induction n using Nat.strongRecOn with
  | _ n ih =>
    intro hn
    rw [dg_pos hb hn]
    simp only [List.length_cons, Nat.add_sub_cancel]
    rcases Nat.eq_zero_or_pos (n / b) with h0 | h0
    · rw [h0, dg_zero]; simp; omega
    · have h1 := ih (n / b) (Nat.div_lt_self hn (by omega)) h0
      have h2 : (dg b (n / b)).length = ((dg b (n / b)).length - 1) + 1 := by
        have : (dg b (n / b)).length ≠ 0 := by rw [dg_pos hb h0]; simp
        omega
      rw [h2, Nat.pow_succ]
      exact Nat.le_trans (Nat.mul_le_mul_right b h1) (Nat.div_mul_le_self n b)
theorem dg_upper {b : Nat} (hb : 2 ≤ b) (n : Nat) : n < b ^ (dg b n).length := by
  have := vl_lt (Lo_dg hb n); rw [vl_dg hb] at this; exact this
theorem dg_len_lt {b m n : Nat} (hb : 2 ≤ b) (h : (dg b m).length < (dg b n).length) : m < n := by
  have h1 := dg_upper hb m
  have h0 : 0 < n := by
    rcases Nat.eq_zero_or_pos n with e | e
    · subst e; rw [dg_zero] at h; simp at h
    · exact e
  have h2 := dg_lower hb n h0
  have h3 : b ^ (dg b m).length ≤ b ^ ((dg b n).length - 1) := Nat.pow_le_pow_right (by omega) (by omega)
  omega
theorem dg_len_le {b m n : Nat} (hb : 2 ≤ b) (h : m ≤ n) : (dg b m).length ≤ (dg b n).length := by
  rcases Nat.lt_or_ge (dg b n).length (dg b m).length with h1 | h1
  · have := dg_len_lt hb h1; omega
  · exact h1
/-- so many limbs at most -/
theorem dg_len_of_lt {b n k : Nat} (hb : 2 ≤ b) (h : n < b ^ k) : (dg b n).length ≤ k := by
  rcases Nat.eq_zero_or_pos n with e | e
  · subst e; rw [dg_zero]; simp
  · rcases Nat.lt_or_ge k (dg b n).length with h1 | h1
    · have h2 := dg_lower hb n e
      have h3 : b ^ k ≤ b ^ ((dg b n).length - 1) := Nat.pow_le_pow_right (by omega) (by omega)
      omega
    · exact h1

theorem vl_drop {b : Nat} {l : List Nat} {k : Nat} (h : k ≤ l.length) : vl b l = vl b (l.take k) + b ^ k * vl b (l.drop k) := by
  have := vl_append b (l.take k) (l.drop k)
  rw [List.take_append_drop, List.length_take, Nat.min_eq_left h] at this
  exact this
theorem drop_cons {l : List Nat} {k : Nat} (h : k < l.length) : l.drop k = l[k]?.getD 0 :: l.drop (k + 1) := by
  rw [List.drop_eq_getElem_cons h]; simp [h]
/-- the highest places that part decide -/
theorem vl_part {b : Nat} {x y : List Nat} {k : Nat} (hx : Lo b x) (h1 : k < x.length) (h2 : k < y.length) (hd : x.drop (k + 1) = y.drop (k + 1)) (hlt : x[k]?.getD 0 < y[k]?.getD 0) : vl b x < vl b y := by
  rw [vl_drop (b := b) (l := x) (k := k) (by omega), vl_drop (b := b) (l := y) (k := k) (by omega), drop_cons h1, drop_cons h2]
  simp only [vl]; rw [hd]
  have h3 : vl b (x.take k) < b ^ k := by
    have := vl_lt (b := b) (l := x.take k) (fun z hz => hx z (List.mem_of_mem_take hz))
    rwa [List.length_take, Nat.min_eq_left (by omega)] at this
  have h4 : b ^ k * (x[k]?.getD 0 + 1) ≤ b ^ k * (y[k]?.getD 0) := Nat.mul_le_mul_left _ hlt
  rw [Nat.mul_add, Nat.mul_add]; rw [Nat.mul_add, Nat.mul_one] at h4
  omega
theorem drop_step {x y : List Nat} {k : Nat} (h1 : k < x.length) (h2 : k < y.length) (hd : x.drop (k + 1) = y.drop (k + 1)) (e : x[k]?.getD 0 = y[k]?.getD 0) : x.drop k = y.drop k := by
  rw [drop_cons h1, drop_cons h2, hd, e]

/-! Taking off -/
/-- a step of taking t times y off x: d are the new low places, c the carry -/
theorem off_step {x y d : List Nat} {t c k : Nat} (hk : k < x.length) (hd : d.length = k)
    (h : vl 1000000000 (x.take k) + 1000000000 ^ k * c = vl 1000000000 d + t * vl 1000000000 (y.take k)) (c' v q : Nat)
    (hq : q = c + t * (y[k]?.getD 0)) (hv : x[k]?.getD 0 + 1000000000 * c' = v + q) :
    vl 1000000000 (x.take (k + 1)) + 1000000000 ^ (k + 1) * c' = vl 1000000000 (d ++ [v]) + t * vl 1000000000 (y.take (k + 1)) := by
  rw [take_snoc x k hk, vl_append, vl_append, vl_one, vl_one, hd, List.length_take, Nat.min_eq_left (by omega : k ≤ x.length), Nat.pow_succ]
  have hy : vl 1000000000 (y.take (k + 1)) = vl 1000000000 (y.take k) + 1000000000 ^ k * (y[k]?.getD 0) := by
    rcases Nat.lt_or_ge k y.length with h1 | h1
    · rw [take_snoc y k h1, vl_append, vl_one, List.length_take, Nat.min_eq_left (by omega)]
    · rw [List.take_of_length_le (by omega), List.take_of_length_le (by omega)]; simp [h1]
  rw [hy]
  generalize x[k]?.getD 0 = X at *
  generalize y[k]?.getD 0 = Y at *
  generalize 1000000000 ^ k = p at *
  have e1 : p * X + p * 1000000000 * c' = p * v + p * (c + t * Y) := by rw [Nat.mul_assoc, ← Nat.mul_add, hv, hq, Nat.mul_add]
  have e2 : t * (vl 1000000000 (y.take k) + p * Y) = t * vl 1000000000 (y.take k) + p * (t * Y) := by rw [Nat.mul_add, Nat.mul_left_comm]
  rw [e2]; rw [Nat.mul_add p c] at e1
  omega
theorem off_end {x y d : List Nat} {t c : Nat} (hd : d.length = x.length) (hlo : Lo 1000000000 d) (hy : y.length ≤ x.length) (hle : t * vl 1000000000 y ≤ vl 1000000000 x)
    (h : vl 1000000000 (x.take x.length) + 1000000000 ^ x.length * c = vl 1000000000 d + t * vl 1000000000 (y.take x.length)) : vl 1000000000 d = vl 1000000000 x - t * vl 1000000000 y := by
  rw [List.take_length, List.take_of_length_le hy] at h
  have h1 := vl_lt hlo
  rw [hd] at h1
  rcases Nat.eq_zero_or_pos c with e | e
  · subst e; rw [Nat.mul_zero] at h; omega
  · have := Nat.le_mul_of_pos_right (1000000000 ^ x.length) e
    omega

/-- a window of a row, its first places turned -/
def win (L d : List Nat) (off : Nat) : List Nat := L.take off ++ d ++ L.drop (off + d.length)
theorem win_length {L d : List Nat} {off : Nat} (h : off + d.length ≤ L.length) : (win L d off).length = L.length := by simp [win]; omega
theorem win_nil (L : List Nat) (off : Nat) : win L [] off = L := by simp [win]
theorem win_get {L d : List Nat} {off : Nat} (h : off ≤ L.length) : (win L d off)[off + d.length]?.getD 0 = L[off + d.length]?.getD 0 := by
  have h1 : ¬ off + d.length < off := by omega
  simp [win, List.getElem?_append, Nat.min_eq_left h, h1]
theorem win_set {L d : List Nat} {off : Nat} (v : Nat) (h : off + d.length < L.length) : (win L d off).set (off + d.length) v = win L (d ++ [v]) off := by
  unfold win
  have h1 : (L.take off ++ d).length = off + d.length := by simp; omega
  rw [List.set_append, if_neg (by omega), h1, Nat.sub_self, drop_cons h]
  simp [Nat.add_assoc]
theorem window_get {L : List Nat} {off n k : Nat} (h : k < n) : ((L.drop off).take n)[k]?.getD 0 = L[off + k]?.getD 0 := by
  simp [h]

/-! Adding in place -/
/-- the sums of the first k places -/
def addl (x y : List Nat) (k : Nat) : List Nat := (List.range k).map (fun j => x[j]?.getD 0 + y[j]?.getD 0) ++ x.drop k
theorem addl_length {x y : List Nat} {k : Nat} (h : k ≤ x.length) : (addl x y k).length = x.length := by simp [addl]; omega
theorem addl_zero (x y : List Nat) : addl x y 0 = x := by simp [addl]
theorem addl_get {x y : List Nat} {k : Nat} : (addl x y k)[k]?.getD 0 = x[k]?.getD 0 := by simp [addl, List.getElem?_append]
theorem addl_set {x y : List Nat} {k : Nat} (h : k < x.length) : (addl x y k).set k (x[k]?.getD 0 + y[k]?.getD 0) = addl x y (k + 1) := by
  unfold addl
  rw [List.set_append, if_neg (by simp), drop_cons h]
  simp [List.range_succ]
theorem addl_worth {x y : List Nat} : ∀ k, k ≤ x.length → k ≤ y.length → vl 1000000000 (addl x y k) = vl 1000000000 x + vl 1000000000 (y.take k) := by
  intro k
  induction k with
  | zero => intro _ _; simp [addl, vl]
  | succ k ih =>
    intro h1 h2
    have ih := ih (by omega) (by omega)
    unfold addl at ih ⊢
    rw [vl_append] at ih ⊢
    rw [drop_cons (show k < x.length by omega)] at ih
    rw [take_snoc y k (by omega), vl_append, vl_one, List.range_succ, List.map_append, vl_append]
    simp only [List.length_append, List.length_map, List.length_range, List.map_cons, List.map_nil, vl_one, List.length_cons, List.length_nil, vl, List.length_take, Nat.zero_add, Nat.min_eq_left (by omega : k ≤ y.length), Nat.pow_succ] at ih ⊢
    generalize x[k]?.getD 0 = X at *
    generalize y[k]?.getD 0 = Y at *
    generalize 1000000000 ^ k = p at *
    rw [Nat.mul_add] at ih
    rw [Nat.mul_add, Nat.mul_assoc]
    omega
theorem addl_Lo {x y : List Nat} {k : Nat} (hx : Lo 1000000000 x) (hy : Lo 1000000000 y) : Lo 4294967296 (addl x y k) := by
  intro z hz
  rcases List.mem_append.1 hz with hz | hz
  · obtain ⟨j, _, rfl⟩ := List.mem_map.1 hz
    have h1 := Lo_get hx (by omega) j
    have h2 := Lo_get hy (by omega) j
    show x[j]?.getD 0 + y[j]?.getD 0 < _
    omega
  · have := hx z (List.mem_of_mem_drop hz); omega
theorem Lo_mono {M N : Nat} {l : List Nat} (h : Lo M l) (hMN : M ≤ N) : Lo N l := fun x hx => Nat.lt_of_lt_of_le (h x hx) hMN
/-! Multiplying -/
theorem mul_step {D Y E : List Nat} {i j u c p v q : Nat} (hi : i + j < D.length) (hE : E.length = j) (hp : p = D[i + j]?.getD 0) (hv : v = Y[j]?.getD 0) (hj : j < Y.length)
    (h : vl 1000000000 ((D.drop i).take j) + u * vl 1000000000 (Y.take j) = vl 1000000000 E + 1000000000 ^ j * c) (hq : q = p + u * v + c) :
    vl 1000000000 ((D.drop i).take (j + 1)) + u * vl 1000000000 (Y.take (j + 1)) = vl 1000000000 (E ++ [q % 1000000000]) + 1000000000 ^ (j + 1) * (q / 1000000000) := by
  have hg : (D.drop i)[j]?.getD 0 = p := by rw [List.getElem?_drop, hp]
  rw [take_snoc (D.drop i) j (by simp; omega), take_snoc Y j hj, vl_append, vl_append, vl_append, vl_one, vl_one, vl_one, hE, hg, ← hv, List.length_take, List.length_take, Nat.min_eq_left (by simp; omega), Nat.min_eq_left (by omega), Nat.pow_succ]
  generalize 1000000000 ^ j = b at *
  have e1 : b * (q % 1000000000) + b * 1000000000 * (q / 1000000000) = b * p + b * (u * v) + b * c := by
    rw [Nat.mul_assoc, ← Nat.mul_add, Nat.mod_add_div, hq, Nat.mul_add, Nat.mul_add]
  have e2 : u * (vl 1000000000 (Y.take j) + b * v) = u * vl 1000000000 (Y.take j) + b * (u * v) := by rw [Nat.mul_add, Nat.mul_left_comm]
  rw [e2]
  omega
theorem mul_end {D Y E X : List Nat} {i u c : Nat} (hD : D.length = i + Y.length) (hi : i < X.length) (hu : u = X[i]?.getD 0) (hE : E.length = Y.length)
    (h : vl 1000000000 ((D.drop i).take Y.length) + u * vl 1000000000 (Y.take Y.length) = vl 1000000000 E + 1000000000 ^ Y.length * c) (hv : vl 1000000000 D = vl 1000000000 (X.take i) * vl 1000000000 Y) :
    vl 1000000000 (D.take i ++ E ++ [c]) = vl 1000000000 (X.take (i + 1)) * vl 1000000000 Y := by
  rw [List.take_length, List.take_of_length_le (by simp; omega)] at h
  have h1 := vl_drop (b := 1000000000) (l := D) (k := i) (by omega)
  rw [take_snoc X i hi, vl_append, vl_append, vl_append, vl_one, vl_one, ← hu, List.length_append, List.length_take, List.length_take, Nat.min_eq_left (by omega), Nat.min_eq_left (by omega), hE, Nat.pow_add]
  generalize 1000000000 ^ i = b at *
  generalize 1000000000 ^ Y.length = b' at *
  rw [hv] at h1
  rw [Nat.add_mul, h1]
  have e1 : b * (vl 1000000000 (D.drop i) + u * vl 1000000000 Y) = b * (vl 1000000000 E + b' * c) := by rw [h]
  rw [Nat.mul_add, Nat.mul_add, ← Nat.mul_assoc, ← Nat.mul_assoc] at e1
  omega
theorem mul_row {D E : List Nat} {i m z c : Nat} (hD : D.length = i + m) (hE : E.length = m) :
    (win (D ++ List.replicate (z + 1) 0) E i).set (i + m) c = (D.take i ++ E ++ [c]) ++ List.replicate z 0 := by
  unfold win
  rw [hE, List.take_append_of_le_length (by omega), ← hD, List.drop_left]
  have h1 : (D.take i ++ E).length = D.length := by simp; omega
  rw [List.set_append, if_neg (by omega), h1, Nat.sub_self, List.replicate_succ, List.set_cons_zero]
  simp
theorem mul_get {D E : List Nat} {i j m z : Nat} (hD : D.length = i + m) (hE : E.length = j) (hj : j < m) : (win (D ++ List.replicate z 0) E i)[i + j]?.getD 0 = D[i + j]?.getD 0 := by
  subst hE
  rw [win_get (by simp; omega), List.getElem?_append_left (by omega)]
theorem vl_pad (l : List Nat) (z : Nat) : vl 1000000000 (l ++ List.replicate z 0) = vl 1000000000 l := by rw [vl_append, vl_zeros]; simp
end Go.Proofs.YtimfpgpomafflaaGreatDoor.LM

/- Plain mathematics: decimal texts. Nothing of the program. -/
namespace Go.Proofs.YtimfpgpomafflaaGreatDoor.LM

/-- k digits of x, with noughts ahead -/
def padd : Nat → Nat → List UInt8
  | 0, _ => []
  | k + 1, x => padd k (x / 10) ++ [UInt8.ofNat (48 + x % 10)]
theorem padd_length : ∀ k x, (padd k x).length = k := by
  intro k; induction k with
  | zero => intro x; rfl
  | succ k ih => intro x; simp [padd, ih]
theorem dec_pad : ∀ (k x r : Nat), 1 ≤ r → x < 10 ^ k → Lib.decDigits (x + 10 ^ k * r) = Lib.decDigits r ++ padd k x := by
  intro k
  induction k with
  | zero => intro x r _ hx; have : x = 0 := by simpa using hx
            subst this; simp [padd]
  | succ k ih =>
    intro x r hr hx
    have h10 : ¬ x + 10 ^ (k + 1) * r < 10 := by
      have h1 : 1 ≤ 10 ^ k := Nat.one_le_pow _ _ (by decide)
      have h2 : 10 ^ (k + 1) * 1 ≤ 10 ^ (k + 1) * r := Nat.mul_le_mul_left _ hr
      rw [Nat.pow_succ] at h2 ⊢; omega
    have e1 : (x + 10 ^ (k + 1) * r) / 10 = x / 10 + 10 ^ k * r := by
      rw [Nat.pow_succ, Nat.mul_comm (10 ^ k) 10, Nat.mul_assoc, Nat.add_mul_div_left _ _ (by omega)]
    have e2 : (x + 10 ^ (k + 1) * r) % 10 = x % 10 := by
      rw [Nat.pow_succ, Nat.mul_comm (10 ^ k) 10, Nat.mul_assoc, Nat.add_mul_mod_self_left]
    rw [Lib.decDigits, dif_neg h10, e1, e2, ih (x / 10) r hr (by rw [Nat.pow_succ] at hx; omega)]
    simp [padd]
theorem dec_padded (x : Nat) (h : x < 1000000000) : (Lib.decDigits (x + 1000000000)).drop 1 = padd 9 x := by
  have := dec_pad 9 x 1 (by omega) h
  rw [show (10 : Nat) ^ 9 * 1 = 1000000000 by decide, Lib.decDigits_one (show 1 < 10 by omega)] at this
  rw [this]; rfl
theorem dec_step (x r : Nat) (hx : x < 1000000000) (hr : 1 ≤ r) : Lib.decDigits (x + 1000000000 * r) = Lib.decDigits r ++ (Lib.decDigits (x + 1000000000)).drop 1 := by
  rw [dec_padded x hx]
  have := dec_pad 9 x r hr hx
  rwa [show (10 : Nat) ^ 9 = 1000000000 by decide] at this
theorem dec_text (n : Nat) : Lib.decDigits n = if n = 0 then [48] else (dg 10 n).reverse.map (fun d => UInt8.ofNat (48 + d)) := by
  induction n using Nat.strongRecOn with
  | _ n ih =>
    by_cases h : n < 10
    · rw [Lib.decDigits_one h]
      by_cases h0 : n = 0
      · subst h0; rfl
      · rw [if_neg h0, dg_pos (by omega) (by omega), Nat.div_eq_of_lt h, dg_zero, Nat.mod_eq_of_lt h]; rfl
    · rw [Lib.decDigits, dif_neg h, ih (n / 10) (by omega), if_neg (by omega), if_neg (by omega), dg_pos (b := 10) (n := n) (by omega) (by omega)]
      simp
theorem nDigits_len {n : Nat} (h : 0 < n) : Lib.nDigits n = (dg 10 n).length := by
  rw [← Lib.decDigits_length, dec_text, if_neg (by omega)]; simp
/-- the digits of a number of limbs -/
theorem nDigits_limb {x r : Nat} : ∀ k, 1 ≤ r → x < 10 ^ k → Lib.nDigits (x + 10 ^ k * r) = Lib.nDigits r + k := by
  intro k hr hx
  rw [← Lib.decDigits_length, dec_pad k x r hr hx, List.length_append, padd_length, Lib.decDigits_length]
theorem vl_top {X : List Nat} {h : Nat} (hh : X.length = h + 1) : vl 1000000000 (X.drop h) = X[h]?.getD 0 := by
  rw [drop_cons (by omega), List.drop_eq_nil_of_le (by omega), vl_one]
theorem vl_drop_step {X : List Nat} {k : Nat} (h : k < X.length) : vl 1000000000 (X.drop k) = X[k]?.getD 0 + 1000000000 * vl 1000000000 (X.drop (k + 1)) := by
  rw [drop_cons h]; rfl
/-- the highest limb of a plain list isn't 0 -/
theorem dg_top {n h : Nat} (hh : (dg 1000000000 n).length = h + 1) : 1 ≤ (dg 1000000000 n)[h]?.getD 0 := by
  rcases Nat.eq_zero_or_pos ((dg 1000000000 n)[h]?.getD 0) with e | e
  · exfalso
    have h1 := tr_step (l := dg 1000000000 n) (k := h) (by omega) e
    rw [show h + 1 = (dg 1000000000 n).length by omega, List.take_length, tr_dg (by omega)] at h1
    have h2 : (tr ((dg 1000000000 n).take h)).length = h + 1 := by rw [h1]; exact hh
    have h3 := tr_take ((dg 1000000000 n).take h)
    have h4 : (tr ((dg 1000000000 n).take h)).length ≤ h := by rw [h3]; simp; omega
    omega
  · exact e
theorem drop_pos {n k h : Nat} (hh : (dg 1000000000 n).length = h + 1) (hk : k ≤ h) : 1 ≤ vl 1000000000 ((dg 1000000000 n).drop k) := by
  have h1 := vl_drop (b := 1000000000) (l := (dg 1000000000 n).drop k) (k := h - k) (by simp; omega)
  rw [List.drop_drop, show k + (h - k) = h by omega, vl_top hh] at h1
  have h2 := dg_top hh
  have h3 : 1 ≤ 1000000000 ^ (h - k) := Nat.one_le_pow _ _ (by omega)
  have h4 := Nat.mul_le_mul h3 h2
  omega
theorem nDigits_high {n h : Nat} (hh : (dg 1000000000 n).length = h + 1) : (dg 10 n).length = 9 * h + Lib.nDigits ((dg 1000000000 n)[h]?.getD 0) := by
  have hn : 0 < n := by
    rcases Nat.eq_zero_or_pos n with e | e
    · subst e; rw [dg_zero] at hh; simp at hh
    · exact e
  rw [← nDigits_len hn]
  have h1 := vl_drop (b := 1000000000) (l := dg 1000000000 n) (k := h) (by omega)
  rw [vl_dg (by omega), vl_top hh] at h1
  have h2 := vl_lt (b := 1000000000) (l := (dg 1000000000 n).take h) (fun z hz => Lo_dg (by omega) n z (List.mem_of_mem_take hz))
  rw [List.length_take, Nat.min_eq_left (by omega)] at h2
  have e : (1000000000 : Nat) ^ h = 10 ^ (9 * h) := by rw [show (1000000000 : Nat) = 10 ^ 9 by decide, ← Nat.pow_mul]
  rw [e] at h1 h2
  have h3 := nDigits_limb (9 * h) (dg_top hh) h2
  rw [← h1] at h3
  omega
end Go.Proofs.YtimfpgpomafflaaGreatDoor.LM

/- Plain mathematics: the school's division. Nothing of the program. -/
namespace Go.Proofs.YtimfpgpomafflaaGreatDoor.LM

/-! is t times y above a window? -/
theorem above_snoc {E V : List Nat} {e v : Nat} (hE : Lo 1000000000 E) (hV : Lo 1000000000 V) (hl : E.length = V.length) :
    (vl 1000000000 (V ++ [v]) < vl 1000000000 (E ++ [e])) ↔ (v < e ∨ v = e ∧ vl 1000000000 V < vl 1000000000 E) := by
  rw [vl_append, vl_append, vl_one, vl_one, ← hl]
  have h1 := vl_lt hE
  have h2 := vl_lt hV
  rw [← hl] at h2
  generalize 1000000000 ^ E.length = p at *
  constructor
  · intro h
    rcases Nat.lt_trichotomy v e with h3 | h3 | h3
    · exact .inl h3
    · subst h3; exact .inr ⟨rfl, by omega⟩
    · exfalso
      have : p * (e + 1) ≤ p * v := Nat.mul_le_mul_left _ h3
      rw [Nat.mul_add, Nat.mul_one] at this; omega
  · rintro (h3 | ⟨rfl, h4⟩)
    · have : p * (v + 1) ≤ p * e := Nat.mul_le_mul_left _ h3
      rw [Nat.mul_add, Nat.mul_one] at this; omega
    · omega
theorem above_step {y E : List Nat} {t c k v : Nat} (hE : E.length = k) (hv : v = y[k]?.getD 0) (h : t * vl 1000000000 (y.take k) = vl 1000000000 E + 1000000000 ^ k * c) :
    t * vl 1000000000 (y.take (k + 1)) = vl 1000000000 (E ++ [(c + t * v) % 1000000000]) + 1000000000 ^ (k + 1) * ((c + t * v) / 1000000000) := by
  have hy : vl 1000000000 (y.take (k + 1)) = vl 1000000000 (y.take k) + 1000000000 ^ k * v := by
    rw [hv]
    rcases Nat.lt_or_ge k y.length with h1 | h1
    · rw [take_snoc y k h1, vl_append, vl_one, List.length_take, Nat.min_eq_left (by omega)]
    · rw [List.take_of_length_le (by omega), List.take_of_length_le (by omega)]; simp [h1]
  rw [hy, Nat.mul_add, h, vl_append, vl_one, hE, Nat.pow_succ]
  generalize 1000000000 ^ k = p at *
  have e1 : p * ((c + t * v) % 1000000000) + p * 1000000000 * ((c + t * v) / 1000000000) = p * c + p * (t * v) := by
    rw [Nat.mul_assoc, ← Nat.mul_add, Nat.mod_add_div, Nat.mul_add]
  rw [Nat.mul_left_comm t p v]
  omega
theorem above_end {y E : List Nat} {t c n : Nat} (hE : E.length = n) (hy : y.length ≤ n) (hlt : t * vl 1000000000 y < 1000000000 ^ n) (h : t * vl 1000000000 (y.take n) = vl 1000000000 E + 1000000000 ^ n * c) :
    vl 1000000000 E = t * vl 1000000000 y := by
  rw [List.take_of_length_le hy] at h
  rcases Nat.eq_zero_or_pos c with e | e
  · subst e; omega
  · have := Nat.le_mul_of_pos_right (1000000000 ^ n) e; omega

/-! The bounds of a quotient's limb -/
/-- the three highest places of a window, the two highest of a divisor: W is the window, y the divisor, s the place value -/
theorem bound_high {W y W3 b s : Nat} (hs : 0 < s) (hy : b * s ≤ y) (hW : W < (W3 + 1) * s) (hb : 0 < b) : W / y ≤ W3 / b := by
  rw [Nat.le_div_iff_mul_le hb]
  have h1 : W / y * y ≤ W := Nat.div_mul_le_self W y
  have h2 : W / y * b * s ≤ W / y * y := by rw [Nat.mul_assoc]; exact Nat.mul_le_mul_left _ hy
  have h3 : W / y * b * s < (W3 + 1) * s := by omega
  have := Nat.lt_of_mul_lt_mul_right h3
  omega
theorem bound_low {W y W3 b s : Nat} (hy0 : 0 < y) (hy : y ≤ (b + 1) * s) (hW : W3 * s ≤ W) : W3 / (b + 1) ≤ W / y := by
  rw [Nat.le_div_iff_mul_le hy0]
  have h1 : W3 / (b + 1) * y ≤ W3 / (b + 1) * ((b + 1) * s) := Nat.mul_le_mul_left _ hy
  have h2 : W3 / (b + 1) * (b + 1) ≤ W3 := Nat.div_mul_le_self _ _
  have h3 : W3 / (b + 1) * (b + 1) * s ≤ W3 * s := Nat.mul_le_mul_right _ h2
  rw [Nat.mul_assoc] at h3
  omega
theorem search_count {lo hi W y : Nat} (hy : 0 < y) (h1 : lo ≤ W / y) (h2 : W / y ≤ hi) : (List.range (hi - lo)).countP (fun i => !decide (W < (lo + i + 1) * y)) = W / y - lo := by
  have key : ∀ i, (!decide (W < (lo + i + 1) * y)) = decide (i < W / y - lo) := by
    intro i
    have e : (W < (lo + i + 1) * y) ↔ ¬ (i < W / y - lo) := by
      rw [← Nat.div_lt_iff_lt_mul hy]; omega
    by_cases h : i < W / y - lo
    · rw [decide_eq_false (fun h3 => (e.1 h3) h), decide_eq_true h]; rfl
    · rw [decide_eq_true (e.2 h), decide_eq_false h]; rfl
  rw [show (fun i => !decide (W < (lo + i + 1) * y)) = (fun i => decide (i < W / y - lo)) from funext key]
  have : ∀ n m, m ≤ n → (List.range n).countP (fun i => decide (i < m)) = m := by
    intro n m
    induction n with
    | zero => intro h; simp; omega
    | succ n ih =>
      intro h
      rw [List.range_succ, List.countP_append]
      rcases Nat.lt_or_ge n m with h3 | h3
      · have hm : m = n + 1 := by omega
        subst hm
        have : (List.range n).countP (fun i => decide (i < n + 1)) = n := by
          have h4 : (List.range n).countP (fun i => decide (i < n + 1)) = (List.range n).length := List.countP_eq_length.2 (by intro a ha; have := List.mem_range.1 ha; simp; omega)
          rw [h4, List.length_range]
        rw [this]; simp
      · rw [ih h3]; simp; omega
  exact this _ _ (by omega)

/-! The rounds -/
theorem vl_window {R : List Nat} {p m : Nat} (hlt : vl 1000000000 (R.drop p) < 1000000000 ^ m) : vl 1000000000 ((R.drop p).take m) = vl 1000000000 (R.drop p) := by
  rcases Nat.le_total m (R.drop p).length with h | h
  · have h1 := vl_drop (b := 1000000000) (l := R.drop p) (k := m) h
    rcases Nat.eq_zero_or_pos (vl 1000000000 ((R.drop p).drop m)) with e | e
    · rw [e] at h1; omega
    · have := Nat.le_mul_of_pos_right (1000000000 ^ m) e; omega
  · rw [List.take_of_length_le h]
theorem win_drop {R d : List Nat} {at_ : Nat} (h : at_ + d.length ≤ R.length) : (win R d at_).drop at_ = d ++ R.drop (at_ + d.length) := by
  unfold win
  rw [List.append_assoc, List.drop_append, List.drop_of_length_le (by simp; omega), List.nil_append, List.length_take, Nat.min_eq_left (by omega), Nat.sub_self, List.drop_zero]
theorem win_take {R d : List Nat} {at_ : Nat} (h : at_ ≤ R.length) : (win R d at_).take at_ = R.take at_ := by
  unfold win
  rw [List.append_assoc, List.take_append_of_le_length (by simp; omega), List.take_take, Nat.min_self]
/-- one round of the school's division -/
theorem div_round {X Y R D d : List Nat} {p m : Nat} (hm : Y.length = m) (hY : 0 < vl 1000000000 Y) (hYlo : Lo 1000000000 Y) (hRlo : Lo 1000000000 R) (hp : p + m + 1 ≤ R.length)
    (hr : vl 1000000000 (R.drop (p + 1)) < vl 1000000000 Y) (hX : vl 1000000000 X = vl 1000000000 R + vl 1000000000 Y * (1000000000 ^ (p + 1) * vl 1000000000 D))
    (hd : d.length = m + 1) (hdv : vl 1000000000 d = vl 1000000000 ((R.drop p).take (m + 1)) - vl 1000000000 ((R.drop p).take (m + 1)) / vl 1000000000 Y * vl 1000000000 Y) :
    vl 1000000000 ((R.drop p).take (m + 1)) / vl 1000000000 Y < 1000000000 ∧ vl 1000000000 ((win R d p).drop p) < vl 1000000000 Y ∧
    vl 1000000000 X = vl 1000000000 (win R d p) + vl 1000000000 Y * (1000000000 ^ p * vl 1000000000 (vl 1000000000 ((R.drop p).take (m + 1)) / vl 1000000000 Y :: D)) := by
  have hYb := vl_lt hYlo
  rw [hm] at hYb
  have hx0 : R[p]?.getD 0 < 1000000000 := Lo_get hRlo (by omega) p
  have hstep := vl_drop_step (X := R) (k := p) (by omega)
  have hWlt : vl 1000000000 (R.drop p) < 1000000000 * vl 1000000000 Y := by omega
  have hWb : vl 1000000000 (R.drop p) < 1000000000 ^ (m + 1) := by rw [Nat.pow_succ]; omega
  have hwin := vl_window hWb
  rw [hwin] at hdv ⊢
  generalize hWe : vl 1000000000 (R.drop p) = W at *
  have hq : W / vl 1000000000 Y < 1000000000 := by rw [Nat.div_lt_iff_lt_mul hY]; exact hWlt
  have hmod : vl 1000000000 d = W % vl 1000000000 Y := by
    have := Nat.div_add_mod W (vl 1000000000 Y); rw [Nat.mul_comm] at this; omega
  have hzero : vl 1000000000 (R.drop (p + d.length)) = 0 := by
    have h1 := vl_drop (b := 1000000000) (l := R.drop p) (k := m + 1) (by simp; omega)
    rw [hwin, hWe, List.drop_drop] at h1
    rw [hd]
    rcases Nat.eq_zero_or_pos (vl 1000000000 (R.drop (p + (m + 1)))) with e | e
    · exact e
    · have := Nat.le_mul_of_pos_right (1000000000 ^ (m + 1)) e
      have := Nat.pow_pos (n := m + 1) (show 0 < 1000000000 by omega); omega
  have hdrop : vl 1000000000 ((win R d p).drop p) = W % vl 1000000000 Y := by
    rw [win_drop (by omega), vl_append, hzero, Nat.mul_zero, Nat.add_zero, hmod]
  refine ⟨hq, by rw [hdrop]; exact Nat.mod_lt _ hY, ?_⟩
  have hR := vl_drop (b := 1000000000) (l := R) (k := p) (by omega)
  have hR' := vl_drop (b := 1000000000) (l := win R d p) (k := p) (by rw [win_length (by omega)]; omega)
  rw [win_take (by omega), hdrop] at hR'
  rw [hWe] at hR
  rw [hX, hR, hR']
  simp only [vl]
  have hdm := Nat.div_add_mod W (vl 1000000000 Y)
  rw [Nat.pow_succ]
  generalize 1000000000 ^ p = b at *
  generalize vl 1000000000 Y = Yv at *
  generalize vl 1000000000 D = Dv at *
  have e1 : b * W = b * (Yv * (W / Yv)) + b * (W % Yv) := by rw [← Nat.mul_add, hdm]
  have e2 : Yv * (b * (W / Yv + 1000000000 * Dv)) = b * (Yv * (W / Yv)) + Yv * (b * 1000000000 * Dv) := by
    rw [Nat.mul_add, Nat.mul_add, Nat.mul_left_comm Yv b, Nat.mul_assoc b]
  rw [e1, e2]
  omega
/-- the end of the school's division -/
theorem div_end {X Y R D : List Nat} (hY : 0 < vl 1000000000 Y) (hr : vl 1000000000 (R.drop 0) < vl 1000000000 Y) (hX : vl 1000000000 X = vl 1000000000 R + vl 1000000000 Y * (1000000000 ^ 0 * vl 1000000000 D)) :
    vl 1000000000 D = vl 1000000000 X / vl 1000000000 Y ∧ vl 1000000000 R = vl 1000000000 X % vl 1000000000 Y := by
  rw [List.drop_zero] at hr
  rw [Nat.pow_zero, Nat.one_mul] at hX
  constructor
  · rw [hX, Nat.add_mul_div_left _ _ hY, Nat.div_eq_of_lt hr, Nat.zero_add]
  · rw [hX, Nat.add_mul_mod_self_left, Nat.mod_eq_of_lt hr]
/-- the beginning -/
theorem div_start {X Y : List Nat} {m : Nat} (hm : Y.length = m + 1) (hX : Lo 1000000000 X) (hlen : m + 1 ≤ X.length) (hYtop : 1 ≤ Y[m]?.getD 0) :
    vl 1000000000 ((X ++ [0]).drop (X.length - m)) < vl 1000000000 Y := by
  rw [List.drop_append_of_le_length (by omega), vl_append, vl_one, Nat.mul_zero, Nat.add_zero]
  have h1 := vl_lt (b := 1000000000) (l := X.drop (X.length - m)) (fun z hz => hX z (List.mem_of_mem_drop hz))
  rw [List.length_drop, show X.length - (X.length - m) = m by omega] at h1
  have h2 := vl_drop (b := 1000000000) (l := Y) (k := m) (by omega)
  rw [vl_top hm] at h2
  have h3 := Nat.le_mul_of_pos_right (1000000000 ^ m) (show 0 < Y[m]?.getD 0 by omega)
  omega
end Go.Proofs.YtimfpgpomafflaaGreatDoor.LM

/- Plain mathematics: the highest limbs' bounds. Nothing of the program. -/
namespace Go.Proofs.YtimfpgpomafflaaGreatDoor.LM

theorem top2 {y : List Nat} {m : Nat} (h : y.length = m + 2) (hlo : Lo 1000000000 y) :
    ∃ r, r < 1000000000 ^ m ∧ vl 1000000000 y = r + 1000000000 ^ m * (y[m + 1]?.getD 0 * 1000000000 + y[m]?.getD 0) := by
  refine ⟨vl 1000000000 (y.take m), ?_, ?_⟩
  · have := vl_lt (b := 1000000000) (l := y.take m) (fun z hz => hlo z (List.mem_of_mem_take hz))
    rwa [List.length_take, Nat.min_eq_left (by omega)] at this
  · have h1 := vl_drop (b := 1000000000) (l := y) (k := m) (by omega)
    rw [vl_drop_step (by omega), vl_top (by omega)] at h1
    rw [h1, Nat.mul_comm 1000000000, Nat.add_comm (y[m]?.getD 0)]
theorem top3 {W : List Nat} {m : Nat} (h : W.length = m + 3) (hlo : Lo 1000000000 W) :
    ∃ r, r < 1000000000 ^ m ∧ vl 1000000000 W = r + 1000000000 ^ m * ((W[m + 2]?.getD 0 * 1000000000 + W[m + 1]?.getD 0) * 1000000000 + W[m]?.getD 0) := by
  refine ⟨vl 1000000000 (W.take m), ?_, ?_⟩
  · have := vl_lt (b := 1000000000) (l := W.take m) (fun z hz => hlo z (List.mem_of_mem_take hz))
    rwa [List.length_take, Nat.min_eq_left (by omega)] at this
  · have h1 := vl_drop (b := 1000000000) (l := W) (k := m) (by omega)
    rw [vl_drop_step (by omega), vl_drop_step (by omega), vl_top (by omega), show W[m + 1 + 1]? = W[m + 2]? from rfl] at h1
    rw [h1]
    congr 1
    congr 1
    omega
theorem bnd_many {y W : List Nat} {m : Nat} (hym : y.length = m + 2) (hWm : W.length = m + 3) (hyl : Lo 1000000000 y) (hWl : Lo 1000000000 W) (hlt : vl 1000000000 W < 1000000000 * vl 1000000000 y) (hy1 : 1 ≤ y[m + 1]?.getD 0)
    {W3 b : Nat} (hW3 : W3 = (W[m + 2]?.getD 0 * 1000000000 + W[m + 1]?.getD 0) * 1000000000 + W[m]?.getD 0) (hb : b = y[m + 1]?.getD 0 * 1000000000 + y[m]?.getD 0) :
    W3 / (b + 1) ≤ vl 1000000000 W / vl 1000000000 y ∧ vl 1000000000 W / vl 1000000000 y ≤ W3 / b ∧ W3 / b ≤ 1000000000 ∧ (y[m + 1]?.getD 0 ≤ 15 → W3 ≤ 18446744073709551615) := by
  obtain ⟨r, hr, hy⟩ := top2 hym hyl
  obtain ⟨r', hr', hW⟩ := top3 hWm hWl
  rw [← hb] at hy
  rw [← hW3] at hW
  have hz2 := Lo_get hyl (by omega) m
  have hx2 := Lo_get hWl (by omega) m
  have hb0 : 1000000000 ≤ b := by omega
  generalize 1000000000 ^ m = s at *
  have hs : 0 < s := by omega
  have e1 : b * s ≤ vl 1000000000 y := by rw [hy, Nat.mul_comm]; omega
  have e2 : vl 1000000000 y ≤ (b + 1) * s := by rw [hy, Nat.add_mul, Nat.mul_comm b s]; omega
  have e3 : W3 * s ≤ vl 1000000000 W := by rw [hW, Nat.mul_comm]; omega
  have e4 : vl 1000000000 W < (W3 + 1) * s := by rw [hW, Nat.add_mul, Nat.mul_comm W3 s]; omega
  have hW3b : W3 < 1000000000 * (b + 1) := by
    have h1 : W3 * s < 1000000000 * ((b + 1) * s) := by omega
    rw [← Nat.mul_assoc] at h1
    exact Nat.lt_of_mul_lt_mul_right h1
  have hy0 : 0 < vl 1000000000 y := by
    have := Nat.mul_pos (show 0 < b by omega) hs
    omega
  refine ⟨bound_low hy0 e2 e3, bound_high hs e1 e4 (by omega), ?_, ?_⟩
  · have : W3 < (1000000000 + 1) * b := by omega
    have := (Nat.div_lt_iff_lt_mul (show 0 < b by omega)).2 this
    omega
  · intro h15
    omega
theorem bnd_one {y W : List Nat} (hym : y.length = 1) (hWm : W.length = 2) (hyl : Lo 1000000000 y) (hWl : Lo 1000000000 W) (hlt : vl 1000000000 W < 1000000000 * vl 1000000000 y) (hy1 : 1 ≤ y[0]?.getD 0)
    {W3 b : Nat} (hW3 : W3 = (W[1]?.getD 0 * 1000000000 + W[0]?.getD 0) * 1000000000) (hb : b = y[0]?.getD 0 * 1000000000) :
    W3 / (b + 1) ≤ vl 1000000000 W / vl 1000000000 y ∧ vl 1000000000 W / vl 1000000000 y ≤ W3 / b ∧ W3 / b ≤ 1000000000 ∧ (y[0]?.getD 0 ≤ 15 → W3 ≤ 18446744073709551615) := by
  have hy : vl 1000000000 y = y[0]?.getD 0 := by
    have := vl_top (X := y) (h := 0) hym; rwa [List.drop_zero] at this
  have hW : vl 1000000000 W = W[1]?.getD 0 * 1000000000 + W[0]?.getD 0 := by
    have h1 := vl_drop_step (X := W) (k := 0) (by omega)
    rw [List.drop_zero, vl_top (X := W) (h := 1) hWm] at h1
    omega
  rw [← hy] at hb hy1
  rw [← hW] at hW3
  rw [← hy]
  have e : W3 / b = vl 1000000000 W / vl 1000000000 y := by rw [hW3, hb]; exact Nat.mul_div_mul_right _ _ (by omega)
  refine ⟨?_, by omega, ?_, ?_⟩
  · rw [← e]; exact Nat.div_le_div_left (by omega) (by omega)
  · rw [e]
    have := (Nat.div_lt_iff_lt_mul (show 0 < vl 1000000000 y by omega)).2 hlt
    omega
  · intro h; omega
theorem win_lt {Y R : List Nat} {p m : Nat} (hm : Y.length = m) (hYlo : Lo 1000000000 Y) (hRlo : Lo 1000000000 R) (hp : p < R.length) (hr : vl 1000000000 (R.drop (p + 1)) < vl 1000000000 Y) :
    vl 1000000000 ((R.drop p).take (m + 1)) < 1000000000 * vl 1000000000 Y := by
  have hYb := vl_lt hYlo
  rw [hm] at hYb
  have hx0 : R[p]?.getD 0 < 1000000000 := Lo_get hRlo (by omega) p
  have hstep := vl_drop_step (X := R) (k := p) (by omega)
  have hWlt : vl 1000000000 (R.drop p) < 1000000000 * vl 1000000000 Y := by omega
  have hWb : vl 1000000000 (R.drop p) < 1000000000 ^ (m + 1) := by rw [Nat.pow_succ]; omega
  rw [vl_window hWb]; exact hWlt
theorem Lo_window {R : List Nat} {p m : Nat} (h : Lo 1000000000 R) : Lo 1000000000 ((R.drop p).take m) := fun z hz => h z (List.mem_of_mem_drop (List.mem_of_mem_take hz))
theorem Lo_win {R d : List Nat} {p : Nat} (h : Lo 1000000000 R) (hd : Lo 1000000000 d) : Lo 1000000000 (win R d p) :=
  Lo_append (Lo_append (fun z hz => h z (List.mem_of_mem_take hz)) hd) (fun z hz => h z (List.mem_of_mem_drop hz))
end Go.Proofs.YtimfpgpomafflaaGreatDoor.LM

/- Plain mathematics: digits in base 10 and limbs. Nothing of the program. -/
namespace Go.Proofs.YtimfpgpomafflaaGreatDoor.LM

/-- a step of adding digit lists -/
theorem radd_step {x y out : List Nat} {c k s : Nat} (ho : out.length = k) (hs : s = x[k]?.getD 0 + y[k]?.getD 0 + c)
    (h : vl 10 out + 10 ^ k * c = vl 10 (x.take k) + vl 10 (y.take k)) :
    vl 10 (out ++ [s % 10]) + 10 ^ (k + 1) * (s / 10) = vl 10 (x.take (k + 1)) + vl 10 (y.take (k + 1)) := by
  have hx : ∀ z : List Nat, vl 10 (z.take (k + 1)) = vl 10 (z.take k) + 10 ^ k * (z[k]?.getD 0) := by
    intro z
    rcases Nat.lt_or_ge k z.length with h1 | h1
    · rw [take_snoc z k h1, vl_append, vl_one, List.length_take, Nat.min_eq_left (by omega)]
    · rw [List.take_of_length_le (by omega), List.take_of_length_le (by omega)]; simp [h1]
  rw [hx x, hx y, vl_append, vl_one, ho, Nat.pow_succ]
  generalize 10 ^ k = p at *
  have e1 : p * (s % 10) + p * 10 * (s / 10) = p * (x[k]?.getD 0) + p * (y[k]?.getD 0) + p * c := by
    rw [Nat.mul_assoc, ← Nat.mul_add, Nat.mod_add_div, hs, Nat.mul_add, Nat.mul_add]
  omega
theorem vl10_shift {x : List Nat} {n : Nat} : vl 10 (List.replicate n 0 ++ x) = 10 ^ n * vl 10 x := by
  rw [vl_append, vl_zeros, List.length_replicate, Nat.zero_add]
theorem from_step {l : List Nat} {k : Nat} (hk : k < l.length) : vl 1000000000 (l.take (k + 1)) = vl 1000000000 (l.take k) + 10 ^ (9 * k) * (l[k]?.getD 0) := by
  rw [take_snoc l k hk, vl_append, vl_one, List.length_take, Nat.min_eq_left (by omega), show (1000000000 : Nat) ^ k = 10 ^ (9 * k) by rw [show (1000000000 : Nat) = 10 ^ 9 by decide, ← Nat.pow_mul]]
theorem piece_step {x : List Nat} {i k : Nat} (hk : k ≤ 8) : vl 10 ((x.drop (i + k)).take (9 - k)) = x[i + k]?.getD 0 + 10 * vl 10 ((x.drop (i + k + 1)).take (8 - k)) := by
  rcases Nat.lt_or_ge (i + k) x.length with h | h
  · rw [drop_cons h, show 9 - k = (8 - k) + 1 by omega, List.take_succ_cons]; rfl
  · rw [List.drop_eq_nil_of_le (by omega), List.drop_eq_nil_of_le (by omega)]; simp [h, vl]
theorem piece_lt {x : List Nat} (hlo : Lo 10 x) (i n : Nat) : vl 10 ((x.drop i).take n) < 10 ^ n := by
  have h1 := vl_lt (b := 10) (l := (x.drop i).take n) (fun z hz => hlo z (List.mem_of_mem_drop (List.mem_of_mem_take hz)))
  have h2 : ((x.drop i).take n).length ≤ n := by rw [List.length_take]; exact Nat.min_le_left _ _
  exact Nat.lt_of_lt_of_le h1 (Nat.pow_le_pow_right (by omega) h2)
theorem nine_step {x : List Nat} {j : Nat} : vl 10 (x.drop (9 * j)) = vl 10 ((x.drop (9 * j)).take 9) + 1000000000 * vl 10 (x.drop (9 * (j + 1))) := by
  rcases Nat.le_total 9 (x.drop (9 * j)).length with h | h
  · have h1 := vl_drop (b := 10) (l := x.drop (9 * j)) (k := 9) h
    rw [List.drop_drop, show 9 * j + 9 = 9 * (j + 1) by omega, show (10 : Nat) ^ 9 = 1000000000 by decide] at h1
    exact h1
  · rw [List.take_of_length_le h]
    have : x.drop (9 * (j + 1)) = [] := List.drop_eq_nil_of_le (by simp at h; omega)
    rw [this, vl_nil]; omega
theorem to_step {x L : List Nat} {j : Nat} (hL : L.length = j) (h : vl 10 x = vl 1000000000 L + 1000000000 ^ j * vl 10 (x.drop (9 * j))) :
    vl 10 x = vl 1000000000 (L ++ [vl 10 ((x.drop (9 * j)).take 9)]) + 1000000000 ^ (j + 1) * vl 10 (x.drop (9 * (j + 1))) := by
  rw [h, nine_step, vl_append, vl_one, hL, Nat.pow_succ]
  rw [Nat.mul_add, Nat.mul_assoc, Nat.add_assoc]
theorem nDigits_le9 {x : Nat} (h : x < 1000000000) : Lib.nDigits x ≤ 9 := by
  rcases Nat.eq_zero_or_pos x with e | e
  · subst e; rw [Lib.nDigits_small (by omega)]; omega
  · rw [nDigits_len e]; exact dg_len_of_lt (by omega) (by rw [show (10 : Nat) ^ 9 = 1000000000 by decide]; exact h)
theorem to_end {v : Nat} {L : List Nat} (hlo : Lo 1000000000 L) (hv : vl 1000000000 L = v) (hlen : 9 * L.length < (dg 10 v).length + 9) (hlen2 : (dg 10 v).length ≤ 9 * L.length) : L = dg 1000000000 v := by
  have htr : tr L = dg 1000000000 v := by rw [tr_eq (by omega) hlo, hv]
  have hl : L.length = (dg 1000000000 v).length := by
    rcases Nat.eq_zero_or_pos v with e | e
    · subst e
      rw [dg_zero] at hlen
      rw [dg_zero]
      simp at hlen ⊢
      have : L.length = 0 := by omega
      exact List.eq_nil_of_length_eq_zero this
    · obtain ⟨h, hh⟩ : ∃ h, (dg 1000000000 v).length = h + 1 := ⟨(dg 1000000000 v).length - 1, by have : (dg 1000000000 v).length ≠ 0 := (by rw [dg_pos (by omega) e]; simp); omega⟩
      have h1 := nDigits_high hh
      have h2 := nDigits_le9 (x := (dg 1000000000 v)[h]?.getD 0) (Lo_get (Lo_dg (by omega) v) (by omega) h)
      have h3 := Lib.nDigits_pos ((dg 1000000000 v)[h]?.getD 0)
      omega
  have h2 := tr_take L
  rw [htr, ← hl, List.take_length] at h2
  exact h2.symm
end Go.Proofs.YtimfpgpomafflaaGreatDoor.LM

/- Plain mathematics: the document's difference, product, quotient, text, cut. Nothing of the program. -/
namespace Go.Proofs.YtimfpgpomafflaaGreatDoor.LM

theorem take10 (x : List Nat) (k : Nat) : vl 10 (x.take (k + 1)) = vl 10 (x.take k) + 10 ^ k * (x[k]?.getD 0) := by
  rcases Nat.lt_or_ge k x.length with h1 | h1
  · rw [take_snoc x k h1, vl_append, vl_one, List.length_take, Nat.min_eq_left (by omega)]
  · rw [List.take_of_length_le (by omega), List.take_of_length_le (by omega)]; simp [h1]

/-! The difference -/
theorem rsub_step {x y out : List Nat} {c c' k v : Nat} (ho : out.length = k) (hv : x[k]?.getD 0 + 10 * c' = v + (y[k]?.getD 0 + c))
    (h : vl 10 (x.take k) + 10 ^ k * c = vl 10 out + vl 10 (y.take k)) :
    vl 10 (x.take (k + 1)) + 10 ^ (k + 1) * c' = vl 10 (out ++ [v]) + vl 10 (y.take (k + 1)) := by
  rw [take10, take10, vl_append, vl_one, ho, Nat.pow_succ]
  generalize 10 ^ k = p at *
  have e1 : p * (x[k]?.getD 0) + p * 10 * c' = p * v + p * (y[k]?.getD 0) + p * c := by
    rw [Nat.mul_assoc, ← Nat.mul_add, hv, Nat.mul_add, Nat.mul_add, Nat.add_assoc]
  omega
theorem rsub_end {x y out : List Nat} {c : Nat} (ho : out.length = x.length) (hlo : Lo 10 out) (hy : y.length ≤ x.length) (hle : vl 10 y ≤ vl 10 x)
    (h : vl 10 (x.take x.length) + 10 ^ x.length * c = vl 10 out + vl 10 (y.take x.length)) : tr out = dg 10 (vl 10 x - vl 10 y) := by
  rw [List.take_length, List.take_of_length_le hy] at h
  have h1 := vl_lt hlo
  rw [ho] at h1
  have hc : c = 0 := by
    rcases Nat.eq_zero_or_pos c with e | e
    · exact e
    · have := Nat.le_mul_of_pos_right (10 ^ x.length) e; omega
  subst hc
  rw [Nat.mul_zero] at h
  rw [tr_eq (by omega) hlo, show vl 10 out = vl 10 x - vl 10 y by omega]

/-! The product -/
/-- a place raised -/
theorem vl_set {b : Nat} : ∀ {S : List Nat} {j z : Nat}, j < S.length → vl b (S.set j (S[j]?.getD 0 + z)) = vl b S + b ^ j * z := by
  intro S
  induction S with
  | nil => intro j z h; simp at h
  | cons s t ih =>
    intro j z h
    cases j with
    | zero => simp [vl]; omega
    | succ j =>
      simp only [List.length_cons] at h
      have := ih (j := j) (z := z) (by omega)
      simp only [List.set_cons_succ, vl, List.getElem?_cons_succ]
      rw [this, Nat.pow_succ, Nat.mul_add, Nat.mul_comm (b ^ j) b, Nat.mul_assoc, Nat.add_assoc]
/-- no sum is great -/
def Mb (i k : Nat) (S : List Nat) : Prop := ∀ j, S[j]?.getD 0 ≤ 81 * i + (if j < i + k then 81 else 0)
theorem Mb_zero (n : Nat) : Mb 0 0 (List.replicate n 0) := by
  intro j
  rcases Nat.lt_or_ge j n with h | h <;> simp [h]
theorem Mb_at {i k : Nat} {S : List Nat} (h : Mb i k S) : S[i + k]?.getD 0 ≤ 81 * i := by
  have := h (i + k); rwa [if_neg (by omega)] at this
theorem Mb_step {i k z : Nat} {S : List Nat} (h : Mb i k S) (hz : z ≤ 81) : Mb i (k + 1) (S.set (i + k) (S[i + k]?.getD 0 + z)) := by
  intro j
  by_cases hj : j = i + k
  · subst hj
    have := Mb_at h
    rw [if_pos (by omega)]
    rcases Nat.lt_or_ge (i + k) S.length with h1 | h1
    · rw [List.getElem?_set, if_pos rfl, if_pos h1]; simp only [Option.getD_some]; omega
    · rw [List.getElem?_set, if_pos rfl, if_neg (by omega)]; simp
  · rw [List.getElem?_set, if_neg (fun e => hj e.symm)]
    have := h j
    by_cases h2 : j < i + k
    · rw [if_pos h2] at this; rw [if_pos (by omega)]; exact this
    · rw [if_neg h2] at this; rw [if_neg (by omega)]; exact this
theorem Mb_next {i k : Nat} {S : List Nat} (h : Mb i k S) : Mb (i + 1) 0 S := by
  intro j
  have := h j
  by_cases h2 : j < i + k
  · rw [if_pos h2] at this; split <;> omega
  · rw [if_neg h2] at this; split <;> omega
theorem Mb_le {i : Nat} {S : List Nat} (h : Mb i 0 S) (j : Nat) : S[j]?.getD 0 ≤ 81 * (i + 1) := by
  have := h j; split at this <;> omega
theorem rmul_step {x y S : List Nat} {i k p q z : Nat} (hk : i + k < S.length) (hp : p = x[i]?.getD 0) (hq : q = y[k]?.getD 0) (hz : z = S[i + k]?.getD 0 + p * q)
    (h : vl 10 S = vl 10 (x.take i) * vl 10 y + 10 ^ i * (p * vl 10 (y.take k))) :
    vl 10 (S.set (i + k) z) = vl 10 (x.take i) * vl 10 y + 10 ^ i * (p * vl 10 (y.take (k + 1))) := by
  rw [hz, vl_set hk, h, take10, ← hq, Nat.mul_add p, Nat.mul_add (10 ^ i), Nat.pow_add]
  have : 10 ^ i * 10 ^ k * (p * q) = 10 ^ i * (p * (10 ^ k * q)) := by
    rw [Nat.mul_assoc, Nat.mul_left_comm (10 ^ k)]
  omega
theorem rmul_next {x y S : List Nat} {i p : Nat} (hp : p = x[i]?.getD 0) (h : vl 10 S = vl 10 (x.take i) * vl 10 y + 10 ^ i * (p * vl 10 (y.take y.length))) :
    vl 10 S = vl 10 (x.take (i + 1)) * vl 10 y := by
  rw [List.take_length] at h
  rw [h, take10, ← hp, Nat.add_mul, Nat.mul_assoc]
theorem rcar_step {S D : List Nat} {c i s : Nat} (hD : D.length = i) (hs : s = S[i]?.getD 0) (h : vl 10 (S.take i) = vl 10 D + 10 ^ i * c) :
    vl 10 (S.take (i + 1)) = vl 10 (D ++ [(c + s) % 10]) + 10 ^ (i + 1) * ((c + s) / 10) := by
  rw [take10, h, ← hs, vl_append, vl_one, hD, Nat.pow_succ]
  have e1 : 10 ^ i * ((c + s) % 10) + 10 ^ i * 10 * ((c + s) / 10) = 10 ^ i * c + 10 ^ i * s := by
    rw [Nat.mul_assoc, ← Nat.mul_add, Nat.mod_add_div, Nat.mul_add]
  omega
theorem rcar_end {x y S D : List Nat} {c n : Nat} (hx : Lo 10 x) (hy : Lo 10 y) (hS : S.length = n) (hn : n = x.length + y.length + 1) (hD : D.length = n) (hDl : Lo 10 D) (hv : vl 10 S = vl 10 (x.take x.length) * vl 10 y)
    (h : vl 10 (S.take n) = vl 10 D + 10 ^ n * c) : tr D = dg 10 (vl 10 x * vl 10 y) := by
  rw [← hS, List.take_length, hS, hv, List.take_length] at h
  have h1 := vl_lt hx
  have h2 := vl_lt hy
  have h3 : vl 10 x * vl 10 y < 10 ^ n := by
    have h4 : vl 10 x * vl 10 y < 10 ^ x.length * 10 ^ y.length := Nat.mul_lt_mul'' h1 h2
    rw [← Nat.pow_add] at h4
    exact Nat.lt_of_lt_of_le h4 (Nat.pow_le_pow_right (by omega) (by omega))
  have hc : c = 0 := by
    rcases Nat.eq_zero_or_pos c with e | e
    · exact e
    · have := Nat.le_mul_of_pos_right (10 ^ n) e; omega
  subst hc
  rw [Nat.mul_zero, Nat.add_zero] at h
  rw [tr_eq (by omega) hDl, ← h]
theorem fill_set {D : List Nat} {z v : Nat} : (D ++ List.replicate (z + 1) 0).set D.length v = (D ++ [v]) ++ List.replicate z 0 := by
  rw [List.set_append, if_neg (by omega), Nat.sub_self, List.replicate_succ, List.set_cons_zero]; simp

/-! The cut -/
theorem dg_drop {b : Nat} (hb : 2 ≤ b) : ∀ n v, (dg b v).drop n = dg b (v / b ^ n) := by
  intro n
  induction n with
  | zero => intro v; simp
  | succ n ih =>
    intro v
    rcases Nat.eq_zero_or_pos v with h | h
    · subst h; rw [dg_zero, Nat.zero_div, dg_zero]; simp
    · rw [dg_pos hb h, List.drop_succ_cons, ih, Nat.pow_succ, Nat.mul_comm, Nat.div_div_eq_div_mul]
theorem tr_low {b : Nat} (hb : 2 ≤ b) {n v : Nat} (h : n ≤ (dg b v).length) : tr ((dg b v).take n) = dg b (v % b ^ n) := by
  have hlo : Lo b ((dg b v).take n) := fun z hz => Lo_dg hb v z (List.mem_of_mem_take hz)
  have h1 := vl_drop (b := b) h
  have h2 := vl_lt hlo
  rw [List.length_take, Nat.min_eq_left h] at h2
  rw [vl_dg hb] at h1
  have e : v % b ^ n = vl b ((dg b v).take n) := by
    generalize vl b ((dg b v).take n) = p at *
    generalize vl b ((dg b v).drop n) = q at *
    rw [h1, Nat.add_mul_mod_self_left, Nat.mod_eq_of_lt h2]
  rw [tr_eq hb hlo, e]
theorem low_all {b : Nat} (hb : 2 ≤ b) {n v : Nat} (h : (dg b v).length ≤ n) : v / b ^ n = 0 ∧ v % b ^ n = v := by
  have h1 : v < b ^ n := Nat.lt_of_lt_of_le (dg_upper hb v) (Nat.pow_le_pow_right (by omega) h)
  exact ⟨Nat.div_eq_of_lt h1, Nat.mod_eq_of_lt h1⟩

/-! The quotient -/
theorem rdiv_in {r z : Nat} (hz : z < 10) : tr (z :: dg 10 r) = dg 10 (z + 10 * r) := by
  have hlo : Lo 10 (z :: dg 10 r) := by
    intro y hy
    rcases List.mem_cons.1 hy with rfl | hy
    · exact hz
    · exact Lo_dg (by omega) r y hy
  rw [tr_eq (by omega) hlo, vl, vl_dg (by omega)]
theorem drop10 {x : List Nat} {k : Nat} (h : k < x.length) : vl 10 (x.drop k) = x[k]?.getD 0 + 10 * vl 10 (x.drop (k + 1)) := by rw [drop_cons h, vl]
theorem rdiv_round {x : List Nat} {i u z q r t s : Nat} (hi : i < x.length) (hz : z = x[i]?.getD 0) (h : vl 10 (x.drop (i + 1)) = q * u + r) (hts : t * u + s = z + 10 * r) :
    vl 10 (x.drop i) = (t + 10 * q) * u + s := by
  rw [drop10 hi, ← hz, h, Nat.add_mul, Nat.mul_add, Nat.mul_assoc]; omega
theorem rdiv_end {v u q r : Nat} (h : v = q * u + r) (hr : r < u) : q = v / u ∧ r = v % u := by
  constructor
  · rw [h, Nat.mul_comm, Nat.mul_add_div (by omega), Nat.div_eq_of_lt hr, Nat.add_zero]
  · rw [h, Nat.mul_comm, Nat.mul_add_mod, Nat.mod_eq_of_lt hr]
theorem rdiv_nine {u t s z r : Nat} (hr : r < u) (hz : z < 10) (hts : t * u + s = z + 10 * r) (hge : u ≤ s) : t + 1 ≤ 9 := by
  rcases Nat.lt_or_ge t 9 with h | h
  · omega
  · exfalso
    have : 9 * u ≤ t * u := Nat.mul_le_mul_right _ h
    omega
theorem rdiv_less {u t s : Nat} (hge : u ≤ s) : (t + 1) * u + (s - u) = t * u + s := by rw [Nat.add_mul]; omega
/-- q's places -/
theorem q_set {k t v : Nat} {D : List Nat} : (List.replicate k 0 ++ t :: D).set k v = List.replicate k 0 ++ v :: D := by
  rw [List.set_append, if_neg (by simp)]; simp
theorem q_get {k t : Nat} {D : List Nat} : (List.replicate k 0 ++ t :: D)[k]?.getD 0 = t := by
  rw [List.getElem?_append_right (by simp)]; simp
theorem q_open {k : Nat} {D : List Nat} : List.replicate (k + 1) 0 ++ D = List.replicate k 0 ++ 0 :: D := by
  rw [List.replicate_succ']; simp

/-! The text -/
theorem text_set {n k v : Nat} {T : List Nat} (h : k < n) : (List.replicate (n - k) 0 ++ T).set (n - 1 - k) v = List.replicate (n - (k + 1)) 0 ++ v :: T := by
  rw [show n - k = (n - (k + 1)) + 1 by omega, show n - 1 - k = n - (k + 1) by omega, q_open, q_set]
/-- the first k digits as signs, the highest first -/
def rsig (x : List Nat) (k : Nat) : List Nat := ((x.take k).map (fun d => 48 + d)).reverse
theorem rsig_length {x : List Nat} {k : Nat} (h : k ≤ x.length) : (rsig x k).length = k := by simp [rsig]; omega
theorem rsig_step {x : List Nat} {k : Nat} (h : k < x.length) : rsig x (k + 1) = (48 + x[k]?.getD 0) :: rsig x k := by
  unfold rsig; rw [take_snoc x k h]; simp
theorem rsig_all {v : Nat} (h : 0 < v) : rsig (dg 10 v) (dg 10 v).length = (Lib.decDigits v).map (fun (b : UInt8) => b.toNat) := by
  unfold rsig
  rw [dec_text, if_neg (by omega), List.take_length, List.map_map, List.map_reverse]
  congr 1
  apply List.map_congr_left
  intro d hd
  have := Lo_dg (b := 10) (by omega) v d hd
  simp; omega
end Go.Proofs.YtimfpgpomafflaaGreatDoor.LM

/- Plain mathematics of exact decimals: noughts at the end, the plain one of a worth, what fits. Nothing of the program. -/
namespace Go.Proofs.YtimfpgpomafflaaGreatDoor.LM

/-- how many noughts a number's digits end with -/
def tz (n : Nat) : Nat := if _h : 0 < n ∧ n % 10 = 0 then tz (n / 10) + 1 else 0
termination_by n
decreasing_by exact Nat.div_lt_self _h.1 (by omega)
theorem tz_no {n : Nat} (h : n % 10 ≠ 0) : tz n = 0 := by rw [tz]; simp [h]
theorem tz_zero : tz 0 = 0 := by rw [tz]; simp
theorem tz_yes {n : Nat} (h0 : 0 < n) (h : n % 10 = 0) : tz n = tz (n / 10) + 1 := by rw [tz]; simp [h0, h]
theorem tz_mul {m : Nat} (hm : 0 < m) : ∀ k, tz (m * 10 ^ k) = tz m + k := by
  intro k
  induction k with
  | zero => simp
  | succ k ih =>
    have hp : 0 < 10 ^ k := Nat.pow_pos (by omega)
    have hmp : 0 < m * 10 ^ k := Nat.mul_pos hm hp
    rw [Nat.pow_succ, ← Nat.mul_assoc, tz_yes (by omega) (Nat.mul_mod_left _ _), Nat.mul_div_left _ (by omega), ih]; omega
theorem tz_plain {m : Nat} (hm : m % 10 ≠ 0) (k : Nat) : tz (m * 10 ^ k) = k := by rw [tz_mul (by omega), tz_no hm, Nat.zero_add]
/-- a number without its noughts at the end -/
def core (n : Nat) : Nat := n / 10 ^ tz n
theorem core_zero : core 0 = 0 := by unfold core; rw [Nat.zero_div]
theorem tz_spec : ∀ n, 0 < n → core n % 10 ≠ 0 ∧ core n * 10 ^ tz n = n := by
  intro n
  induction n using Nat.strongRecOn with
  | _ n ih =>
    intro hn
    unfold core
    by_cases h : n % 10 = 0
    · have h1 := ih (n / 10) (by omega) (by omega)
      unfold core at h1
      rw [tz_yes hn h, Nat.pow_succ, Nat.mul_comm (10 ^ tz (n / 10)) 10, ← Nat.div_div_eq_div_mul]
      refine ⟨h1.1, ?_⟩
      rw [Nat.mul_left_comm, h1.2]; omega
    · rw [tz_no h]; simp [h]
theorem core_plain {m : Nat} (hm : m % 10 ≠ 0) (k : Nat) : core (m * 10 ^ k) = m := by
  unfold core; rw [tz_plain hm, Nat.mul_div_cancel _ (Nat.pow_pos (by omega))]
theorem core_pos {n : Nat} (h : 0 < n) : 0 < core n := by have := (tz_spec n h).1; omega
theorem core_le (n : Nat) : core n ≤ n := Nat.div_le_self _ _
theorem tz_lt {n M : Nat} (h0 : 0 < n) (h : n < 10 ^ M) : tz n < M := by
  have h1 := (tz_spec n h0).2
  have h2 := core_pos h0
  rcases Nat.lt_or_ge (tz n) M with h3 | h3
  · exact h3
  · exfalso
    have h4 : 10 ^ M ≤ 10 ^ tz n := Nat.pow_le_pow_right (by omega) h3
    have h5 := Nat.le_mul_of_pos_left (10 ^ tz n) h2
    omega

/-- a number in sign, digits' worth, and power -/
structure Pl where
  neg : Bool
  m : Nat
  e : Int
def zP : Pl := ⟨false, 0, 0⟩
/-- the plain one -/
def pl (s : Bool) (v : Nat) (e : Int) : Pl := if v = 0 then zP else ⟨s, core v, e + tz v⟩
def dl (m : Nat) : Nat := (dg 10 m).length
def inR (p : Pl) : Bool := decide (dl p.m ≤ 400 ∧ -10000 ≤ p.e + dl p.m - 1 ∧ p.e + dl p.m - 1 ≤ 10000)
/-- an answer: an error's number, and a number -/
structure Ans where
  err : Nat
  p : Pl
def tellA (s : Bool) (v : Nat) (e : Int) : Ans := if inR (pl s v e) = true then ⟨0, pl s v e⟩ else ⟨3, zP⟩
def nearB (n : Nat) (e : Int) : Bool := decide (n ≤ 200 ∧ -30000 ≤ e ∧ e ≤ 30000)
def normA (n : Nat) (s : Bool) (v : Nat) (e : Int) : Ans := if nearB n e = true then tellA s v e else ⟨1, zP⟩
/-- is plain -/
def PlainP (p : Pl) : Prop := (p.m = 0 ∧ p = zP) ∨ p.m % 10 ≠ 0
theorem pl_plain (s : Bool) (v : Nat) (e : Int) : PlainP (pl s v e) := by
  unfold pl
  by_cases h : v = 0
  · rw [if_pos h]; exact .inl ⟨rfl, rfl⟩
  · rw [if_neg h]; exact .inr (tz_spec v (by omega)).1
theorem pl_of_plain {p : Pl} (h : PlainP p) : pl p.neg p.m p.e = p := by
  unfold pl
  rcases h with ⟨h0, h1⟩ | h
  · rw [if_pos h0, h1]
  · rw [if_neg (by omega)]
    have e1 : core p.m = p.m := by have := core_plain h 0; simpa using this
    rw [e1, tz_no h]; simp
theorem zP_in : inR zP = true := by
  unfold inR zP dl
  rw [dg_zero]; rfl
theorem inR_bounds {p : Pl} (h : inR p = true) : dl p.m ≤ 400 ∧ -10400 ≤ p.e ∧ p.e ≤ 10001 := by
  unfold inR at h
  have := of_decide_eq_true h
  omega
theorem tellA_in (s : Bool) (v : Nat) (e : Int) : inR (tellA s v e).p = true := by
  unfold tellA
  by_cases h : inR (pl s v e) = true
  · rw [if_pos h]; exact h
  · rw [if_neg h]; exact zP_in
theorem tellA_plain (s : Bool) (v : Nat) (e : Int) : PlainP (tellA s v e).p := by
  unfold tellA
  by_cases h : inR (pl s v e) = true
  · rw [if_pos h]; exact pl_plain _ _ _
  · rw [if_neg h]; exact .inl ⟨rfl, rfl⟩
theorem normA_in (n : Nat) (s : Bool) (v : Nat) (e : Int) : inR (normA n s v e).p = true := by
  unfold normA
  split
  · exact tellA_in _ _ _
  · exact zP_in
theorem normA_plain (n : Nat) (s : Bool) (v : Nat) (e : Int) : PlainP (normA n s v e).p := by
  unfold normA
  split
  · exact tellA_plain _ _ _
  · exact .inl ⟨rfl, rfl⟩
theorem Ans.z_of_err {n : Nat} {s : Bool} {v : Nat} {e : Int} (h : (normA n s v e).err ≠ 0) : (normA n s v e).p = zP := by
  unfold normA tellA at *
  split at h
  · rename_i h1
    rw [if_pos h1]
    split at h
    · exact absurd rfl h
    · rename_i h2; rw [if_neg h2]
  · rename_i h1; rw [if_neg h1]

/-! Noughts at the end of limbs. -/
theorem tz_limbs {l : List Nat} {k : Nat} (hk : k < l.length) (hz : ∀ j, j < k → l[j]?.getD 0 = 0) (hne : l[k]?.getD 0 ≠ 0) (hlo : Lo 1000000000 l) : tz (vl 1000000000 l) = 9 * k + tz (l[k]?.getD 0) := by
  have h1 : ∀ j, j ≤ k → vl 1000000000 (l.take j) = 0 := by
    intro j
    induction j with
    | zero => intro _; rfl
    | succ j ih => intro hj; rw [take_snoc l j (by omega), vl_append, ih (by omega), vl_one, hz j (by omega)]; simp
  have h2 := vl_drop (b := 1000000000) (l := l) (k := k) (by omega)
  rw [h1 k (Nat.le_refl _), Nat.zero_add, vl_drop_step hk] at h2
  have hx := Lo_get hlo (by omega) k
  generalize l[k]?.getD 0 = x at *
  generalize vl 1000000000 (l.drop (k + 1)) = r at *
  rw [h2, show (1000000000 : Nat) ^ k = 10 ^ (9 * k) by rw [show (1000000000 : Nat) = 10 ^ 9 by decide, ← Nat.pow_mul], Nat.mul_comm, tz_mul (by omega)]
  obtain ⟨c1, c2⟩ := tz_spec x (by omega)
  have ht : tz x < 9 := tz_lt (M := 9) (by omega) (by rw [show (10 : Nat) ^ 9 = 1000000000 by decide]; exact hx)
  have e : x + 1000000000 * r = (core x + 10 ^ (9 - tz x) * r) * 10 ^ tz x := by
    rw [Nat.add_mul, c2, Nat.mul_right_comm, ← Nat.pow_add, show 9 - tz x + tz x = 9 by omega, show (10 : Nat) ^ 9 = 1000000000 by decide]
  have hmod : (core x + 10 ^ (9 - tz x) * r) % 10 ≠ 0 := by
    obtain ⟨q, hq⟩ : ∃ q, 9 - tz x = q + 1 := ⟨9 - tz x - 1, by omega⟩
    rw [hq, Nat.pow_succ, Nat.mul_comm (10 ^ q) 10, Nat.mul_assoc, Nat.add_mul_mod_self_left]; exact c1
  rw [e, tz_plain hmod]; omega
end Go.Proofs.YtimfpgpomafflaaGreatDoor.LM

/- Plain mathematics of rounded quotients. Nothing of the program. -/
namespace Go.Proofs.YtimfpgpomafflaaGreatDoor
open Go.RowKit LM

/-- is a quotient q, rest r by d, rounded away from 0: ways 0 to zero, 1 down, 2 up, 3 to the nearest, 4 to even -/
def away (way : Nat) (neg : Bool) (q r d : Nat) : Bool :=
  if way = 0 then false else if way = 1 then neg && decide (r ≠ 0) else if way = 2 then !neg && decide (r ≠ 0)
  else if way = 3 then decide (d ≤ 2 * r) else if 2 * r = d then decide (q % 2 = 1) else decide (d ≤ 2 * r)
def rnd (way : Nat) (neg : Bool) (q r d : Nat) : Nat := if away way neg q r d = true then q + 1 else q
theorem rnd_le (way : Nat) (neg : Bool) (q r d : Nat) : rnd way neg q r d ≤ q + 1 := by unfold rnd; split <;> omega
/-- a number's places behind the point -/
def plc (p : Pl) : Nat := (-p.e).toNat
def cutV (way : Nat) (p : Pl) : Nat := rnd way p.neg (p.m / 10 ^ plc p) (p.m % 10 ^ plc p) (10 ^ plc p)
/-- a plain number, rounded -/
def cutP (way : Nat) (p : Pl) : Pl := if 0 ≤ p.e then p else pl p.neg (cutV way p) 0

theorem dl_lt {m K : Nat} (h : m < 10 ^ K) : dl m ≤ K := by
  rcases Nat.eq_zero_or_pos m with h0 | h0
  · subst h0; unfold dl; rw [dg_zero]; exact Nat.zero_le _
  · have h1 := dg_lower (b := 10) (by omega) m h0
    have h2 : 10 ^ ((dg 10 m).length - 1) < 10 ^ K := Nat.lt_of_le_of_lt h1 h
    have h3 := (Nat.pow_lt_pow_iff_right (by omega : 1 < 10)).1 h2
    unfold dl; omega
theorem lt_dl (m : Nat) : m < 10 ^ dl m := dg_upper (b := 10) (by omega) m
theorem dl_core {v : Nat} (h : 0 < v) : dl (core v) + tz v = dl v := by
  have h1 := tz_spec v h
  have h2 := core_pos h
  unfold dl
  have h3 := dg_lower (b := 10) (by omega) (core v) h2
  have h4 := dg_upper (b := 10) (by omega) (core v)
  have h5 := dg_lower (b := 10) (by omega) v h
  have h6 := dg_upper (b := 10) (by omega) v
  have h7 : 0 < (dg 10 (core v)).length := by rw [dg_pos (by omega) h2]; simp
  have h8 : 0 < (dg 10 v).length := by rw [dg_pos (by omega) h]; simp
  have e : v = core v * 10 ^ tz v := h1.2.symm
  have a1 : 10 ^ ((dg 10 (core v)).length - 1 + tz v) ≤ v := by
    rw [Nat.pow_add]
    conv => rhs; rw [e]
    exact Nat.mul_le_mul_right _ h3
  have a2 : v < 10 ^ ((dg 10 (core v)).length + tz v) := by
    rw [Nat.pow_add]
    conv => lhs; rw [e]
    exact Nat.mul_lt_mul_of_pos_right h4 (Nat.pow_pos (by omega))
  have b1 := (Nat.pow_lt_pow_iff_right (by omega : 1 < 10)).1 (Nat.lt_of_le_of_lt a1 h6)
  have b2 := (Nat.pow_lt_pow_iff_right (by omega : 1 < 10)).1 (Nat.lt_of_le_of_lt h5 a2)
  omega
/-- a whole number of few digits may be -/
theorem whole_in {s : Bool} {v : Nat} (h : dl v ≤ 400) : inR (pl s v 0) = true := by
  unfold pl
  rcases Nat.eq_zero_or_pos v with h0 | h0
  · rw [if_pos h0]; exact zP_in
  · rw [if_neg (by omega)]
    have h1 := dl_core h0
    have h2 : 1 ≤ dl (core v) := by unfold dl; rw [dg_pos (by omega) (core_pos h0)]; simp
    unfold inR
    exact decide_eq_true ⟨by simp only; omega, by simp only; omega, by simp only; omega⟩
theorem tell_whole {s : Bool} {v : Nat} (h : dl v ≤ 400) : tellA s v 0 = ⟨0, pl s v 0⟩ := by
  unfold tellA; rw [if_pos (whole_in h)]
theorem cut_few {way : Nat} {s : Bool} {m k N : Nat} (h1 : dl m ≤ N + 1) (h4 : 1 ≤ k) : dl (rnd way s (m / 10 ^ k) (m % 10 ^ k) (10 ^ k)) ≤ N + 1 := by
  have h2 := lt_dl m
  have h3 : m < 10 ^ (N + 1) := Nat.lt_of_lt_of_le h2 (Nat.pow_le_pow_right (by omega) h1)
  have h5 : m / 10 ^ k ≤ m / 10 ^ 1 := Nat.div_le_div_left (Nat.pow_le_pow_right (by omega) h4) (by omega)
  have h6 : m / 10 ^ 1 < 10 ^ N := Nat.div_lt_of_lt_mul (by rw [← Nat.pow_add, Nat.add_comm 1 N]; exact h3)
  have h7 := rnd_le way s (m / 10 ^ k) (m % 10 ^ k) (10 ^ k)
  refine dl_lt ?_
  have h8 : (10 : Nat) ^ (N + 1) = 10 ^ N * 10 := Nat.pow_succ ..
  rw [h8]
  omega
theorem cutV_few {way : Nat} {p : Pl} (hin : inR p = true) (he : p.e < 0) : dl (cutV way p) ≤ 400 :=
  cut_few (N := 399) (inR_bounds hin).1 (by unfold plc; omega)
theorem cutP_in {way : Nat} {p : Pl} (hin : inR p = true) : inR (cutP way p) = true := by
  unfold cutP
  by_cases h : 0 ≤ p.e
  · rw [if_pos h]; exact hin
  · rw [if_neg h]; exact whole_in (cutV_few hin (by omega))
theorem cutP_plain {way : Nat} {p : Pl} (hp : PlainP p) : PlainP (cutP way p) := by
  unfold cutP
  by_cases h : 0 ≤ p.e
  · rw [if_pos h]; exact hp
  · rw [if_neg h]; exact pl_plain _ _ _
/-- what is rounded is whole -/
theorem cutP_whole (way : Nat) (p : Pl) : 0 ≤ (cutP way p).e := by
  unfold cutP
  by_cases h : 0 ≤ p.e
  · rw [if_pos h]; exact h
  · rw [if_neg h]
    unfold pl
    split
    · exact Int.le_refl _
    · simp only; omega
end Go.Proofs.YtimfpgpomafflaaGreatDoor
