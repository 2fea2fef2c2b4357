/- Plain mathematics of digit lists: worth of a list in a base, the plain list of a number, trimming. Nothing of the program. -/
import Derived.WalkKit
import Derived.Lib.ItoaNum
set_option linter.unusedVariables false
set_option linter.unusedSimpArgs false
namespace Go.Proofs.YtpgiljibicigeaaGreatDoor.LM

/-- worth of a list in base b, lowest first -/
def vl (b : Nat) : List Nat → Nat
  | [] => 0
  | x :: t => x + b * vl b t

/-- the plain list of a number -/
def dg (b : Nat) (n : Nat) : List Nat :=
  if _h : 2 ≤ b ∧ 0 < n then n % b :: dg b (n / b) else []
termination_by n
decreasing_by exact Nat.div_lt_self _h.2 (by omega)

/-- without noughts at the high end -/
def tr : List Nat → List Nat
  | [] => []
  | x :: t => if x = 0 ∧ tr t = [] then [] else x :: tr t

/-- all below b -/
def Lo (b : Nat) (l : List Nat) : Prop := ∀ x ∈ l, x < b

theorem dg_zero (b : Nat) : dg b 0 = [] := by rw [dg]; simp
theorem dg_pos {b n : Nat} (hb : 2 ≤ b) (hn : 0 < n) : dg b n = n % b :: dg b (n / b) := by rw [dg]; simp [hb, hn]

theorem vl_dg {b : Nat} (hb : 2 ≤ b) : ∀ n, vl b (dg b n) = n := by
  intro n
  induction n using Nat.strongRecOn with
  | _ n ih =>
    by_cases h : 0 < n
    · rw [dg_pos hb h]; simp only [vl]; rw [ih (n / b) (Nat.div_lt_self h (by omega))]; exact Nat.mod_add_div n b
    · have : n = 0 := by omega
      subst this; rw [dg_zero]; rfl

theorem Lo_dg {b : Nat} (hb : 2 ≤ b) : ∀ n, Lo b (dg b n) := by
  intro n
  induction n using Nat.strongRecOn with
  | _ n ih =>
    by_cases h : 0 < n
    · rw [dg_pos hb h]; intro x hx; rcases List.mem_cons.1 hx with rfl | hx
      · exact Nat.mod_lt _ (by omega)
      · exact ih (n / b) (Nat.div_lt_self h (by omega)) x hx
    · have : n = 0 := by omega
      subst this; rw [dg_zero]; intro x hx; cases hx

theorem vl_tr (b : Nat) : ∀ l, vl b (tr l) = vl b l := by
  intro l
  induction l with
  | nil => rfl
  | cons x t ih =>
    simp only [tr]
    split
    · rename_i h
      rw [h.2] at ih
      simp only [vl] at ih ⊢
      rw [← ih, h.1]; simp
    · simp only [vl]; rw [ih]

/-- trimming a list of digits makes the plain list of its worth -/
theorem tr_eq {b : Nat} (hb : 2 ≤ b) : ∀ {l}, Lo b l → tr l = dg b (vl b l) := by
  intro l
  induction l with
  | nil => intro _; simp [tr, vl, dg_zero]
  | cons x t ih =>
    intro h
    have hx : x < b := h _ (List.mem_cons_self ..)
    have ht := ih (fun z hz => h z (List.mem_cons_of_mem _ hz))
    simp only [tr, vl]
    by_cases hz : x = 0 ∧ tr t = []
    · rw [if_pos hz]
      have h0 : vl b t = 0 := by rw [← vl_tr, hz.2]; rfl
      rw [hz.1, h0]; simp [dg_zero]
    · rw [if_neg hz]
      have hpos : 0 < x + b * vl b t := by
        by_cases h0 : x = 0
        · have : tr t ≠ [] := fun e => hz ⟨h0, e⟩
          have hv : 0 < vl b t := by
            rcases Nat.eq_zero_or_pos (vl b t) with e | e
            · rw [ht, e, dg_zero] at this; exact absurd rfl this
            · exact e
          have := Nat.mul_pos (show 0 < b by omega) hv
          omega
        · omega
      rw [dg_pos hb hpos, Nat.add_mul_mod_self_left, Nat.mod_eq_of_lt hx, Nat.add_mul_div_left _ _ (by omega : 0 < b), Nat.div_eq_of_lt hx, Nat.zero_add, ht]

theorem tr_dg {b : Nat} (hb : 2 ≤ b) (n : Nat) : tr (dg b n) = dg b n := by rw [tr_eq hb (Lo_dg hb n), vl_dg hb]

theorem vl_append (b : Nat) : ∀ l m, vl b (l ++ m) = vl b l + b ^ l.length * vl b m := by
  intro l m
  induction l with
  | nil => simp [vl]
  | cons x t ih => simp only [List.cons_append, vl, ih, List.length_cons, Nat.pow_succ]; rw [Nat.mul_add, ← Nat.add_assoc, ← Nat.mul_assoc, Nat.mul_comm b (b ^ t.length)]

theorem vl_lt {b : Nat} : ∀ {l}, Lo b l → vl b l < b ^ l.length := by
  intro l
  induction l with
  | nil => intro _; simp [vl]
  | cons x t ih =>
    intro h
    have hx : x < b := h _ (List.mem_cons_self ..)
    have ht := ih (fun z hz => h z (List.mem_cons_of_mem _ hz))
    simp only [vl, List.length_cons, Nat.pow_succ]
    have h1 : b * vl b t + b ≤ b * b ^ t.length := by
      have := Nat.mul_le_mul_left b (show vl b t + 1 ≤ b ^ t.length from ht)
      rw [Nat.mul_add, Nat.mul_one] at this; exact this
    rw [Nat.mul_comm (b ^ t.length) b]; omega

theorem Lo_append {b : Nat} {l m : List Nat} (h : Lo b l) (k : Lo b m) : Lo b (l ++ m) := by
  intro x hx; rcases List.mem_append.1 hx with hx | hx
  · exact h x hx
  · exact k x hx
theorem Lo_one {b x : Nat} (h : x < b) : Lo b [x] := by intro y hy; simp at hy; omega
theorem Lo_nil (b : Nat) : Lo b [] := by intro y hy; cases hy
theorem tr_take : ∀ l, tr l = l.take (tr l).length := by
  intro l
  induction l with
  | nil => simp [tr]
  | cons x t ih =>
    simp only [tr]; split
    · simp
    · simp only [List.length_cons, List.take_succ_cons]; rw [← ih]

theorem tr_snoc_zero : ∀ l, tr (l ++ [0]) = tr l := by
  intro l
  induction l with
  | nil => simp [tr]
  | cons x t ih => simp only [List.cons_append, tr, ih]
theorem tr_snoc_pos {x : Nat} (h : x ≠ 0) : ∀ l, tr (l ++ [x]) = l ++ [x] := by
  intro l
  induction l with
  | nil => simp [tr, h]
  | cons y t ih => simp only [List.cons_append, tr, ih]; rw [if_neg (by simp)]

theorem dg_inj {b m n : Nat} (hb : 2 ≤ b) : dg b m = dg b n ↔ m = n := ⟨fun h => by rw [← vl_dg hb m, h, vl_dg hb], fun h => by rw [h]⟩

theorem dg_eq_nil {b n : Nat} (hb : 2 ≤ b) : dg b n = [] ↔ n = 0 := by
  rw [← dg_zero b, dg_inj hb]

theorem vl_nil (b : Nat) : vl b [] = 0 := rfl
theorem vl_one (b x : Nat) : vl b [x] = x := by simp [vl]
theorem take_snoc (l : List Nat) (k : Nat) (h : k < l.length) : l.take (k + 1) = l.take k ++ [l[k]?.getD 0] := by
  rw [List.take_add_one, List.getElem?_eq_getElem h]; simp
/-- a step of trimming, from the high end -/
theorem tr_step {l : List Nat} {k : Nat} (h : k < l.length) (h0 : l[k]?.getD 0 = 0) : tr (l.take k) = tr (l.take (k + 1)) := by rw [take_snoc l k h, h0, tr_snoc_zero]
theorem tr_end {l : List Nat} {k : Nat} (h : k < l.length) (h0 : l[k]?.getD 0 ≠ 0) : tr (l.take (k + 1)) = l.take (k + 1) := by rw [take_snoc l k h, tr_snoc_pos h0]

/-! Making plain. -/
def ncar (l : List Nat) : Nat → Nat
  | 0 => 0
  | k + 1 => (l[k]?.getD 0 + ncar l k) / 1000000000
def nlow (l : List Nat) : Nat → List Nat
  | 0 => []
  | k + 1 => nlow l k ++ [(l[k]?.getD 0 + ncar l k) % 1000000000]
theorem nlow_length (l : List Nat) : ∀ k, (nlow l k).length = k := by
  intro k; induction k with
  | zero => rfl
  | succ k ih => simp [nlow, ih]
theorem Lo_get {M : Nat} {l : List Nat} (h : Lo M l) (hM : 0 < M) (k : Nat) : l[k]?.getD 0 < M := by
  rcases Nat.lt_or_ge k l.length with h1 | h1
  · have := h (l[k]) (List.getElem_mem h1); simpa [h1] using this
  · simp [h1]; exact hM
theorem ncar_le {l : List Nat} (h : Lo 4294967296 l) : ∀ k, ncar l k ≤ 4 := by
  intro k; induction k with
  | zero => simp [ncar]
  | succ k ih => have := Lo_get h (by omega) k; simp only [ncar]; omega
theorem Lo_nlow (l : List Nat) : ∀ k, Lo 1000000000 (nlow l k) := by
  intro k; induction k with
  | zero => exact Lo_nil _
  | succ k ih => exact Lo_append ih (Lo_one (Nat.mod_lt _ (by omega)))
theorem nlow_worth (l : List Nat) : ∀ k, k ≤ l.length → vl 1000000000 (l.take k) = vl 1000000000 (nlow l k) + 1000000000 ^ k * ncar l k := by
  intro k; induction k with
  | zero => intro _; simp [nlow, ncar, vl]
  | succ k ih =>
    intro hk
    rw [take_snoc l k (by omega), vl_append, ih (by omega), vl_one, List.length_take, Nat.min_eq_left (by omega : k ≤ l.length)]
    simp only [nlow, ncar]
    rw [vl_append, nlow_length, vl_one, Nat.pow_succ]
    have e1 : ∀ (p x c : Nat), p * ((x + c) % 1000000000) + p * 1000000000 * ((x + c) / 1000000000) = p * c + p * x := by
      intro p x c
      rw [Nat.mul_assoc, ← Nat.mul_add, Nat.mod_add_div, Nat.mul_add, Nat.add_comm]
    have := e1 (1000000000 ^ k) (l[k]?.getD 0) (ncar l k)
    omega
theorem norm_eq {l : List Nat} (h : Lo 4294967296 l) : tr (nlow l l.length ++ [ncar l l.length]) = dg 1000000000 (vl 1000000000 l) := by
  have hc := ncar_le h l.length
  rw [tr_eq (by omega) (Lo_append (Lo_nlow l _) (Lo_one (by omega))), vl_append, nlow_length, vl_one, ← nlow_worth l l.length (Nat.le_refl _), List.take_length]
end Go.Proofs.YtpgiljibicigeaaGreatDoor.LM

/- Plain mathematics: order of digit lists, taking off, adding. Nothing of the program. -/
namespace Go.Proofs.YtpgiljibicigeaaGreatDoor.LM

theorem dg_lower {b : Nat} (hb : 2 ≤ b) : ∀ n, 0 < n → b ^ ((dg b n).length - 1) ≤ n := by
  intro n
  induction n using Nat.strongRecOn with
  | _ n ih =>
    intro hn
    rw [dg_pos hb hn]
    simp only [List.length_cons, Nat.add_sub_cancel]
    rcases Nat.eq_zero_or_pos (n / b) with h0 | h0
    · rw [h0, dg_zero]; simp; omega
    · have h1 := ih (n / b) (Nat.div_lt_self hn (by omega)) h0
      have h2 : (dg b (n / b)).length = ((dg b (n / b)).length - 1) + 1 := by
        have : (dg b (n / b)).length ≠ 0 := by rw [dg_pos hb h0]; simp
        omega
      rw [h2, Nat.pow_succ]
      exact Nat.le_trans (Nat.mul_le_mul_right b h1) (Nat.div_mul_le_self n b)
theorem dg_upper {b : Nat} (hb : 2 ≤ b) (n : Nat) : n < b ^ (dg b n).length := by
  have := vl_lt (Lo_dg hb n); rw [vl_dg hb] at this; exact this
theorem dg_len_lt {b m n : Nat} (hb : 2 ≤ b) (h : (dg b m).length < (dg b n).length) : m < n := by
  have h1 := dg_upper hb m
  have h0 : 0 < n := by
    rcases Nat.eq_zero_or_pos n with e | e
    · subst e; rw [dg_zero] at h; simp at h
    · exact e
  have h2 := dg_lower hb n h0
  have h3 : b ^ (dg b m).length ≤ b ^ ((dg b n).length - 1) := Nat.pow_le_pow_right (by omega) (by omega)
  omega
theorem dg_len_le {b m n : Nat} (hb : 2 ≤ b) (h : m ≤ n) : (dg b m).length ≤ (dg b n).length := by
  rcases Nat.lt_or_ge (dg b n).length (dg b m).length with h1 | h1
  · have := dg_len_lt hb h1; omega
  · exact h1
/-- so many limbs at most -/
theorem dg_len_of_lt {b n k : Nat} (hb : 2 ≤ b) (h : n < b ^ k) : (dg b n).length ≤ k := by
  rcases Nat.eq_zero_or_pos n with e | e
  · subst e; rw [dg_zero]; simp
  · rcases Nat.lt_or_ge k (dg b n).length with h1 | h1
    · have h2 := dg_lower hb n e
      have h3 : b ^ k ≤ b ^ ((dg b n).length - 1) := Nat.pow_le_pow_right (by omega) (by omega)
      omega
    · exact h1

theorem vl_drop {b : Nat} {l : List Nat} {k : Nat} (h : k ≤ l.length) : vl b l = vl b (l.take k) + b ^ k * vl b (l.drop k) := by
  have := vl_append b (l.take k) (l.drop k)
  rw [List.take_append_drop, List.length_take, Nat.min_eq_left h] at this
  exact this
theorem drop_cons {l : List Nat} {k : Nat} (h : k < l.length) : l.drop k = l[k]?.getD 0 :: l.drop (k + 1) := by
  rw [List.drop_eq_getElem_cons h]; simp [h]
/-! Taking off -/
/-! Adding in place -/
theorem Lo_mono {M N : Nat} {l : List Nat} (h : Lo M l) (hMN : M ≤ N) : Lo N l := fun x hx => Nat.lt_of_lt_of_le (h x hx) hMN
/-! Multiplying -/
end Go.Proofs.YtpgiljibicigeaaGreatDoor.LM

/- Plain mathematics: decimal texts. Nothing of the program. -/
namespace Go.Proofs.YtpgiljibicigeaaGreatDoor.LM

/-- k digits of x, with noughts ahead -/
def padd : Nat → Nat → List UInt8
  | 0, _ => []
  | k + 1, x => padd k (x / 10) ++ [UInt8.ofNat (48 + x % 10)]
theorem padd_length : ∀ k x, (padd k x).length = k := by
  intro k; induction k with
  | zero => intro x; rfl
  | succ k ih => intro x; simp [padd, ih]
theorem dec_pad : ∀ (k x r : Nat), 1 ≤ r → x < 10 ^ k → Lib.decDigits (x + 10 ^ k * r) = Lib.decDigits r ++ padd k x := by
  intro k
  induction k with
  | zero => intro x r _ hx; have : x = 0 := by simpa using hx
            subst this; simp [padd]
  | succ k ih =>
    intro x r hr hx
    have h10 : ¬ x + 10 ^ (k + 1) * r < 10 := by
      have h1 : 1 ≤ 10 ^ k := Nat.one_le_pow _ _ (by decide)
      have h2 : 10 ^ (k + 1) * 1 ≤ 10 ^ (k + 1) * r := Nat.mul_le_mul_left _ hr
      rw [Nat.pow_succ] at h2 ⊢; omega
    have e1 : (x + 10 ^ (k + 1) * r) / 10 = x / 10 + 10 ^ k * r := by
      rw [Nat.pow_succ, Nat.mul_comm (10 ^ k) 10, Nat.mul_assoc, Nat.add_mul_div_left _ _ (by omega)]
    have e2 : (x + 10 ^ (k + 1) * r) % 10 = x % 10 := by
      rw [Nat.pow_succ, Nat.mul_comm (10 ^ k) 10, Nat.mul_assoc, Nat.add_mul_mod_self_left]
    rw [Lib.decDigits, dif_neg h10, e1, e2, ih (x / 10) r hr (by rw [Nat.pow_succ] at hx; omega)]
    simp [padd]
theorem dec_text (n : Nat) : Lib.decDigits n = if n = 0 then [48] else (dg 10 n).reverse.map (fun d => UInt8.ofNat (48 + d)) := by
  induction n using Nat.strongRecOn with
  | _ n ih =>
    by_cases h : n < 10
    · rw [Lib.decDigits_one h]
      by_cases h0 : n = 0
      · subst h0; rfl
      · rw [if_neg h0, dg_pos (by omega) (by omega), Nat.div_eq_of_lt h, dg_zero, Nat.mod_eq_of_lt h]; rfl
    · rw [Lib.decDigits, dif_neg h, ih (n / 10) (by omega), if_neg (by omega), if_neg (by omega), dg_pos (b := 10) (n := n) (by omega) (by omega)]
      simp
theorem nDigits_len {n : Nat} (h : 0 < n) : Lib.nDigits n = (dg 10 n).length := by
  rw [← Lib.decDigits_length, dec_text, if_neg (by omega)]; simp
/-- the digits of a number of limbs -/
theorem nDigits_limb {x r : Nat} : ∀ k, 1 ≤ r → x < 10 ^ k → Lib.nDigits (x + 10 ^ k * r) = Lib.nDigits r + k := by
  intro k hr hx
  rw [← Lib.decDigits_length, dec_pad k x r hr hx, List.length_append, padd_length, Lib.decDigits_length]
theorem vl_top {X : List Nat} {h : Nat} (hh : X.length = h + 1) : vl 1000000000 (X.drop h) = X[h]?.getD 0 := by
  rw [drop_cons (by omega), List.drop_eq_nil_of_le (by omega), vl_one]
theorem vl_drop_step {X : List Nat} {k : Nat} (h : k < X.length) : vl 1000000000 (X.drop k) = X[k]?.getD 0 + 1000000000 * vl 1000000000 (X.drop (k + 1)) := by
  rw [drop_cons h]; rfl
/-- the highest limb of a plain list isn't 0 -/
theorem dg_top {n h : Nat} (hh : (dg 1000000000 n).length = h + 1) : 1 ≤ (dg 1000000000 n)[h]?.getD 0 := by
  rcases Nat.eq_zero_or_pos ((dg 1000000000 n)[h]?.getD 0) with e | e
  · exfalso
    have h1 := tr_step (l := dg 1000000000 n) (k := h) (by omega) e
    rw [show h + 1 = (dg 1000000000 n).length by omega, List.take_length, tr_dg (by omega)] at h1
    have h2 : (tr ((dg 1000000000 n).take h)).length = h + 1 := by rw [h1]; exact hh
    have h3 := tr_take ((dg 1000000000 n).take h)
    have h4 : (tr ((dg 1000000000 n).take h)).length ≤ h := by rw [h3]; simp; omega
    omega
  · exact e
theorem nDigits_high {n h : Nat} (hh : (dg 1000000000 n).length = h + 1) : (dg 10 n).length = 9 * h + Lib.nDigits ((dg 1000000000 n)[h]?.getD 0) := by
  have hn : 0 < n := by
    rcases Nat.eq_zero_or_pos n with e | e
    · subst e; rw [dg_zero] at hh; simp at hh
    · exact e
  rw [← nDigits_len hn]
  have h1 := vl_drop (b := 1000000000) (l := dg 1000000000 n) (k := h) (by omega)
  rw [vl_dg (by omega), vl_top hh] at h1
  have h2 := vl_lt (b := 1000000000) (l := (dg 1000000000 n).take h) (fun z hz => Lo_dg (by omega) n z (List.mem_of_mem_take hz))
  rw [List.length_take, Nat.min_eq_left (by omega)] at h2
  have e : (1000000000 : Nat) ^ h = 10 ^ (9 * h) := by rw [show (1000000000 : Nat) = 10 ^ 9 by decide, ← Nat.pow_mul]
  rw [e] at h1 h2
  have h3 := nDigits_limb (9 * h) (dg_top hh) h2
  rw [← h1] at h3
  omega
end Go.Proofs.YtpgiljibicigeaaGreatDoor.LM
