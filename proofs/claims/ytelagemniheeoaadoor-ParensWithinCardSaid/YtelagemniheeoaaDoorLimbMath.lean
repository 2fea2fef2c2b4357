/- Plain mathematics of digit lists: worth of a list in a base, the plain list of a number, trimming. Nothing of the program. -/
import Derived.WalkKit
namespace Go.Proofs.YtelagemniheeoaaDoor.LM

/-- worth of a list in base b, lowest first -/
def vl (b : Nat) : List Nat → Nat
  | [] => 0
  | x :: t => x + b * vl b t

/-- the plain list of a number -/
def dg (b : Nat) (n : Nat) : List Nat :=
  if _h : 2 ≤ b ∧ 0 < n then n % b :: dg b (n / b) else []
termination_by n
decreasing_by exact Nat.div_lt_self _h.2 (by omega)

/-- without noughts at the high end -/
def tr : List Nat → List Nat
  | [] => []
  | x :: t => if x = 0 ∧ tr t = [] then [] else x :: tr t

/-- all below b -/
def Lo (b : Nat) (l : List Nat) : Prop := ∀ x ∈ l, x < b

theorem dg_zero (b : Nat) : dg b 0 = [] := by rw [dg]; simp
theorem dg_pos {b n : Nat} (hb : 2 ≤ b) (hn : 0 < n) : dg b n = n % b :: dg b (n / b) := by rw [dg]; simp [hb, hn]

theorem vl_dg {b : Nat} (hb : 2 ≤ b) : ∀ n, vl b (dg b n) = n := by
  intro n
  induction n using Nat.strongRecOn with
  | _ n ih =>
    by_cases h : 0 < n
    · rw [dg_pos hb h]; simp only [vl]; rw [ih (n / b) (Nat.div_lt_self h (by omega))]; exact Nat.mod_add_div n b
    · have : n = 0 := by omega
      subst this; rw [dg_zero]; rfl

theorem Lo_dg {b : Nat} (hb : 2 ≤ b) : ∀ n, Lo b (dg b n) := by
  intro n
  induction n using Nat.strongRecOn with
  | _ n ih =>
    by_cases h : 0 < n
    · rw [dg_pos hb h]; intro x hx; rcases List.mem_cons.1 hx with rfl | hx
      · exact Nat.mod_lt _ (by omega)
      · exact ih (n / b) (Nat.div_lt_self h (by omega)) x hx
    · have : n = 0 := by omega
      subst this; rw [dg_zero]; intro x hx; cases hx

theorem vl_tr (b : Nat) : ∀ l, vl b (tr l) = vl b l := by
  intro l
  induction l with
  | nil => rfl
  | cons x t ih =>
    simp only [tr]
    split
    · rename_i h
      rw [h.2] at ih
      simp only [vl] at ih ⊢
      rw [← ih, h.1]; simp
    · simp only [vl]; rw [ih]

theorem Lo_tr {b : Nat} : ∀ {l}, Lo b l → Lo b (tr l) := by
  intro l
  induction l with
  | nil => intro h; exact h
  | cons x t ih =>
    intro h
    simp only [tr]
    split
    · intro y hy; cases hy
    · intro y hy
      rcases List.mem_cons.1 hy with rfl | hy
      · exact h _ (List.mem_cons_self ..)
      · exact ih (fun z hz => h z (List.mem_cons_of_mem _ hz)) y hy

/-- trimming a list of digits makes the plain list of its worth -/
theorem tr_eq {b : Nat} (hb : 2 ≤ b) : ∀ {l}, Lo b l → tr l = dg b (vl b l) := by
  intro l
  induction l with
  | nil => intro _; simp [tr, vl, dg_zero]
  | cons x t ih =>
    intro h
    have hx : x < b := h _ (List.mem_cons_self ..)
    have ht := ih (fun z hz => h z (List.mem_cons_of_mem _ hz))
    simp only [tr, vl]
    by_cases hz : x = 0 ∧ tr t = []
    · rw [if_pos hz]
      have h0 : vl b t = 0 := by rw [← vl_tr, hz.2]; rfl
      rw [hz.1, h0]; simp [dg_zero]
    · rw [if_neg hz]
      have hpos : 0 < x + b * vl b t := by
        by_cases h0 : x = 0
        · have : tr t ≠ [] := fun e => hz ⟨h0, e⟩
          have hv : 0 < vl b t := by
            rcases Nat.eq_zero_or_pos (vl b t) with e | e
            · rw [ht, e, dg_zero] at this; exact absurd rfl this
            · exact e
          have := Nat.mul_pos (show 0 < b by omega) hv
          omega
        · omega
      rw [dg_pos hb hpos, Nat.add_mul_mod_self_left, Nat.mod_eq_of_lt hx, Nat.add_mul_div_left _ _ (by omega : 0 < b), Nat.div_eq_of_lt hx, Nat.zero_add, ht]

theorem tr_dg {b : Nat} (hb : 2 ≤ b) (n : Nat) : tr (dg b n) = dg b n := by rw [tr_eq hb (Lo_dg hb n), vl_dg hb]

theorem vl_append (b : Nat) : ∀ l m, vl b (l ++ m) = vl b l + b ^ l.length * vl b m := by
  intro l m
  induction l with
  | nil => simp [vl]
  | cons x t ih => simp only [List.cons_append, vl, ih, List.length_cons, Nat.pow_succ]; rw [Nat.mul_add, ← Nat.add_assoc, ← Nat.mul_assoc, Nat.mul_comm b (b ^ t.length)]

theorem vl_lt {b : Nat} : ∀ {l}, Lo b l → vl b l < b ^ l.length := by
  intro l
  induction l with
  | nil => intro _; simp [vl]
  | cons x t ih =>
    intro h
    have hx : x < b := h _ (List.mem_cons_self ..)
    have ht := ih (fun z hz => h z (List.mem_cons_of_mem _ hz))
    simp only [vl, List.length_cons, Nat.pow_succ]
    have h1 : b * vl b t + b ≤ b * b ^ t.length := by
      have := Nat.mul_le_mul_left b (show vl b t + 1 ≤ b ^ t.length from ht)
      rw [Nat.mul_add, Nat.mul_one] at this; exact this
    rw [Nat.mul_comm (b ^ t.length) b]; omega

theorem Lo_append {b : Nat} {l m : List Nat} (h : Lo b l) (k : Lo b m) : Lo b (l ++ m) := by
  intro x hx; rcases List.mem_append.1 hx with hx | hx
  · exact h x hx
  · exact k x hx
theorem Lo_one {b x : Nat} (h : x < b) : Lo b [x] := by intro y hy; simp at hy; omega
theorem Lo_nil (b : Nat) : Lo b [] := by intro y hy; cases hy
theorem Lo_zeros {b n : Nat} (h : 0 < b) : Lo b (List.replicate n 0) := by intro y hy; rw [(List.mem_replicate.1 hy).2]; exact h
theorem vl_zeros (b n : Nat) : vl b (List.replicate n 0) = 0 := by
  induction n with
  | zero => rfl
  | succ n ih => simp [List.replicate_succ, vl, ih]

theorem tr_take : ∀ l, tr l = l.take (tr l).length := by
  intro l
  induction l with
  | nil => simp [tr]
  | cons x t ih =>
    simp only [tr]; split
    · simp
    · simp only [List.length_cons, List.take_succ_cons]; rw [← ih]

theorem tr_snoc_zero : ∀ l, tr (l ++ [0]) = tr l := by
  intro l
  induction l with
  | nil => simp [tr]
  | cons x t ih => simp only [List.cons_append, tr, ih]
theorem tr_snoc_pos {x : Nat} (h : x ≠ 0) : ∀ l, tr (l ++ [x]) = l ++ [x] := by
  intro l
  induction l with
  | nil => simp [tr, h]
  | cons y t ih => simp only [List.cons_append, tr, ih]; rw [if_neg (by simp)]

theorem dg_inj {b m n : Nat} (hb : 2 ≤ b) : dg b m = dg b n ↔ m = n := ⟨fun h => by rw [← vl_dg hb m, h, vl_dg hb], fun h => by rw [h]⟩

theorem dg_eq_nil {b n : Nat} (hb : 2 ≤ b) : dg b n = [] ↔ n = 0 := by
  rw [← dg_zero b, dg_inj hb]

theorem vl_nil (b : Nat) : vl b [] = 0 := rfl
theorem vl_one (b x : Nat) : vl b [x] = x := by simp [vl]
theorem take_snoc (l : List Nat) (k : Nat) (h : k < l.length) : l.take (k + 1) = l.take k ++ [l[k]?.getD 0] := by
  rw [List.take_add_one, List.getElem?_eq_getElem h]; simp
/-- a step of trimming, from the high end -/
theorem tr_step {l : List Nat} {k : Nat} (h : k < l.length) (h0 : l[k]?.getD 0 = 0) : tr (l.take k) = tr (l.take (k + 1)) := by rw [take_snoc l k h, h0, tr_snoc_zero]
theorem tr_end {l : List Nat} {k : Nat} (h : k < l.length) (h0 : l[k]?.getD 0 ≠ 0) : tr (l.take (k + 1)) = l.take (k + 1) := by rw [take_snoc l k h, tr_snoc_pos h0]

/-! Making plain. -/
def ncar (l : List Nat) : Nat → Nat
  | 0 => 0
  | k + 1 => (l[k]?.getD 0 + ncar l k) / 1000000000
def nlow (l : List Nat) : Nat → List Nat
  | 0 => []
  | k + 1 => nlow l k ++ [(l[k]?.getD 0 + ncar l k) % 1000000000]
theorem nlow_length (l : List Nat) : ∀ k, (nlow l k).length = k := by
  intro k; induction k with
  | zero => rfl
  | succ k ih => simp [nlow, ih]
theorem Lo_get {M : Nat} {l : List Nat} (h : Lo M l) (hM : 0 < M) (k : Nat) : l[k]?.getD 0 < M := by
  rcases Nat.lt_or_ge k l.length with h1 | h1
  · have := h (l[k]) (List.getElem_mem h1); simpa [h1] using this
  · simp [h1]; exact hM
theorem ncar_le {l : List Nat} (h : Lo 4294967296 l) : ∀ k, ncar l k ≤ 4 := by
  intro k; induction k with
  | zero => simp [ncar]
  | succ k ih => have := Lo_get h (by omega) k; simp only [ncar]; omega
theorem Lo_nlow (l : List Nat) : ∀ k, Lo 1000000000 (nlow l k) := by
  intro k; induction k with
  | zero => exact Lo_nil _
  | succ k ih => exact Lo_append ih (Lo_one (Nat.mod_lt _ (by omega)))
theorem nlow_worth (l : List Nat) : ∀ k, k ≤ l.length → vl 1000000000 (l.take k) = vl 1000000000 (nlow l k) + 1000000000 ^ k * ncar l k := by
  intro k; induction k with
  | zero => intro _; simp [nlow, ncar, vl]
  | succ k ih =>
    intro hk
    rw [take_snoc l k (by omega), vl_append, ih (by omega), vl_one, List.length_take, Nat.min_eq_left (by omega : k ≤ l.length)]
    simp only [nlow, ncar]
    rw [vl_append, nlow_length, vl_one, Nat.pow_succ]
    have e1 : ∀ (p x c : Nat), p * ((x + c) % 1000000000) + p * 1000000000 * ((x + c) / 1000000000) = p * c + p * x := by
      intro p x c
      rw [Nat.mul_assoc, ← Nat.mul_add, Nat.mod_add_div, Nat.mul_add, Nat.add_comm]
    have := e1 (1000000000 ^ k) (l[k]?.getD 0) (ncar l k)
    omega
theorem norm_eq {l : List Nat} (h : Lo 4294967296 l) : tr (nlow l l.length ++ [ncar l l.length]) = dg 1000000000 (vl 1000000000 l) := by
  have hc := ncar_le h l.length
  rw [tr_eq (by omega) (Lo_append (Lo_nlow l _) (Lo_one (by omega))), vl_append, nlow_length, vl_one, ← nlow_worth l l.length (Nat.le_refl _), List.take_length]
end Go.Proofs.YtelagemniheeoaaDoor.LM
