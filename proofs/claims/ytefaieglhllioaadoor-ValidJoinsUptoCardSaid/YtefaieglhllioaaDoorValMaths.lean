/- What valid's reader tells, as functions of the bytes, the place and the open brackets; Q tells of a text in quotes. Nothing of the program. -/
import Derived.Test.YtefaieglhllioaaDoorQuoMath
namespace Go.Proofs.YtefaieglhllioaaDoor.VM
open Go.Proofs.YtefaieglhllioaaDoor.QM

def isB (c : Int) : Bool := c == 32 || c == 9 || c == 10 || c == 13
def isD (c : Int) : Bool := decide (48 ≤ c) && decide (c ≤ 57)
def isN (c : Int) : Bool := c == 45 || isD c
def runN (p : Int → Bool) (l : List Nat) : Nat → Nat → Nat
  | 0, k => k
  | f + 1, k => if p (pk l k) = true then runN p l f (k + 1) else k
/-- behind the bytes from k on of which p holds -/
def runP (p : Int → Bool) (l : List Nat) (k : Nat) : Nat := runN p l (l.length - k) k
def bk (l : List Nat) (k : Nat) : Nat := runP isB l k
def dg (l : List Nat) (k : Nat) : Nat := runP isD l k
def numC (l : List Nat) (k : Nat) : Bool × Nat :=
  if pk l k = 101 ∨ pk l k = 69 then
    (decide ((if pk l (k + 1) = 43 ∨ pk l (k + 1) = 45 then k + 2 else k + 1) < dg l (if pk l (k + 1) = 43 ∨ pk l (k + 1) = 45 then k + 2 else k + 1)), dg l (if pk l (k + 1) = 43 ∨ pk l (k + 1) = 45 then k + 2 else k + 1))
  else (true, k)
def numB (l : List Nat) (k : Nat) : Bool × Nat := if pk l k = 46 then (if k + 1 < dg l (k + 1) then numC l (dg l (k + 1)) else (false, dg l (k + 1))) else numC l k
def numA (l : List Nat) (k : Nat) : Bool × Nat := if pk l k = 48 then numB l (k + 1) else if k < dg l k then numB l (dg l k) else (false, dg l k)
def numF (l : List Nat) (k : Nat) : Bool × Nat := numA l (if pk l k = 45 then k + 1 else k)
def wordF (l : List Nat) : Nat → List Int → Bool × Nat
  | k, [] => (true, k)
  | k, c :: cs => if pk l k = c then wordF l (k + 1) cs else (false, k)
def wN : List Int := [110, 117, 108, 108]
def wT : List Int := [116, 114, 117, 101]
def wF : List Int := [102, 97, 108, 115, 101]
/-- what follows a text, s being open -/
def fol (s : List Bool) : Nat := if s.length = 0 then 6 else 5
def top (s : List Bool) : Bool := s.getLast?.getD false
def aft (s : List Bool) (r : Bool × Nat) : Nat × Nat × List Bool := (if r.1 = true then fol s else 7, r.2, s)
def cls (k : Nat) (s : List Bool) : Nat × Nat × List Bool := (fol s.dropLast, k + 1, s.dropLast)
section
variable (Q : List Nat → Nat → Bool × Nat) (l : List Nat) (m : Nat)
def valF (k : Nat) (s : List Bool) : Nat × Nat × List Bool :=
  if pk l k = 91 ∨ pk l k = 123 then (if m ≤ s.length then (8, k, s) else (if pk l k = 123 then 3 else 1, k + 1, s ++ [decide (pk l k = 123)]))
  else if pk l k = 34 then aft s (Q l k) else if pk l k = 110 then aft s (wordF l k wN) else if pk l k = 116 then aft s (wordF l k wT) else if pk l k = 102 then aft s (wordF l k wF) else aft s (numF l k)
def keyF (k : Nat) (s : List Bool) : Nat × Nat × List Bool := (if (Q l k).1 = true then 4 else 7, (Q l k).2, s)
def behF (k : Nat) (s : List Bool) : Nat × Nat × List Bool :=
  if pk l k = 44 then (if top s = true then 2 else 0, k + 1, s) else if pk l k = (if top s = true then 125 else 93) then cls k s else (7, k, s)
/-- what may follow then (8: a bracket that is one too many), how far it went, what is open -/
def turnF (q k : Nat) (s : List Bool) : Nat × Nat × List Bool :=
  if q = 0 then valF Q l m k s else
  if q = 1 then (if pk l k = 93 then cls k s else valF Q l m k s) else
  if q = 2 then keyF Q l k s else
  if q = 3 then (if pk l k = 125 then cls k s else keyF Q l k s) else
  if q = 4 then (if pk l k = 58 then (0, k + 1, s) else (7, k, s)) else
  if q = 5 then behF l k s else (7, k, s)
inductive Tx : Nat → Nat → List Bool → Nat → Nat → Prop
  | stop {q k : Nat} {s : List Bool} (h : 6 ≤ q) : Tx q k s q k
  | go {q k : Nat} {s : List Bool} {r e : Nat} (h : q < 6) (t : Tx (turnF Q l m q (bk l k) s).1 (turnF Q l m q (bk l k) s).2.1 (turnF Q l m q (bk l k) s).2.2 r e) : Tx q k s r e
/-- how a text ends that begins at k: 6 whole, 7 a byte that may not stand, 8 a bracket that is one too many -/
def Txt (k r e : Nat) : Prop := Tx Q l m (turnF Q l m 0 k []).1 (turnF Q l m 0 k []).2.1 (turnF Q l m 0 k []).2.2 r e
def endB (k : Nat) : Bool := decide (k = l.length) || isB (pk l k)
def whyF (e r : Nat) : Nat := if e = l.length then 2 else if r = 8 then 3 else 1
/-- what Check tells from k on: spans, where, why -/
inductive Ck : Nat → List (Nat × Nat) → Nat → Nat → Prop
  | done {k : Nat} (h : bk l k = l.length) : Ck k [] l.length 0
  | bad {k r e : Nat} (h : bk l k < l.length) (t : Txt Q l m (bk l k) r e) (hr : r ≠ 6) : Ck k [] e (whyF l e r)
  | last {k e : Nat} (h : bk l k < l.length) (t : Txt Q l m (bk l k) 6 e) (ha : endB l e = false) : Ck k (if isN (pk l (bk l k)) = true then [] else [(bk l k, e)]) e 1
  | next {k e : Nat} {sp : List (Nat × Nat)} {f y : Nat} (h : bk l k < l.length) (t : Txt Q l m (bk l k) 6 e) (ha : endB l e = true) (c : Ck e sp f y) : Ck k ((bk l k, e) :: sp) f y
end
/-- what is asked of Q -/
structure QOk (Q : List Nat → Nat → Bool × Nat) : Prop where
  ge : ∀ l k, k ≤ (Q l k).2
  le : ∀ l k, k ≤ l.length → (Q l k).2 ≤ l.length
  adv : ∀ l k, (Q l k).1 = true → k < (Q l k).2
  quo : ∀ l k, pk l k = 34 → k < (Q l k).2

theorem runN_ge {p : Int → Bool} {l : List Nat} : ∀ {f k : Nat}, k ≤ runN p l f k := by
  intro f
  induction f with
  | zero => intro k; exact Nat.le_refl _
  | succ f ih =>
    intro k
    simp only [runN]
    split
    · exact Nat.le_trans (Nat.le_succ _) ih
    · exact Nat.le_refl _
theorem runP_ge {p : Int → Bool} {l : List Nat} {k : Nat} : k ≤ runP p l k := runN_ge
theorem runP_yes {p : Int → Bool} {l : List Nat} {k : Nat} (hk : k < l.length) (h : p (pk l k) = true) : runP p l k = runP p l (k + 1) := by
  unfold runP
  rw [show l.length - k = (l.length - (k + 1)) + 1 by omega]
  simp only [runN, h, if_true]
theorem runP_no {p : Int → Bool} {l : List Nat} {k : Nat} (h : p (pk l k) = false) : runP p l k = k := by
  unfold runP
  cases l.length - k with
  | zero => rfl
  | succ f => simp [runN, h]
theorem runP_end {p : Int → Bool} {l : List Nat} {k : Nat} (h : l.length ≤ k) : runP p l k = k := by
  unfold runP
  rw [Nat.sub_eq_zero_of_le h]; rfl
theorem runP_is {p : Int → Bool} {l : List Nat} {e : Nat} (h2 : p (pk l e) = false) : ∀ {n k : Nat}, k + n = e → (∀ i, k ≤ i → i < e → p (pk l i) = true ∧ i < l.length) → runP p l k = e := by
  intro n
  induction n with
  | zero => intro k hk _; rw [Nat.add_zero] at hk; rw [hk]; exact runP_no h2
  | succ n ih =>
    intro k hk h
    obtain ⟨h3, h4⟩ := h k (Nat.le_refl _) (by omega)
    rw [runP_yes h4 h3]
    exact ih (by omega) (fun i hi => h i (by omega))
theorem pk_ge {l : List Nat} {k : Nat} (h : l.length ≤ k) : pk l k = -1 := by
  unfold pk; rw [if_neg (by omega)]
theorem pk_nn {l : List Nat} {k : Nat} (h : k < l.length) : 0 ≤ pk l k := by
  unfold pk; rw [if_pos h]; omega
theorem runP_spec {p : Int → Bool} {l : List Nat} (hp : p (-1) = false) : ∀ {n k : Nat}, l.length - k = n → (∀ i, k ≤ i → i < runP p l k → p (pk l i) = true ∧ i < l.length) ∧ p (pk l (runP p l k)) = false ∧ (k ≤ l.length → runP p l k ≤ l.length) := by
  intro n
  induction n with
  | zero =>
    intro k hk
    rw [runP_end (by omega), pk_ge (by omega)]
    exact ⟨fun i h1 h2 => by omega, hp, id⟩
  | succ n ih =>
    intro k hk
    by_cases h : p (pk l k) = true
    · rw [runP_yes (by omega) h]
      obtain ⟨a, b, c⟩ := ih (k := k + 1) (by omega)
      refine ⟨fun i h1 h2 => ?_, b, fun _ => c (by omega)⟩
      rcases Nat.eq_or_lt_of_le h1 with rfl | h3
      · exact ⟨h, by omega⟩
      · exact a i h3 h2
    · have h' : p (pk l k) = false := by simpa using h
      rw [runP_no h']
      exact ⟨fun i h1 h2 => by omega, h', id⟩
theorem dg_le {l : List Nat} {k : Nat} (h : k ≤ l.length) : dg l k ≤ l.length := (runP_spec (p := isD) (by decide) rfl).2.2 h
theorem bk_le {l : List Nat} {k : Nat} (h : k ≤ l.length) : bk l k ≤ l.length := (runP_spec (p := isB) (by decide) rfl).2.2 h
theorem dg_ge {l : List Nat} {k : Nat} : k ≤ dg l k := runP_ge
theorem bk_ge {l : List Nat} {k : Nat} : k ≤ bk l k := runP_ge

/-- l' is l below e; at e it has what l has there, or nothing, or a blank -/
structure Sim (l l' : List Nat) (e : Nat) : Prop where
  lo : ∀ i, i < e → pk l' i = pk l i
  at_ : pk l' e = pk l e ∨ pk l' e = -1 ∨ pk l' e = 32
  le : e ≤ l.length
theorem Sim.le' {l l' : List Nat} {e : Nat} (h : Sim l l' e) : e ≤ l'.length := by
  rcases Nat.lt_or_ge l'.length e with h1 | h1
  · exfalso
    have := h.lo l'.length h1
    rw [pk_ge (Nat.le_refl _)] at this
    have := pk_nn (l := l) (k := l'.length) (by have := h.le; omega)
    omega
  · exact h1
theorem Sim.ne {l l' : List Nat} {e i : Nat} {c : Int} (h : Sim l l' e) (hi : i ≤ e) (h1 : c ≠ -1) (h2 : c ≠ 32) (hc : pk l i ≠ c) : pk l' i ≠ c := by
  rcases Nat.lt_or_ge i e with h3 | h3
  · rw [h.lo i h3]; exact hc
  · have : i = e := by omega
    subst this
    rcases h.at_ with e1 | e1 | e1
    · rw [e1]; exact hc
    · rw [e1]; exact fun e => h1 e.symm
    · rw [e1]; exact fun e => h2 e.symm
theorem Sim.runP {l l' : List Nat} {e k : Nat} {p : Int → Bool} (h : Sim l l' e) (hp : p (-1) = false) (hb : VM.runP p l k < e ∨ p 32 = false ∨ pk l' e ≠ 32) (hk : VM.runP p l k ≤ e) : VM.runP p l' k = VM.runP p l k := by
  obtain ⟨a, b, c⟩ := runP_spec (p := p) (l := l) (k := k) hp rfl
  have hle' := h.le'
  generalize hj : VM.runP p l k = j at *
  have hkj : k ≤ j := by rw [← hj]; exact runP_ge
  refine runP_is (n := j - k) ?_ (by omega) (fun i h1 h2 => ⟨by rw [h.lo i (by omega)]; exact (a i h1 h2).1, by omega⟩)
  rcases Nat.lt_or_ge j e with h3 | h3
  · rw [h.lo j h3]; exact b
  · have : j = e := by omega
    subst this
    rcases h.at_ with e1 | e1 | e1
    · rw [e1]; exact b
    · rw [e1]; exact hp
    · rw [e1]; rcases hb with h4 | h4
      · omega
      rcases h4 with h4 | h4
      · exact h4
      · exact absurd e1 h4
theorem Sim.dg {l l' : List Nat} {e k : Nat} (h : Sim l l' e) (hk : VM.dg l k ≤ e) : VM.dg l' k = VM.dg l k := h.runP (by decide) (.inr (.inl (by decide))) hk
theorem numC_ge {l : List Nat} {k : Nat} : k ≤ (numC l k).2 := by
  unfold numC
  split
  · have := dg_ge (l := l) (k := if pk l (k + 1) = 43 ∨ pk l (k + 1) = 45 then k + 2 else k + 1)
    simp only
    split at this <;> split <;> omega
  · exact Nat.le_refl _
theorem numB_ge {l : List Nat} {k : Nat} : k ≤ (numB l k).2 := by
  unfold numB
  have h1 := dg_ge (l := l) (k := k + 1)
  split
  · split
    · have := numC_ge (l := l) (k := VM.dg l (k + 1)); omega
    · simp only; omega
  · exact numC_ge
theorem numA_ge {l : List Nat} {k : Nat} : k ≤ (numA l k).2 := by
  unfold numA
  have h1 := dg_ge (l := l) (k := k)
  split
  · have := numB_ge (l := l) (k := k + 1); omega
  · split
    · have := numB_ge (l := l) (k := VM.dg l k); omega
    · exact h1
theorem numF_ge {l : List Nat} {k : Nat} : k ≤ (numF l k).2 := by
  unfold numF
  have := numA_ge (l := l) (k := if pk l k = 45 then k + 1 else k)
  split at this
  · rename_i h; rw [if_pos h]; omega
  · rename_i h; rw [if_neg h]; omega
theorem numA_adv {l : List Nat} {k : Nat} (h : (numA l k).1 = true) : k < (numA l k).2 := by
  unfold numA at h ⊢
  split
  · have := numB_ge (l := l) (k := k + 1); omega
  · rename_i h0
    rw [if_neg h0] at h
    split
    · have := numB_ge (l := l) (k := VM.dg l k); omega
    · rename_i h1
      rw [if_neg h1] at h; cases h
theorem numF_adv {l : List Nat} {k : Nat} (h : (numF l k).1 = true) : k < (numF l k).2 := by
  unfold numF at h ⊢
  have := numA_adv h
  split at this
  · rename_i h; rw [if_pos h]; omega
  · rename_i h; rw [if_neg h]; omega
theorem pk_lt {l : List Nat} {k : Nat} {c : Int} (h : pk l k = c) (hc : c ≠ -1) : k < l.length := pk_pos (by rw [h]; exact hc)
theorem numC_le {l : List Nat} {k : Nat} (h : k ≤ l.length) : (numC l k).2 ≤ l.length := by
  unfold numC
  split
  · rename_i h1
    have h2 : k < l.length := by rcases h1 with h1 | h1 <;> exact pk_lt h1 (by decide)
    by_cases h3 : pk l (k + 1) = 43 ∨ pk l (k + 1) = 45
    · have h4 : k + 1 < l.length := by rcases h3 with h3 | h3 <;> exact pk_lt h3 (by decide)
      rw [if_pos h3]; exact dg_le (by omega)
    · rw [if_neg h3]; exact dg_le (by omega)
  · exact h
theorem numB_le {l : List Nat} {k : Nat} (h : k ≤ l.length) : (numB l k).2 ≤ l.length := by
  unfold numB
  split
  · rename_i h1
    have h2 := pk_lt h1 (by decide)
    split
    · exact numC_le (dg_le (by omega))
    · exact dg_le (by omega)
  · exact numC_le h
theorem numA_le {l : List Nat} {k : Nat} (h : k ≤ l.length) : (numA l k).2 ≤ l.length := by
  unfold numA
  split
  · rename_i h1
    exact numB_le (pk_lt h1 (by decide))
  · split
    · exact numB_le (dg_le h)
    · exact dg_le h
theorem numF_le {l : List Nat} {k : Nat} (h : k ≤ l.length) : (numF l k).2 ≤ l.length := by
  unfold numF
  split
  · rename_i h1
    exact numA_le (pk_lt h1 (by decide))
  · exact numA_le h
theorem wordF_ge {l : List Nat} : ∀ {cs : List Int} {k : Nat}, k ≤ (wordF l k cs).2 := by
  intro cs
  induction cs with
  | nil => intro k; exact Nat.le_refl _
  | cons c cs ih =>
    intro k
    simp only [wordF]
    split
    · exact Nat.le_trans (Nat.le_succ _) ih
    · exact Nat.le_refl _
theorem wordF_le {l : List Nat} : ∀ {cs : List Int} {k : Nat}, (∀ c ∈ cs, c ≠ -1) → k ≤ l.length → (wordF l k cs).2 ≤ l.length := by
  intro cs
  induction cs with
  | nil => intro k _ h; exact h
  | cons c cs ih =>
    intro k hc h
    simp only [wordF]
    split
    · rename_i h1
      exact ih (fun x hx => hc x (List.mem_cons_of_mem _ hx)) (pk_lt h1 (hc c List.mem_cons_self))
    · exact h
theorem wordF_fst {l : List Nat} {c : Int} {cs : List Int} {k : Nat} (h : pk l k = c) : k < (wordF l k (c :: cs)).2 := by
  simp only [wordF, h, if_true]
  exact wordF_ge
theorem Sim.numC {l l' : List Nat} {e k : Nat} (h : Sim l l' e) (hk : (VM.numC l k).2 ≤ e) : VM.numC l' k = VM.numC l k := by
  have hge := numC_ge (l := l) (k := k)
  unfold VM.numC at hk hge ⊢
  by_cases h1 : pk l k = 101 ∨ pk l k = 69
  · rw [if_pos h1] at hk hge ⊢
    simp only at hk hge
    have hd := dg_ge (l := l) (k := if pk l (k + 1) = 43 ∨ pk l (k + 1) = 45 then k + 2 else k + 1)
    have hke : k < e := by split at hd <;> rename_i h2 <;> first | (rw [if_pos h2] at hk; omega) | (rw [if_neg h2] at hk; omega)
    rw [if_pos (by rw [h.lo k hke]; exact h1)]
    by_cases h2 : pk l (k + 1) = 43 ∨ pk l (k + 1) = 45
    · rw [if_pos h2] at hk hd
      rw [if_pos h2, if_pos (by rw [h.lo (k + 1) (by omega)]; exact h2), h.dg hk]
    · have h3 : ¬ (pk l' (k + 1) = 43 ∨ pk l' (k + 1) = 45) := by
        intro h4
        rcases h4 with h4 | h4
        · exact h.ne (by omega) (by decide) (by decide) (fun e => h2 (.inl e)) h4
        · exact h.ne (by omega) (by decide) (by decide) (fun e => h2 (.inr e)) h4
      rw [if_neg h2] at hk hd
      rw [if_neg h2, if_neg h3, h.dg hk]
  · rw [if_neg h1] at hk
    simp only at hk
    have h3 : ¬ (pk l' k = 101 ∨ pk l' k = 69) := by
      intro h4
      rcases h4 with h4 | h4
      · exact h.ne hk (by decide) (by decide) (fun e => h1 (.inl e)) h4
      · exact h.ne hk (by decide) (by decide) (fun e => h1 (.inr e)) h4
    rw [if_neg h1, if_neg h3]
theorem Sim.numB {l l' : List Nat} {e k : Nat} (h : Sim l l' e) (hk : (VM.numB l k).2 ≤ e) : VM.numB l' k = VM.numB l k := by
  have hge := numB_ge (l := l) (k := k)
  have hd := dg_ge (l := l) (k := k + 1)
  unfold VM.numB at hk ⊢
  by_cases h1 : pk l k = 46
  · rw [if_pos h1] at hk ⊢
    have hdk : VM.dg l (k + 1) ≤ e := by
      split at hk
      · exact Nat.le_trans numC_ge hk
      · exact hk
    rw [if_pos (by rw [h.lo k (by omega)]; exact h1), h.dg hdk]
    split
    · rename_i h2
      rw [if_pos h2] at hk
      rw [h.numC hk]
    · rfl
  · rw [if_neg h1] at hk ⊢
    rw [if_neg (h.ne (Nat.le_trans numC_ge hk) (by decide) (by decide) h1), h.numC hk]
theorem Sim.numA {l l' : List Nat} {e k : Nat} (h : Sim l l' e) (hk : (VM.numA l k).2 ≤ e) : VM.numA l' k = VM.numA l k := by
  have hd := dg_ge (l := l) (k := k)
  unfold VM.numA at hk ⊢
  by_cases h1 : pk l k = 48
  · rw [if_pos h1] at hk ⊢
    have := numB_ge (l := l) (k := k + 1)
    rw [if_pos (by rw [h.lo k (by omega)]; exact h1), h.numB hk]
  · rw [if_neg h1] at hk ⊢
    have hdk : VM.dg l k ≤ e := by
      split at hk
      · exact Nat.le_trans numB_ge hk
      · exact hk
    rw [if_neg (h.ne (by omega) (by decide) (by decide) h1), h.dg hdk]
    split
    · rename_i h2
      rw [if_pos h2] at hk
      rw [h.numB hk]
    · rfl
theorem Sim.numF {l l' : List Nat} {e k : Nat} (h : Sim l l' e) (hk : (VM.numF l k).2 ≤ e) : VM.numF l' k = VM.numF l k := by
  unfold VM.numF at hk ⊢
  by_cases h1 : pk l k = 45
  · rw [if_pos h1] at hk ⊢
    have := numA_ge (l := l) (k := k + 1)
    rw [if_pos (by rw [h.lo k (by omega)]; exact h1), h.numA hk]
  · rw [if_neg h1] at hk ⊢
    have := numA_ge (l := l) (k := k)
    rw [if_neg (h.ne (by omega) (by decide) (by decide) h1), h.numA hk]
theorem Sim.wordF {l l' : List Nat} {e : Nat} (h : Sim l l' e) : ∀ {cs : List Int} {k : Nat}, (∀ c ∈ cs, c ≠ -1 ∧ c ≠ 32) → (VM.wordF l k cs).2 ≤ e → VM.wordF l' k cs = VM.wordF l k cs := by
  intro cs
  induction cs with
  | nil => intro k _ _; rfl
  | cons c cs ih =>
    intro k hc hk
    have hc0 := hc c List.mem_cons_self
    simp only [VM.wordF] at hk ⊢
    by_cases h1 : pk l k = c
    · rw [if_pos h1] at hk ⊢
      have := wordF_ge (l := l) (cs := cs) (k := k + 1)
      rw [if_pos (by rw [h.lo k (by omega)]; exact h1)]
      exact ih (fun x hx => hc x (List.mem_cons_of_mem _ hx)) hk
    · rw [if_neg h1] at hk ⊢
      rw [if_neg (h.ne hk hc0.1 hc0.2 h1)]
end Go.Proofs.YtefaieglhllioaaDoor.VM

/- valid: one turn, a text, a stream, over texts that are alike. Nothing of the program. -/
namespace Go.Proofs.YtefaieglhllioaaDoor.VM
open Go.Proofs.YtefaieglhllioaaDoor.QM

variable {Q : List Nat → Nat → Bool × Nat}
theorem fol_cases (s : List Bool) : fol s = 6 ∨ fol s = 5 := by
  unfold fol; split <;> simp
theorem aft_ge {s : List Bool} {r : Bool × Nat} {k : Nat} (h : k ≤ r.2) : k ≤ (aft s r).2.1 := h
theorem aft_adv {s : List Bool} {r : Bool × Nat} {k : Nat} (h : r.1 = true → k < r.2) (h2 : (aft s r).1 ≤ 6) : k < (aft s r).2.1 := by
  unfold aft at h2 ⊢
  by_cases h1 : r.1 = true
  · exact h h1
  · rw [if_neg h1] at h2; simp only at h2; omega
theorem wordF_adv {l : List Nat} {c : Int} {cs : List Int} {k : Nat} (h : (wordF l k (c :: cs)).1 = true) : k < (wordF l k (c :: cs)).2 := by
  by_cases h1 : pk l k = c
  · exact wordF_fst h1
  · simp only [wordF] at h; rw [if_neg h1] at h; cases h
/-- the signs that begin what is no number -/
def spec (c : Int) : Prop := c = 91 ∨ c = 123 ∨ c = 34 ∨ c = 110 ∨ c = 116 ∨ c = 102
theorem val_num {l : List Nat} {m k : Nat} {s : List Bool} (h : ¬ spec (pk l k)) : valF Q l m k s = aft s (numF l k) := by
  unfold spec at h
  unfold valF
  rw [if_neg (by omega), if_neg (by omega), if_neg (by omega), if_neg (by omega), if_neg (by omega)]
theorem val_ge (hQ : QOk Q) {l : List Nat} {m k : Nat} {s : List Bool} : k ≤ (valF Q l m k s).2.1 := by
  unfold valF
  split
  · split
    · exact Nat.le_refl _
    · exact Nat.le_succ _
  split
  · exact aft_ge (hQ.ge l k)
  split
  · exact aft_ge wordF_ge
  split
  · exact aft_ge wordF_ge
  split
  · exact aft_ge wordF_ge
  · exact aft_ge numF_ge
theorem val_adv (hQ : QOk Q) {l : List Nat} {m k : Nat} {s : List Bool} (h : (valF Q l m k s).1 ≤ 6) : k < (valF Q l m k s).2.1 := by
  unfold valF at h ⊢
  split
  · split
    · rename_i h1 h2
      rw [if_pos h1, if_pos h2] at h
      simp only at h; omega
    · exact Nat.lt_succ_self _
  rename_i h1; rw [if_neg h1] at h
  split
  · rename_i h1; rw [if_pos h1] at h; exact aft_adv (hQ.adv l k) h
  rename_i h1; rw [if_neg h1] at h
  split
  · rename_i h1; rw [if_pos h1] at h; exact aft_adv wordF_adv h
  rename_i h1; rw [if_neg h1] at h
  split
  · rename_i h1; rw [if_pos h1] at h; exact aft_adv wordF_adv h
  rename_i h1; rw [if_neg h1] at h
  split
  · rename_i h1; rw [if_pos h1] at h; exact aft_adv wordF_adv h
  rename_i h1; rw [if_neg h1] at h
  exact aft_adv numF_adv h
theorem val_le (hQ : QOk Q) {l : List Nat} {m k : Nat} {s : List Bool} (hk : k ≤ l.length) : (valF Q l m k s).2.1 ≤ l.length := by
  unfold valF
  split
  · rename_i h1
    have h2 : k < l.length := by rcases h1 with h1 | h1 <;> exact pk_lt h1 (by decide)
    split
    · exact hk
    · exact h2
  split
  · exact hQ.le l k hk
  split
  · exact wordF_le (by decide) hk
  split
  · exact wordF_le (by decide) hk
  split
  · exact wordF_le (by decide) hk
  · exact numF_le hk
theorem val_spec (hQ : QOk Q) {l : List Nat} {m k : Nat} {s : List Bool} (h : spec (pk l k)) (h8 : (valF Q l m k s).1 ≠ 8) : k < (valF Q l m k s).2.1 := by
  unfold spec at h
  unfold valF at h8 ⊢
  split
  · rename_i h1
    rw [if_pos h1] at h8
    split
    · rename_i h2; rw [if_pos h2] at h8; exact absurd rfl h8
    · exact Nat.lt_succ_self _
  split
  · rename_i h1; exact hQ.quo l k h1
  split
  · rename_i h1; exact wordF_fst h1
  split
  · rename_i h1; exact wordF_fst h1
  split
  · rename_i h1; exact wordF_fst h1
  · omega
theorem val_fin {l : List Nat} {m k : Nat} {s : List Bool} : (valF Q l m k s).1 ≤ 8 := by
  have hf := fol_cases s
  have ha : ∀ r, (aft s r).1 ≤ 8 := fun r => by unfold aft; simp only; split <;> omega
  unfold valF
  split
  · split
    · exact Nat.le_refl _
    · simp only; split <;> omega
  split
  · exact ha _
  split
  · exact ha _
  split
  · exact ha _
  split
  · exact ha _
  · exact ha _
theorem turn_ge (hQ : QOk Q) {l : List Nat} {m q k : Nat} {s : List Bool} : k ≤ (turnF Q l m q k s).2.1 := by
  unfold turnF keyF behF cls
  have := val_ge hQ (l := l) (m := m) (k := k) (s := s)
  have := hQ.ge l k
  repeat' split
  all_goals (try simp only)
  all_goals omega
theorem turn_le (hQ : QOk Q) {l : List Nat} {m q k : Nat} {s : List Bool} (hk : k ≤ l.length) : (turnF Q l m q k s).2.1 ≤ l.length := by
  have h1 := val_le hQ (m := m) (s := s) hk
  have h2 := hQ.le l k hk
  have h3 : ∀ c : Int, c ≠ -1 → pk l k = c → k + 1 ≤ l.length := fun c h h' => pk_lt h' h
  unfold turnF keyF behF cls
  split
  · exact h1
  split
  · split
    · rename_i h; exact h3 _ (by decide) h
    · exact h1
  split
  · exact h2
  split
  · split
    · rename_i h; exact h3 _ (by decide) h
    · exact h2
  split
  · split
    · rename_i h; exact h3 _ (by decide) h
    · exact hk
  split
  · split
    · rename_i h; exact h3 _ (by decide) h
    · by_cases h4 : pk l k = (if top s = true then 125 else 93)
      · rw [if_pos h4]; exact h3 _ (by split <;> decide) h4
      · rw [if_neg h4]; exact hk
  · exact hk
theorem turn_adv (hQ : QOk Q) {l : List Nat} {m q k : Nat} {s : List Bool} (h : (turnF Q l m q k s).1 ≤ 6) : k < (turnF Q l m q k s).2.1 := by
  have h1 := val_adv hQ (l := l) (m := m) (k := k) (s := s)
  have h2 := hQ.adv l k
  have hkey : (keyF Q l k s).1 ≤ 6 → k < (keyF Q l k s).2.1 := by
    unfold keyF
    intro h
    by_cases h3 : (Q l k).1 = true
    · exact h2 h3
    · rw [if_neg h3] at h; simp only at h; omega
  unfold turnF at h ⊢
  by_cases q0 : q = 0
  · rw [if_pos q0] at h ⊢; exact h1 h
  rw [if_neg q0] at h ⊢
  by_cases q1 : q = 1
  · rw [if_pos q1] at h ⊢
    split
    · exact Nat.lt_succ_self _
    · rename_i h3; rw [if_neg h3] at h; exact h1 h
  rw [if_neg q1] at h ⊢
  by_cases q2 : q = 2
  · rw [if_pos q2] at h ⊢; exact hkey h
  rw [if_neg q2] at h ⊢
  by_cases q3 : q = 3
  · rw [if_pos q3] at h ⊢
    split
    · exact Nat.lt_succ_self _
    · rename_i h3; rw [if_neg h3] at h; exact hkey h
  rw [if_neg q3] at h ⊢
  by_cases q4 : q = 4
  · rw [if_pos q4] at h ⊢
    split
    · exact Nat.lt_succ_self _
    · rename_i h3; rw [if_neg h3] at h; simp only at h; omega
  rw [if_neg q4] at h ⊢
  by_cases q5 : q = 5
  · rw [if_pos q5] at h ⊢
    unfold behF at h ⊢
    split
    · exact Nat.lt_succ_self _
    · rename_i h3
      rw [if_neg h3] at h
      by_cases h4 : pk l k = (if top s = true then 125 else 93)
      · rw [if_pos h4]; exact Nat.lt_succ_self _
      · rw [if_neg h4] at h; simp only at h; omega
  · rw [if_neg q5] at h; simp only at h; omega
theorem turn_fin {l : List Nat} {m q k : Nat} {s : List Bool} : (turnF Q l m q k s).1 ≤ 8 := by
  have h1 := val_fin (Q := Q) (l := l) (m := m) (k := k) (s := s)
  have h2 := fol_cases s.dropLast
  unfold turnF keyF behF cls
  repeat' split
  all_goals (try simp only)
  all_goals omega
/-- 8 is told at once: a bracket stands there -/
theorem turn_8 {l : List Nat} {m q k : Nat} {s : List Bool} (h : (turnF Q l m q k s).1 = 8) : turnF Q l m q k s = (8, k, s) ∧ (q = 0 ∨ q = 1) ∧ (pk l k = 91 ∨ pk l k = 123) ∧ m ≤ s.length := by
  have hf : ∀ s, fol s ≠ 8 := fun s => by have := fol_cases s; omega
  have hv : (valF Q l m k s).1 = 8 → valF Q l m k s = (8, k, s) ∧ (pk l k = 91 ∨ pk l k = 123) ∧ m ≤ s.length := by
    intro h
    have ha : ∀ r, (aft s r).1 ≠ 8 := fun r => by have := fol_cases s; unfold aft; simp only; split <;> omega
    unfold valF at h ⊢
    split
    · rename_i h1
      rw [if_pos h1] at h
      split
      · rename_i h2; exact ⟨rfl, h1, h2⟩
      · rename_i h2; rw [if_neg h2] at h; simp only at h; split at h <;> omega
    rename_i h1; rw [if_neg h1] at h
    exfalso
    repeat' split at h
    all_goals exact ha _ h
  have hk : (keyF Q l k s).1 ≠ 8 := by unfold keyF; simp only; split <;> omega
  have hc : (cls k s).1 ≠ 8 := hf _
  have hb : (behF l k s).1 ≠ 8 := by
    unfold behF
    split
    · simp only; split <;> omega
    · by_cases h4 : pk l k = (if top s = true then 125 else 93)
      · rw [if_pos h4]; exact hc
      · rw [if_neg h4]; simp
  unfold turnF at h ⊢
  by_cases q0 : q = 0
  · rw [if_pos q0] at h ⊢
    obtain ⟨a, b, c⟩ := hv h
    exact ⟨a, .inl q0, b, c⟩
  rw [if_neg q0] at h ⊢
  by_cases q1 : q = 1
  · rw [if_pos q1] at h ⊢
    by_cases h3 : pk l k = 93
    · rw [if_pos h3] at h; exact absurd h hc
    rw [if_neg h3] at h ⊢
    obtain ⟨a, b, c⟩ := hv h
    exact ⟨a, .inr q1, b, c⟩
  rw [if_neg q1] at h
  exfalso
  repeat' split at h
  all_goals first | exact hk h | exact hc h | exact hb h | (simp only at h; omega)

/-- what is told of a text in quotes is told of the other one, too -/
def QSim (Q : List Nat → Nat → Bool × Nat) (b : Prop) (l l' : List Nat) (e : Nat) : Prop := ∀ k, k ≤ e → (Q l k).2 ≤ e → ((Q l k).1 = true ∨ b ∧ (Q l k).1 ≠ true ∧ (Q l k).2 = e) → Q l' k = Q l k
theorem val_sim {b : Prop} (hQ : QOk Q) {l l' : List Nat} {e m m' k : Nat} {s : List Bool} (h : Sim l l' e) (hq : QSim Q b l l' e) (hm : m ≤ m') (hk : (valF Q l m k s).2.1 ≤ e) (hr : (valF Q l m k s).1 ≤ 6 ∨ b ∧ (valF Q l m k s).1 = 7 ∧ (valF Q l m k s).2.1 = e) : valF Q l' m' k s = valF Q l m k s := by
  have hke : k ≤ e := Nat.le_trans (val_ge hQ) hk
  by_cases hs : spec (pk l k)
  · have hlt : k < e := Nat.lt_of_lt_of_le (val_spec hQ hs (by rcases hr with h | h <;> omega)) hk
    have hp := h.lo k hlt
    unfold valF at hk hr ⊢
    rw [hp]
    by_cases h1 : pk l k = 91 ∨ pk l k = 123
    · rw [if_pos h1] at hr
      rw [if_pos h1, if_pos h1]
      by_cases h2 : m ≤ s.length
      · rw [if_pos h2] at hr; simp only at hr; rcases hr with h | h <;> omega
      rw [if_neg h2]
      by_cases h3 : m' ≤ s.length
      · omega
      · rw [if_neg h3]
    rw [if_neg h1] at hk hr
    rw [if_neg h1, if_neg h1]
    by_cases h2 : pk l k = 34
    · rw [if_pos h2] at hk hr
      rw [if_pos h2, if_pos h2]
      have : Q l' k = Q l k := by
        refine hq k hke hk ?_
        by_cases h4 : (Q l k).1 = true
        · exact .inl h4
        · rcases hr with h3 | h3
          · unfold aft at h3; rw [if_neg h4] at h3; simp only at h3; omega
          · exact .inr ⟨h3.1, h4, h3.2.2⟩
      rw [this]
    rw [if_neg h2] at hk hr
    rw [if_neg h2, if_neg h2]
    by_cases h3 : pk l k = 110
    · rw [if_pos h3] at hk
      rw [if_pos h3, if_pos h3, h.wordF (by decide) hk]
    rw [if_neg h3] at hk
    rw [if_neg h3, if_neg h3]
    by_cases h4 : pk l k = 116
    · rw [if_pos h4] at hk
      rw [if_pos h4, if_pos h4, h.wordF (by decide) hk]
    rw [if_neg h4] at hk
    rw [if_neg h4, if_neg h4]
    by_cases h5 : pk l k = 102
    · rw [if_pos h5] at hk
      rw [if_pos h5, if_pos h5, h.wordF (by decide) hk]
    rw [if_neg h5] at hk
    rw [if_neg h5, if_neg h5, h.numF hk]
  · have hs' : ¬ spec (pk l' k) := by
      unfold spec at hs ⊢
      have f : ∀ c : Int, c ≠ -1 → c ≠ 32 → pk l k ≠ c → pk l' k ≠ c := fun c a b => h.ne hke a b
      have f1 := f 91 (by decide) (by decide)
      have f2 := f 123 (by decide) (by decide)
      have f3 := f 34 (by decide) (by decide)
      have f4 := f 110 (by decide) (by decide)
      have f5 := f 116 (by decide) (by decide)
      have f6 := f 102 (by decide) (by decide)
      omega
    rw [val_num hs] at hk ⊢
    rw [val_num hs', h.numF hk]
theorem key_sim {b : Prop} {l l' : List Nat} {e k : Nat} {s : List Bool} (hq : QSim Q b l l' e) (hke : k ≤ e) (hk : (keyF Q l k s).2.1 ≤ e) (hr : (keyF Q l k s).1 ≤ 6 ∨ b ∧ (keyF Q l k s).1 = 7 ∧ (keyF Q l k s).2.1 = e) : keyF Q l' k s = keyF Q l k s := by
  have : Q l' k = Q l k := by
    refine hq k hke hk ?_
    by_cases h4 : (Q l k).1 = true
    · exact .inl h4
    · rcases hr with h3 | h3
      · unfold keyF at h3; rw [if_neg h4] at h3; simp only at h3; omega
      · exact .inr ⟨h3.1, h4, h3.2.2⟩
  unfold keyF
  rw [this]
theorem turn_sim {b : Prop} (hQ : QOk Q) {l l' : List Nat} {e m m' q k : Nat} {s : List Bool} (h : Sim l l' e) (hq : QSim Q b l l' e) (hm : m ≤ m') (hk : (turnF Q l m q k s).2.1 ≤ e) (hr : (turnF Q l m q k s).1 ≤ 6 ∨ b ∧ (turnF Q l m q k s).1 = 7 ∧ (turnF Q l m q k s).2.1 = e) : turnF Q l' m' q k s = turnF Q l m q k s := by
  have hke : k ≤ e := Nat.le_trans (turn_ge hQ) hk
  have tk : ∀ c : Int, c ≠ -1 → c ≠ 32 → (pk l k = c → k + 1 ≤ e) → (pk l' k = c ↔ pk l k = c) := fun c a b f => by
    constructor
    · intro h1
      by_cases h2 : pk l k = c
      · exact h2
      · exact absurd h1 (h.ne hke a b h2)
    · intro h1; rw [h.lo k (f h1)]; exact h1
  unfold turnF at hk hr ⊢
  by_cases q0 : q = 0
  · rw [if_pos q0] at hk hr ⊢
    rw [if_pos q0]
    exact val_sim hQ h hq hm hk hr
  rw [if_neg q0] at hk hr ⊢
  rw [if_neg q0]
  by_cases q1 : q = 1
  · rw [if_pos q1] at hk hr ⊢
    rw [if_pos q1]
    by_cases h1 : pk l k = 93
    · rw [if_pos h1] at hk ⊢
      rw [if_pos ((tk 93 (by decide) (by decide) (fun _ => hk)).2 h1)]
    · rw [if_neg h1] at hk hr ⊢
      rw [if_neg (h.ne hke (by decide) (by decide) h1)]
      exact val_sim hQ h hq hm hk hr
  rw [if_neg q1] at hk hr ⊢
  rw [if_neg q1]
  by_cases q2 : q = 2
  · rw [if_pos q2] at hk hr ⊢
    rw [if_pos q2]
    exact key_sim hq hke hk hr
  rw [if_neg q2] at hk hr ⊢
  rw [if_neg q2]
  by_cases q3 : q = 3
  · rw [if_pos q3] at hk hr ⊢
    rw [if_pos q3]
    by_cases h1 : pk l k = 125
    · rw [if_pos h1] at hk ⊢
      rw [if_pos ((tk 125 (by decide) (by decide) (fun _ => hk)).2 h1)]
    · rw [if_neg h1] at hk hr ⊢
      rw [if_neg (h.ne hke (by decide) (by decide) h1)]
      exact key_sim hq hke hk hr
  rw [if_neg q3] at hk hr ⊢
  rw [if_neg q3]
  by_cases q4 : q = 4
  · rw [if_pos q4] at hk hr ⊢
    rw [if_pos q4]
    by_cases h1 : pk l k = 58
    · rw [if_pos h1] at hk ⊢
      rw [if_pos ((tk 58 (by decide) (by decide) (fun _ => hk)).2 h1)]
    · rw [if_neg h1] at hk hr ⊢
      rw [if_neg (h.ne hke (by decide) (by decide) h1)]
  rw [if_neg q4] at hk hr ⊢
  rw [if_neg q4]
  by_cases q5 : q = 5
  · rw [if_pos q5] at hk hr ⊢
    rw [if_pos q5]
    unfold behF at hk hr ⊢
    by_cases h1 : pk l k = 44
    · rw [if_pos h1] at hk ⊢
      rw [if_pos ((tk 44 (by decide) (by decide) (fun _ => hk)).2 h1)]
    · rw [if_neg h1] at hk hr ⊢
      rw [if_neg (h.ne hke (by decide) (by decide) h1)]
      have e1 : (if top s = true then (125 : Int) else 93) ≠ -1 := by split <;> decide
      have e2 : (if top s = true then (125 : Int) else 93) ≠ 32 := by split <;> decide
      by_cases h2 : pk l k = (if top s = true then 125 else 93)
      · rw [if_pos h2] at hk ⊢
        rw [if_pos ((tk _ e1 e2 (fun _ => hk)).2 h2)]
      · rw [if_neg h2] at hk hr ⊢
        rw [if_neg (h.ne hke e1 e2 h2)]
  · rw [if_neg q5] at hk hr ⊢
    rw [if_neg q5]
end Go.Proofs.YtefaieglhllioaaDoor.VM

/- valid: texts and streams over bytes that are alike, cut, shifted, deeper. Nothing of the program. -/
namespace Go.Proofs.YtefaieglhllioaaDoor.VM
open Go.Proofs.YtefaieglhllioaaDoor.QM

/-- what is asked of Q besides -/
structure QLaw (Q : List Nat → Nat → Bool × Nat) : Prop extends QOk Q where
  any : ∀ {l l' : List Nat} {e k : Nat}, Sim l l' e → k ≤ e → (Q l k).1 = true → (Q l k).2 ≤ e → Q l' k = Q l k
  take : ∀ {l : List Nat} {e k : Nat}, k ≤ e → e ≤ l.length → (Q l k).1 ≠ true → (Q l k).2 = e → Q (l.take e) k = Q l k
  wrong : ∀ {l l' : List Nat} {e k : Nat}, k ≤ e → e < l.length → e < l'.length → (∀ i, i ≤ e → pk l' i = pk l i) → pk l e ≤ 127 → (Q l k).1 ≠ true → (Q l k).2 = e → Q l' k = Q l k
  shift : ∀ (l : List Nat) (f k : Nat), Q l (f + k) = ((Q (l.drop f) k).1, f + (Q (l.drop f) k).2)
variable {Q : List Nat → Nat → Bool × Nat}

theorem Tx.ge (hQ : QOk Q) {l : List Nat} {m q k : Nat} {s : List Bool} {r e : Nat} (t : Tx Q l m q k s r e) : k ≤ e := by
  induction t with
  | stop h => exact Nat.le_refl _
  | go h t ih => exact Nat.le_trans bk_ge (Nat.le_trans (turn_ge hQ) ih)
theorem Tx.le (hQ : QOk Q) {l : List Nat} {m q k : Nat} {s : List Bool} {r e : Nat} (t : Tx Q l m q k s r e) : k ≤ l.length → e ≤ l.length := by
  induction t with
  | stop h => exact id
  | go h t ih => exact fun hk => ih (turn_le hQ (bk_le hk))
theorem Tx.fin {l : List Nat} {m q k : Nat} {s : List Bool} {r e : Nat} (t : Tx Q l m q k s r e) : q ≤ 8 → 6 ≤ r ∧ r ≤ 8 := by
  induction t with
  | stop h => exact fun h2 => ⟨h, h2⟩
  | go h t ih => exact fun _ => ih turn_fin
theorem Tx.det {l : List Nat} {m q k : Nat} {s : List Bool} {r e : Nat} (t : Tx Q l m q k s r e) : ∀ {r' e' : Nat}, Tx Q l m q k s r' e' → r = r' ∧ e = e' := by
  induction t with
  | stop h =>
    intro r' e' t
    cases t with
    | stop _ => exact ⟨rfl, rfl⟩
    | go h' _ => omega
  | go h t ih =>
    intro r' e' t'
    cases t' with
    | stop h' => omega
    | go _ t' => exact ih t'
theorem Txt.ge (hQ : QOk Q) {l : List Nat} {m k r e : Nat} (t : Txt Q l m k r e) : k ≤ e := Nat.le_trans (turn_ge hQ) (Tx.ge hQ t)
theorem Txt.le (hQ : QOk Q) {l : List Nat} {m k r e : Nat} (t : Txt Q l m k r e) (hk : k ≤ l.length) : e ≤ l.length := Tx.le hQ t (turn_le hQ hk)
theorem Txt.fin {l : List Nat} {m k r e : Nat} (t : Txt Q l m k r e) : 6 ≤ r ∧ r ≤ 8 := Tx.fin t turn_fin
theorem Txt.det {l : List Nat} {m k r e r' e' : Nat} (t : Txt Q l m k r e) (t' : Txt Q l m k r' e') : r = r' ∧ e = e' := Tx.det t t'
theorem Tx.six {l : List Nat} {m q k : Nat} {s : List Bool} {e : Nat} (t : Tx Q l m q k s 6 e) : q ≤ 6 := by
  cases t with
  | stop h => exact Nat.le_refl _
  | go h t => omega
theorem Txt.adv (hQ : QOk Q) {l : List Nat} {m k e : Nat} (t : Txt Q l m k 6 e) : k < e := Nat.lt_of_lt_of_le (turn_adv hQ (Tx.six t)) (Tx.ge hQ t)
theorem bk_sim {l l' : List Nat} {e k : Nat} (h : Sim l l' e) (hb : bk l k < e ∨ pk l' e ≠ 32) (hk : bk l k ≤ e) : bk l' k = bk l k := h.runP (by decide) (hb.elim .inl (fun h => .inr (.inr h))) hk

/-- a text that is whole stays so -/
theorem Tx.sim6 (hQ : QLaw Q) {l l' : List Nat} {E m m' : Nat} (h : Sim l l' E) (hm : m ≤ m') {q k : Nat} {s : List Bool} {r e : Nat} (t : Tx Q l m q k s r e) : r = 6 → e ≤ E → Tx Q l' m' q k s 6 e := by
  have hq : QSim Q False l l' E := fun k hk h2 h3 => hQ.any h hk (h3.resolve_right (fun h => h.1)) h2
  induction t with
  | stop h1 => intro hr _; subst hr; exact Tx.stop h1
  | @go q k s r e hq6 t ih =>
    intro hr he
    subst hr
    have h6 := Tx.six t
    have hge := Tx.ge hQ.toQOk t
    have hadv := turn_adv hQ.toQOk h6
    have hb := bk_sim h (.inl (by omega)) (show bk l k ≤ E by omega)
    have ht := turn_sim hQ.toQOk h hq hm (show (turnF Q l m q (bk l k) s).2.1 ≤ E by omega) (.inl h6)
    refine Tx.go hq6 ?_
    rw [hb, ht]
    exact ih rfl he
theorem Txt.sim6 (hQ : QLaw Q) {l l' : List Nat} {E m m' : Nat} (h : Sim l l' E) (hm : m ≤ m') {k e : Nat} (t : Txt Q l m k 6 e) (he : e ≤ E) : Txt Q l' m' k 6 e := by
  have hq : QSim Q False l l' E := fun k hk h2 h3 => hQ.any h hk (h3.resolve_right (fun h => h.1)) h2
  have hge := Tx.ge hQ.toQOk t
  unfold Txt at t ⊢
  rw [turn_sim hQ.toQOk h hq hm (show (turnF Q l m 0 k []).2.1 ≤ E by omega) (.inl (Tx.six t))]
  exact Tx.sim6 hQ h hm t rfl he
/-- what goes wrong goes wrong there -/
theorem Tx.sim7 (hQ : QOk Q) {l l' : List Nat} {E m : Nat} (h : Sim l l' E) (hE : pk l' E ≠ 32 ∨ pk l' E = pk l E) (hq : QSim Q True l l' E) {q k : Nat} {s : List Bool} {r e : Nat} (t : Tx Q l m q k s r e) : r = 7 → e = E → Tx Q l' m q k s 7 E := by
  induction t with
  | stop h1 => intro hr he; subst hr he; exact Tx.stop h1
  | @go q k s r e hq6 t ih =>
    intro hr he
    subst hr he
    have hge := Tx.ge hQ t
    have hge2 := turn_ge hQ (l := l) (m := m) (q := q) (k := bk l k) (s := s)
    have hb : bk l' k = bk l k := by
      refine bk_sim h ?_ (by omega)
      rcases Nat.lt_or_ge (bk l k) e with h1 | h1
      · exact .inl h1
      · right
        rcases hE with h2 | h2
        · exact h2
        · have h3 : bk l k = e := by omega
          have := (runP_spec (p := isB) (l := l) (k := k) (by decide) rfl).2.1
          rw [show runP isB l k = bk l k from rfl, h3] at this
          rw [h2]
          intro h4; rw [h4] at this; cases this
    have ht : turnF Q l' m q (bk l k) s = turnF Q l m q (bk l k) s := by
      refine turn_sim hQ h hq (Nat.le_refl _) (by omega) ?_
      by_cases h6 : (turnF Q l m q (bk l k) s).1 ≤ 6
      · exact .inl h6
      · refine .inr ⟨trivial, ?_⟩
        clear hge hge2 ih
        generalize turnF Q l m q (bk l k) s = T at *
        obtain ⟨a, b, c⟩ := T
        simp only at t h6 ⊢
        cases t with
        | stop _ => exact ⟨rfl, rfl⟩
        | go h7 _ => omega
    refine Tx.go hq6 ?_
    rw [hb, ht]
    exact ih rfl rfl
theorem Txt.sim7 (hQ : QOk Q) {l l' : List Nat} {m : Nat} {k E : Nat} (h : Sim l l' E) (hE : pk l' E ≠ 32 ∨ pk l' E = pk l E) (hq : QSim Q True l l' E) (t : Txt Q l m k 7 E) : Txt Q l' m k 7 E := by
  have hge := Tx.ge hQ t
  have ht : turnF Q l' m 0 k [] = turnF Q l m 0 k [] := by
    refine turn_sim hQ h hq (Nat.le_refl _) (by omega) ?_
    by_cases h6 : (turnF Q l m 0 k []).1 ≤ 6
    · exact .inl h6
    · refine .inr ⟨trivial, ?_⟩
      unfold Txt at t
      generalize turnF Q l m 0 k [] = T at *
      obtain ⟨a, b, c⟩ := T
      simp only at t h6 ⊢
      cases t with
      | stop _ => exact ⟨rfl, rfl⟩
      | go h7 _ => omega
  unfold Txt at t ⊢
  rw [ht]
  exact Tx.sim7 hQ h hE hq t rfl rfl
theorem turn_8i {l : List Nat} {m q k : Nat} {s : List Bool} (hq : q = 0 ∨ q = 1) (hp : pk l k = 91 ∨ pk l k = 123) (hm : m ≤ s.length) : turnF Q l m q k s = (8, k, s) := by
  have hv : valF Q l m k s = (8, k, s) := by unfold valF; rw [if_pos hp, if_pos hm]
  unfold turnF
  rcases hq with rfl | rfl
  · rw [if_pos rfl]; exact hv
  · rw [if_neg (by decide), if_pos rfl, if_neg (by omega)]; exact hv
theorem turn_end {l : List Nat} {m q k : Nat} {s : List Bool} (hq : q = 0 ∨ q = 1) (hp : pk l k = -1) : turnF Q l m q k s = (7, k, s) := by
  have hd : dg l k = k := runP_no (by rw [hp]; decide)
  have hv : valF Q l m k s = (7, k, s) := by
    rw [val_num (by rw [hp]; unfold spec; omega)]
    unfold numF
    rw [if_neg (by rw [hp]; decide)]
    unfold numA
    rw [if_neg (by rw [hp]; decide), hd, if_neg (Nat.lt_irrefl _)]
    rfl
  unfold turnF
  rcases hq with rfl | rfl
  · rw [if_pos rfl]; exact hv
  · rw [if_neg (by decide), if_pos rfl, if_neg (by rw [hp]; decide)]; exact hv
/-- a bracket that is one too many stands there still; where nothing stands, the text ends -/
theorem Tx.sim8 (hQ : QLaw Q) {l l' : List Nat} {E m : Nat} (h : Sim l l' E) (hE : pk l' E = pk l E ∨ pk l' E = -1) {q k : Nat} {s : List Bool} {r e : Nat} (t : Tx Q l m q k s r e) : r = 8 → e = E → q < 6 → Tx Q l' m q k s (if pk l' E = -1 then 7 else 8) E := by
  have hq : QSim Q False l l' E := fun k hk h2 h3 => hQ.any h hk (h3.resolve_right (fun h => h.1)) h2
  induction t with
  | stop h1 => intro hr he h6; omega
  | @go q k s r e hq6 t ih =>
    intro hr he _
    subst hr he
    have hge := Tx.ge hQ.toQOk t
    have hge2 := turn_ge hQ.toQOk (l := l) (m := m) (q := q) (k := bk l k) (s := s)
    have hb : bk l' k = bk l k := by
      refine bk_sim h ?_ (by omega)
      rcases Nat.lt_or_ge (bk l k) e with h1 | h1
      · exact .inl h1
      · right
        have h3 : bk l k = e := by omega
        have := (runP_spec (p := isB) (l := l) (k := k) (by decide) rfl).2.1
        rw [show runP isB l k = bk l k from rfl, h3] at this
        rcases hE with h2 | h2
        · rw [h2]; intro h4; rw [h4] at this; cases this
        · rw [h2]; decide
    refine Tx.go hq6 ?_
    rw [hb]
    by_cases h6 : (turnF Q l m q (bk l k) s).1 ≤ 6
    · rw [turn_sim hQ.toQOk h hq (Nat.le_refl _) (by omega) (.inl h6)]
      rcases Nat.lt_or_ge (turnF Q l m q (bk l k) s).1 6 with h7 | h7
      · exact ih rfl rfl h7
      · exfalso
        generalize turnF Q l m q (bk l k) s = T at *
        obtain ⟨a, b, c⟩ := T
        simp only at t h6 h7
        cases t with
        | stop _ => omega
        | go h8 _ => omega
    · have h8 : (turnF Q l m q (bk l k) s).1 = 8 ∧ (turnF Q l m q (bk l k) s).2.1 = e := by
        generalize turnF Q l m q (bk l k) s = T at *
        obtain ⟨a, b, c⟩ := T
        simp only at t h6 ⊢
        cases t with
        | stop _ => exact ⟨rfl, rfl⟩
        | go h8 _ => omega
      obtain ⟨e1, e2, e3, e4⟩ := turn_8 h8.1
      have e5 : bk l k = e := by rw [← h8.2, e1]
      rw [e5] at e3 ⊢
      by_cases hp : pk l' e = -1
      · rw [if_pos hp, turn_end e2 hp]; exact Tx.stop (by simp only; omega)
      · rw [if_neg hp, turn_8i e2 (by rw [hE.resolve_right hp]; exact e3) e4]; exact Tx.stop (by simp only; omega)
theorem Txt.sim8 (hQ : QLaw Q) {l l' : List Nat} {E m k : Nat} (h : Sim l l' E) (hE : pk l' E = pk l E ∨ pk l' E = -1) (t : Txt Q l m k 8 E) : Txt Q l' m k (if pk l' E = -1 then 7 else 8) E := by
  have hq : QSim Q False l l' E := fun k hk h2 h3 => hQ.any h hk (h3.resolve_right (fun h => h.1)) h2
  have hge := Tx.ge hQ.toQOk t
  unfold Txt at t ⊢
  by_cases h6 : (turnF Q l m 0 k []).1 ≤ 6
  · rw [turn_sim hQ.toQOk h hq (Nat.le_refl _) (by omega) (.inl h6)]
    rcases Nat.lt_or_ge (turnF Q l m 0 k []).1 6 with h7 | h7
    · exact Tx.sim8 hQ h hE t rfl rfl h7
    · exfalso
      generalize turnF Q l m 0 k [] = T at *
      obtain ⟨a, b, c⟩ := T
      simp only at t h6 h7
      cases t with
      | stop _ => omega
      | go h8 _ => omega
  · have h8 : (turnF Q l m 0 k []).1 = 8 ∧ (turnF Q l m 0 k []).2.1 = E := by
      generalize turnF Q l m 0 k [] = T at *
      obtain ⟨a, b, c⟩ := T
      simp only at t h6 ⊢
      cases t with
      | stop _ => exact ⟨rfl, rfl⟩
      | go h8 _ => omega
    obtain ⟨e1, e2, e3, e4⟩ := turn_8 h8.1
    have e5 : k = E := by rw [← h8.2, e1]
    rw [e5] at e3 ⊢
    by_cases hp : pk l' E = -1
    · rw [if_pos hp, turn_end e2 hp]; exact Tx.stop (by simp only; omega)
    · rw [if_neg hp, turn_8i e2 (by rw [hE.resolve_right hp]; exact e3) e4]; exact Tx.stop (by simp only; omega)
/-- where 8 is told, a bracket stands -/
theorem Tx.at8 {l : List Nat} {m q k : Nat} {s : List Bool} {r e : Nat} (t : Tx Q l m q k s r e) : r = 8 → q < 6 → pk l e = 91 ∨ pk l e = 123 := by
  induction t with
  | stop h => intro a b; omega
  | @go q k s r e hq6 t ih =>
    intro hr _
    subst hr
    by_cases h6 : (turnF Q l m q (bk l k) s).1 < 6
    · exact ih rfl h6
    · have h8 : (turnF Q l m q (bk l k) s).1 = 8 ∧ (turnF Q l m q (bk l k) s).2.1 = e := by
        generalize turnF Q l m q (bk l k) s = T at *
        obtain ⟨a, b, c⟩ := T
        simp only at t h6 ⊢
        cases t with
        | stop _ => exact ⟨rfl, rfl⟩
        | go h8 _ => omega
      obtain ⟨e1, _, e3, _⟩ := turn_8 h8.1
      rw [← h8.2, e1]; exact e3
theorem Txt.at8 {l : List Nat} {m k e : Nat} (t : Txt Q l m k 8 e) : pk l e = 91 ∨ pk l e = 123 := by
  unfold Txt at t
  by_cases h6 : (turnF Q l m 0 k []).1 < 6
  · exact Tx.at8 t rfl h6
  · have h8 : (turnF Q l m 0 k []).1 = 8 ∧ (turnF Q l m 0 k []).2.1 = e := by
      generalize turnF Q l m 0 k [] = T at *
      obtain ⟨a, b, c⟩ := T
      simp only at t h6 ⊢
      cases t with
      | stop _ => exact ⟨rfl, rfl⟩
      | go h8 _ => omega
    obtain ⟨e1, _, e3, _⟩ := turn_8 h8.1
    rw [← h8.2, e1]; exact e3
end Go.Proofs.YtefaieglhllioaaDoor.VM

/- valid: streams: cut where they go wrong, spans, joined, deeper. Nothing of the program. -/
namespace Go.Proofs.YtefaieglhllioaaDoor.VM
open Go.Proofs.YtefaieglhllioaaDoor.QM

variable {Q : List Nat → Nat → Bool × Nat}
theorem pk_take {l : List Nat} {e i : Nat} (hi : i < e) : pk (l.take e) i = pk l i := by
  unfold pk
  rw [List.length_take, List.getElem?_take, if_pos hi]
  by_cases h : i < l.length
  · rw [if_pos h, if_pos (by omega)]
  · rw [if_neg h, if_neg (by omega)]
theorem pk_tend {l : List Nat} {e : Nat} : pk (l.take e) e = -1 := pk_ge (by rw [List.length_take]; omega)
theorem sim_take {l : List Nat} {e : Nat} (he : e ≤ l.length) : Sim l (l.take e) e := ⟨fun _ hi => pk_take hi, .inr (.inl pk_tend), he⟩
theorem qsim_take (hQ : QLaw Q) {l : List Nat} {e : Nat} (he : e ≤ l.length) : QSim Q True l (l.take e) e := fun k hk h2 h3 => by
  rcases h3 with h3 | ⟨_, h3, h4⟩
  · exact hQ.any (sim_take he) hk h3 h2
  · exact hQ.take hk he h3 h4
theorem bk_tk {l : List Nat} {e k : Nat} (he : e ≤ l.length) (h : bk l k ≤ e) : bk (l.take e) k = bk l k := bk_sim (sim_take he) (.inr (by rw [pk_tend]; decide)) h
theorem bk_id {l : List Nat} {k : Nat} (h : isB (pk l k) = false) : bk l k = k := runP_no h
theorem Ck.ge (hQ : QOk Q) {l : List Nat} {m k : Nat} {sp : List (Nat × Nat)} {e y : Nat} (c : Ck Q l m k sp e y) : k ≤ l.length → k ≤ e ∧ e ≤ l.length := by
  induction c with
  | done h => exact fun hk => ⟨hk, Nat.le_refl _⟩
  | bad h t hr => exact fun hk => ⟨Nat.le_trans bk_ge (Txt.ge hQ t), Txt.le hQ t (Nat.le_of_lt h)⟩
  | last h t ha => exact fun hk => ⟨Nat.le_trans bk_ge (Txt.ge hQ t), Txt.le hQ t (Nat.le_of_lt h)⟩
  | next h t ha c ih =>
    intro hk
    have h1 := ih (Txt.le hQ t (Nat.le_of_lt h))
    have h2 := Txt.ge hQ t
    exact ⟨Nat.le_trans bk_ge (Nat.le_trans h2 h1.1), h1.2⟩
/-- the four ends -/
theorem Ck.ends (hQ : QOk Q) {l : List Nat} {m k : Nat} {sp : List (Nat × Nat)} {e y : Nat} (c : Ck Q l m k sp e y) : k ≤ l.length → (y = 0 ∨ y = 2) ∧ e = l.length ∨ (y = 1 ∨ y = 3) ∧ e < l.length := by
  induction c with
  | done h => exact fun hk => .inl ⟨.inl rfl, rfl⟩
  | bad h t hr =>
    intro hk
    have hle := Txt.le hQ t (Nat.le_of_lt h)
    unfold whyF
    split
    · exact .inl ⟨.inr rfl, by assumption⟩
    · refine .inr ⟨?_, by omega⟩
      split
      · exact .inr rfl
      · exact .inl rfl
  | last h t ha =>
    intro hk
    have hle := Txt.le hQ t (Nat.le_of_lt h)
    rename_i k e
    refine .inr ⟨.inl rfl, ?_⟩
    unfold endB at ha
    simp only [Bool.or_eq_false_iff, decide_eq_false_iff_not] at ha
    omega
  | next h t ha c ih => exact fun hk => ih (Txt.le hQ t (Nat.le_of_lt h))
theorem Ck.det {l : List Nat} {m k : Nat} {sp : List (Nat × Nat)} {e y : Nat} (c : Ck Q l m k sp e y) : ∀ {sp' : List (Nat × Nat)} {e' y' : Nat}, Ck Q l m k sp' e' y' → sp = sp' ∧ e = e' ∧ y = y' := by
  induction c with
  | done h =>
    intro sp' e' y' c'
    cases c' with
    | done _ => exact ⟨rfl, rfl, rfl⟩
    | bad h' _ _ => omega
    | last h' _ _ => omega
    | next h' _ _ _ => omega
  | bad h t hr =>
    intro sp' e' y' c'
    cases c' with
    | done h' => omega
    | bad h' t' _ => obtain ⟨rfl, rfl⟩ := t.det t'; exact ⟨rfl, rfl, rfl⟩
    | last h' t' _ => obtain ⟨rfl, rfl⟩ := t.det t'; exact absurd rfl hr
    | next h' t' _ _ => obtain ⟨rfl, rfl⟩ := t.det t'; exact absurd rfl hr
  | last h t ha =>
    intro sp' e' y' c'
    cases c' with
    | done h' => omega
    | bad h' t' hr => obtain ⟨rfl, rfl⟩ := t.det t'; exact absurd rfl hr
    | last h' t' _ => obtain ⟨_, rfl⟩ := t.det t'; exact ⟨rfl, rfl, rfl⟩
    | next h' t' ha' _ => obtain ⟨_, rfl⟩ := t.det t'; rw [ha] at ha'; cases ha'
  | next h t ha c ih =>
    intro sp' e' y' c'
    cases c' with
    | done h' => omega
    | bad h' t' hr => obtain ⟨rfl, rfl⟩ := t.det t'; exact absurd rfl hr
    | last h' t' ha' => obtain ⟨_, rfl⟩ := t.det t'; rw [ha] at ha'; cases ha'
    | next h' t' _ c' =>
      obtain ⟨_, rfl⟩ := t.det t'
      obtain ⟨rfl, rfl, rfl⟩ := ih c'
      exact ⟨rfl, rfl, rfl⟩

/-- P9.3: the bytes up to where a stream goes wrong are a stream, or end too early -/
theorem Ck.upto (hQ : QLaw Q) {l : List Nat} {m k : Nat} {sp : List (Nat × Nat)} {e y : Nat} (c : Ck Q l m k sp e y) : k ≤ l.length → ∃ sp' y', Ck Q (l.take e) m k sp' e y' ∧ (y' = 0 ∨ y' = 2) := by
  have hl : ∀ {e : Nat}, e ≤ l.length → (l.take e).length = e := fun h => by rw [List.length_take]; omega
  induction c with
  | @done k h =>
    intro hk
    rw [List.take_length]
    exact ⟨[], 0, Ck.done h, .inl rfl⟩
  | @bad k r e h t hr =>
    intro hk
    have hge := Txt.ge hQ.toQOk t
    have hle := Txt.le hQ.toQOk t (Nat.le_of_lt h)
    have hb := bk_tk hle hge
    have hend := hl hle
    have hfin := t.fin
    rcases Nat.lt_or_ge (bk l k) e with h1 | h1
    · have t7 : Txt Q (l.take e) m (bk l k) 7 e := by
        have hr2 : r = 7 ∨ r = 8 := by omega
        rcases hr2 with rfl | rfl
        · exact Txt.sim7 hQ.toQOk (sim_take hle) (.inl (by rw [pk_tend]; decide)) (qsim_take hQ hle) t
        · have := Txt.sim8 hQ (sim_take hle) (.inr pk_tend) t
          rwa [if_pos pk_tend] at this
      have := Ck.bad (Q := Q) (l := l.take e) (m := m) (k := k) (r := 7) (e := e) (by rw [hb, hend]; exact h1) (by rw [hb]; exact t7) (by decide)
      unfold whyF at this
      rw [if_pos hend.symm] at this
      exact ⟨_, _, this, .inr rfl⟩
    · have := Ck.done (Q := Q) (l := l.take e) (m := m) (k := k) (by rw [hb, hend]; omega)
      rw [hend] at this
      exact ⟨_, _, this, .inl rfl⟩
  | @last k e h t ha =>
    intro hk
    have hadv := Txt.adv hQ.toQOk t
    have hle := Txt.le hQ.toQOk t (Nat.le_of_lt h)
    have hb := bk_tk hle (by omega : bk l k ≤ e)
    have hend := hl hle
    have t6 := Txt.sim6 hQ (sim_take hle) (Nat.le_refl m) t (Nat.le_refl _)
    have hd := Ck.done (Q := Q) (l := l.take e) (m := m) (k := e) (by rw [bk_id (by rw [pk_tend]; decide), hend])
    rw [hend] at hd
    have := Ck.next (Q := Q) (l := l.take e) (m := m) (k := k) (e := e) (by rw [hb, hend]; exact hadv) (by rw [hb]; exact t6) (by unfold endB; rw [hend]; simp) hd
    exact ⟨_, _, this, .inl rfl⟩
  | @next k e1 sp f y h t ha c ih =>
    intro hk
    have hadv := Txt.adv hQ.toQOk t
    have hle1 := Txt.le hQ.toQOk t (Nat.le_of_lt h)
    obtain ⟨hge, hle⟩ := c.ge hQ.toQOk hle1
    obtain ⟨sp', y', c', hy⟩ := ih hle1
    have hb := bk_tk hle (by omega : bk l k ≤ f)
    have hend := hl hle
    have t6 := Txt.sim6 hQ (sim_take hle) (Nat.le_refl m) t hge
    refine ⟨_, _, Ck.next (e := e1) (by rw [hb, hend]; omega) (by rw [hb]; exact t6) ?_ c', hy⟩
    unfold endB at ha ⊢
    rw [hend]
    rcases Nat.eq_or_lt_of_le hge with h1 | h1
    · simp [h1]
    · rw [pk_take h1]
      simp only [Bool.or_eq_true, decide_eq_true_eq] at ha ⊢
      rcases ha with h2 | h2
      · omega
      · exact .inr h2
/-- with the byte there it goes wrong at the same place, whatever comes behind -/
theorem Ck.wrong (hQ : QLaw Q) {l l' : List Nat} {m k : Nat} {sp : List (Nat × Nat)} {e y : Nat} (c : Ck Q l m k sp e y) : k ≤ l.length → e < l.length → e < l'.length → (∀ i, i ≤ e → pk l' i = pk l i) → pk l e ≤ 127 → ∃ sp', Ck Q l' m k sp' e y := by
  induction c with
  | done h => intro _ h1; omega
  | @bad k r e h t hr =>
    intro hk hel hel' hs h7
    have hge := Txt.ge hQ.toQOk t
    have hsim : Sim l l' e := ⟨fun i hi => hs i (by omega), .inl (hs e (Nat.le_refl _)), by omega⟩
    have hq : QSim Q True l l' e := fun k hk h2 h3 => by
      rcases h3 with h3 | ⟨_, h3, h4⟩
      · exact hQ.any hsim hk h3 h2
      · exact hQ.wrong hk hel hel' hs h7 h3 h4
    have hb : bk l' k = bk l k := by
      obtain ⟨a, b, _⟩ := runP_spec (p := isB) (l := l) (k := k) (by decide) rfl
      refine runP_is (n := bk l k - k) (by rw [hs _ hge]; exact b) (by have := bk_ge (l := l) (k := k); omega) (fun i h1 h2 => ⟨by rw [hs i (by omega)]; exact (a i h1 h2).1, by omega⟩)
    have hfin := t.fin
    have hr2 : r = 7 ∨ r = 8 := by omega
    have hw : whyF l' e r = whyF l e r := by unfold whyF; rw [if_neg (show ¬ e = l'.length by omega), if_neg (show ¬ e = l.length by omega)]
    rw [← hw]
    refine ⟨_, Ck.bad (by rw [hb]; omega) ?_ hr⟩
    rw [hb]
    rcases hr2 with rfl | rfl
    · exact Txt.sim7 hQ.toQOk hsim (.inr (hs e (Nat.le_refl _))) hq t
    · have := Txt.sim8 hQ hsim (.inl (hs e (Nat.le_refl _))) t
      rwa [if_neg (by rw [hs e (Nat.le_refl _)]; have := pk_nn hel; omega)] at this
  | @last k e h t ha =>
    intro hk hel hel' hs h7
    have hadv := Txt.adv hQ.toQOk t
    have hsim : Sim l l' e := ⟨fun i hi => hs i (by omega), .inl (hs e (Nat.le_refl _)), by omega⟩
    have hb := bk_sim hsim (.inl hadv) (by omega)
    refine ⟨_, Ck.last (e := e) (by rw [hb]; omega) (by rw [hb]; exact Txt.sim6 hQ hsim (Nat.le_refl _) t (Nat.le_refl _)) ?_⟩
    unfold endB at ha ⊢
    rw [hs e (Nat.le_refl _)]
    simp only [Bool.or_eq_false_iff, decide_eq_false_iff_not] at ha ⊢
    exact ⟨by omega, ha.2⟩
  | @next k e1 sp f y h t ha c ih =>
    intro hk hel hel' hs h7
    have hadv := Txt.adv hQ.toQOk t
    have hle1 := Txt.le hQ.toQOk t (Nat.le_of_lt h)
    obtain ⟨hge, hle⟩ := c.ge hQ.toQOk hle1
    obtain ⟨sp', c'⟩ := ih hle1 hel hel' hs h7
    have hsim : Sim l l' f := ⟨fun i hi => hs i (by omega), .inl (hs f (Nat.le_refl _)), by omega⟩
    have hb := bk_sim hsim (.inl (by omega)) (by omega : bk l k ≤ f)
    refine ⟨_, Ck.next (e := e1) (by rw [hb]; omega) (by rw [hb]; exact Txt.sim6 hQ hsim (Nat.le_refl _) t hge) ?_ c'⟩
    unfold endB at ha ⊢
    rw [hs e1 hge]
    simp only [Bool.or_eq_true, decide_eq_true_eq] at ha ⊢
    rcases ha with h2 | h2
    · omega
    · exact .inr h2

/-! deeper -/
theorem val_deep {l : List Nat} {m m' k : Nat} {s : List Bool} (hm : m ≤ m') (h : (valF Q l m k s).1 ≠ 8) : valF Q l m' k s = valF Q l m k s := by
  unfold valF at h ⊢
  by_cases h1 : pk l k = 91 ∨ pk l k = 123
  · rw [if_pos h1] at h
    rw [if_pos h1, if_pos h1]
    by_cases h2 : m ≤ s.length
    · rw [if_pos h2] at h; exact absurd rfl h
    rw [if_neg h2]
    by_cases h3 : m' ≤ s.length
    · omega
    · rw [if_neg h3]
  · rw [if_neg h1, if_neg h1]
theorem turn_deep {l : List Nat} {m m' q k : Nat} {s : List Bool} (hm : m ≤ m') (h : (turnF Q l m q k s).1 ≠ 8) : turnF Q l m' q k s = turnF Q l m q k s := by
  unfold turnF at h ⊢
  by_cases q0 : q = 0
  · rw [if_pos q0] at h
    rw [if_pos q0, if_pos q0]; exact val_deep hm h
  rw [if_neg q0] at h
  rw [if_neg q0, if_neg q0]
  by_cases q1 : q = 1
  · rw [if_pos q1] at h
    rw [if_pos q1, if_pos q1]
    by_cases h1 : pk l k = 93
    · rw [if_pos h1, if_pos h1]
    · rw [if_neg h1] at h
      rw [if_neg h1, if_neg h1]; exact val_deep hm h
  · rw [if_neg q1, if_neg q1]
theorem Tx.top8 {l : List Nat} {m k : Nat} {s : List Bool} {r e : Nat} (t : Tx Q l m 8 k s r e) : r = 8 ∧ e = k := by
  cases t with
  | stop _ => exact ⟨rfl, rfl⟩
  | go h _ => omega
theorem Tx.deep {l : List Nat} {m m' : Nat} (hm : m ≤ m') {q k : Nat} {s : List Bool} {r e : Nat} (t : Tx Q l m q k s r e) : r ≠ 8 → Tx Q l m' q k s r e := by
  induction t with
  | stop h => exact fun _ => Tx.stop h
  | @go q k s r e hq t ih =>
    intro hr
    have h8 : (turnF Q l m q (bk l k) s).1 ≠ 8 := by
      intro h8
      have t' := t
      rw [h8] at t'
      exact hr t'.top8.1
    refine Tx.go hq ?_
    rw [turn_deep hm h8]
    exact ih hr
theorem Txt.deep {l : List Nat} {m m' k r e : Nat} (hm : m ≤ m') (t : Txt Q l m k r e) (hr : r ≠ 8) : Txt Q l m' k r e := by
  have h8 : (turnF Q l m 0 k []).1 ≠ 8 := by
    intro h8
    have t' : Tx Q l m (turnF Q l m 0 k []).1 (turnF Q l m 0 k []).2.1 (turnF Q l m 0 k []).2.2 r e := t
    rw [h8] at t'
    exact hr t'.top8.1
  unfold Txt at t ⊢
  rw [turn_deep hm h8]
  exact Tx.deep hm t hr
theorem Tx.deeper (hQ : QOk Q) {l : List Nat} {m m' : Nat} (hm : m ≤ m') {q k : Nat} {s : List Bool} {r e : Nat} (t : Tx Q l m q k s r e) : ∀ {r' e' : Nat}, Tx Q l m' q k s r' e' → e ≤ e' := by
  induction t with
  | stop h =>
    intro r' e' t'
    exact Tx.ge hQ t'
  | @go q k s r e hq t ih =>
    intro r' e' t'
    cases t' with
    | stop h => omega
    | go _ t' =>
      by_cases h8 : (turnF Q l m q (bk l k) s).1 = 8
      · have := t
        rw [h8] at this
        obtain ⟨_, e1⟩ := this.top8
        rw [e1, (turn_8 h8).1]
        exact Nat.le_trans (turn_ge hQ) (Tx.ge hQ t')
      · rw [turn_deep hm h8] at t'
        exact ih t'
theorem Txt.deeper (hQ : QOk Q) {l : List Nat} {m m' k r e r' e' : Nat} (hm : m ≤ m') (t : Txt Q l m k r e) (t' : Txt Q l m' k r' e') : e ≤ e' := by
  unfold Txt at t t'
  by_cases h8 : (turnF Q l m 0 k []).1 = 8
  · have := t
    rw [h8] at this
    obtain ⟨_, e1⟩ := this.top8
    rw [e1, (turn_8 h8).1]
    exact Nat.le_trans (turn_ge hQ) (Tx.ge hQ t')
  · rw [turn_deep hm h8] at t'
    exact Tx.deeper hQ hm t t'
/-- what is no fault of the depth stays -/
theorem Ck.deep (hQ : QOk Q) {l : List Nat} {m m' k : Nat} (hm : m ≤ m') {sp : List (Nat × Nat)} {e y : Nat} (c : Ck Q l m k sp e y) : k ≤ l.length → y ≠ 3 → Ck Q l m' k sp e y := by
  induction c with
  | done h => exact fun _ _ => Ck.done h
  | @bad k r e h t hr =>
    intro hk hy
    have hle := Txt.le hQ t (Nat.le_of_lt h)
    refine Ck.bad h (t.deep hm ?_) hr
    intro h8
    subst h8
    have := Txt.at8 t
    have hlt : e < l.length := pk_pos (by omega)
    apply hy
    unfold whyF
    rw [if_neg (by omega), if_pos rfl]
  | last h t ha => exact fun _ _ => Ck.last h (t.deep hm (by decide)) ha
  | next h t ha c ih => exact fun _ hy => Ck.next h (t.deep hm (by decide)) ha (ih (Txt.le hQ t (Nat.le_of_lt h)) hy)
/-- what is one goes wrong no earlier -/
theorem Ck.deeper (hQ : QOk Q) {l : List Nat} {m m' k : Nat} (hm : m ≤ m') {sp : List (Nat × Nat)} {e y : Nat} (c : Ck Q l m k sp e y) : k ≤ l.length → y = 3 → ∀ {sp' : List (Nat × Nat)} {e' y' : Nat}, Ck Q l m' k sp' e' y' → e ≤ e' ∧ sp.length ≤ sp'.length := by
  induction c with
  | done h => intro _ hy; cases hy
  | bad h t hr =>
    intro hk hy sp' e' y' c'
    refine ⟨?_, Nat.zero_le _⟩
    cases c' with
    | done h' => exact Txt.le hQ t (Nat.le_of_lt h)
    | bad h' t' _ => exact t.deeper hQ hm t'
    | last h' t' _ => exact t.deeper hQ hm t'
    | next h' t' _ c' => exact Nat.le_trans (t.deeper hQ hm t') (c'.ge hQ (Txt.le hQ t' (Nat.le_of_lt h'))).1
  | last h t ha => intro _ hy; cases hy
  | next h t ha c ih =>
    intro hk hy sp' e' y' c'
    have t2 := t.deep hm (by decide)
    cases c' with
    | done h' => omega
    | bad h' t' hr => obtain ⟨rfl, rfl⟩ := t2.det t'; exact absurd rfl hr
    | last h' t' ha' => obtain ⟨_, rfl⟩ := t2.det t'; rw [ha] at ha'; cases ha'
    | next h' t' _ c' =>
      obtain ⟨_, rfl⟩ := t2.det t'
      obtain ⟨i1, i2⟩ := ih (Txt.le hQ t (Nat.le_of_lt h)) hy c'
      exact ⟨i1, by simp only [List.length_cons]; omega⟩
end Go.Proofs.YtefaieglhllioaaDoor.VM

/- valid: a part of the bytes read for itself; spans; two streams joined. Nothing of the program. -/
namespace Go.Proofs.YtefaieglhllioaaDoor.VM
open Go.Proofs.YtefaieglhllioaaDoor.QM

variable {Q : List Nat → Nat → Bool × Nat}
theorem pk_dr (l : List Nat) (f i : Nat) : pk (l.drop f) i = pk l (f + i) := by
  unfold pk
  rw [List.length_drop, List.getElem?_drop]
  by_cases h : f + i < l.length
  · rw [if_pos (by omega), if_pos h]
  · rw [if_neg (by omega), if_neg h]
theorem runN_dr {p : Int → Bool} {l : List Nat} {f : Nat} : ∀ {n k : Nat}, runN p l n (f + k) = f + runN p (l.drop f) n k := by
  intro n
  induction n with
  | zero => intro k; rfl
  | succ n ih =>
    intro k
    simp only [runN, pk_dr]
    split
    · exact ih (k := k + 1)
    · rfl
theorem runP_dr {p : Int → Bool} {l : List Nat} {f k : Nat} : runP p l (f + k) = f + runP p (l.drop f) k := by
  unfold runP
  rw [List.length_drop, Nat.sub_add_eq]
  exact runN_dr
theorem dg_dr {l : List Nat} {f k : Nat} : dg l (f + k) = f + dg (l.drop f) k := runP_dr
theorem bk_dr {l : List Nat} {f k : Nat} : bk l (f + k) = f + bk (l.drop f) k := runP_dr
def sh (f : Nat) (r : Bool × Nat) : Bool × Nat := (r.1, f + r.2)
theorem numC_dr {l : List Nat} {f k : Nat} : numC l (f + k) = sh f (numC (l.drop f) k) := by
  unfold numC
  rw [pk_dr, pk_dr, ← Nat.add_assoc f k 1]
  by_cases h1 : pk l (f + k) = 101 ∨ pk l (f + k) = 69
  · rw [if_pos h1, if_pos h1]
    by_cases h2 : pk l (f + k + 1) = 43 ∨ pk l (f + k + 1) = 45
    · rw [if_pos h2, if_pos h2, show f + k + 2 = f + (k + 2) by omega, dg_dr]
      unfold sh
      simp
    · rw [if_neg h2, if_neg h2, show f + k + 1 = f + (k + 1) by omega, dg_dr]
      unfold sh
      simp
  · rw [if_neg h1, if_neg h1]; rfl
theorem numB_dr {l : List Nat} {f k : Nat} : numB l (f + k) = sh f (numB (l.drop f) k) := by
  unfold numB
  rw [pk_dr, show f + k + 1 = f + (k + 1) by omega, dg_dr, numC_dr, numC_dr]
  by_cases h1 : pk l (f + k) = 46
  · rw [if_pos h1, if_pos h1]
    by_cases h2 : k + 1 < dg (l.drop f) (k + 1)
    · rw [if_pos h2, if_pos (by omega)]
    · rw [if_neg h2, if_neg (by omega)]; rfl
  · rw [if_neg h1, if_neg h1]
theorem numA_dr {l : List Nat} {f k : Nat} : numA l (f + k) = sh f (numA (l.drop f) k) := by
  unfold numA
  rw [pk_dr, show f + k + 1 = f + (k + 1) by omega, dg_dr]
  by_cases h1 : pk l (f + k) = 48
  · rw [if_pos h1, if_pos h1]; exact numB_dr
  · rw [if_neg h1, if_neg h1]
    by_cases h2 : k < dg (l.drop f) k
    · rw [if_pos h2, if_pos (by omega)]; exact numB_dr
    · rw [if_neg h2, if_neg (by omega)]; rfl
theorem numF_dr {l : List Nat} {f k : Nat} : numF l (f + k) = sh f (numF (l.drop f) k) := by
  unfold numF
  rw [pk_dr]
  by_cases h1 : pk l (f + k) = 45
  · rw [if_pos h1, if_pos h1, show f + k + 1 = f + (k + 1) by omega]; exact numA_dr
  · rw [if_neg h1, if_neg h1]; exact numA_dr
theorem wordF_dr {l : List Nat} {f : Nat} : ∀ {cs : List Int} {k : Nat}, wordF l (f + k) cs = sh f (wordF (l.drop f) k cs) := by
  intro cs
  induction cs with
  | nil => intro k; rfl
  | cons c cs ih =>
    intro k
    simp only [wordF, pk_dr]
    by_cases h1 : pk l (f + k) = c
    · rw [if_pos h1, if_pos h1, show f + k + 1 = f + (k + 1) by omega]; exact ih
    · rw [if_neg h1, if_neg h1]; rfl
def sh3 (f : Nat) (r : Nat × Nat × List Bool) : Nat × Nat × List Bool := (r.1, f + r.2.1, r.2.2)
theorem aft_dr {f : Nat} {s : List Bool} {r : Bool × Nat} : aft s (sh f r) = sh3 f (aft s r) := rfl
theorem val_dr (hQ : QLaw Q) {l : List Nat} {m f k : Nat} {s : List Bool} : valF Q l m (f + k) s = sh3 f (valF Q (l.drop f) m k s) := by
  have hq : Q l (f + k) = sh f (Q (l.drop f) k) := hQ.shift l f k
  unfold valF
  rw [pk_dr, hq, wordF_dr, wordF_dr, wordF_dr, numF_dr, aft_dr, aft_dr, aft_dr, aft_dr, aft_dr]
  by_cases h1 : pk l (f + k) = 91 ∨ pk l (f + k) = 123
  · rw [if_pos h1, if_pos h1]
    by_cases h2 : m ≤ s.length
    · rw [if_pos h2, if_pos h2]; rfl
    · rw [if_neg h2, if_neg h2]; rfl
  rw [if_neg h1, if_neg h1]
  by_cases h2 : pk l (f + k) = 34
  · rw [if_pos h2, if_pos h2]
  rw [if_neg h2, if_neg h2]
  by_cases h3 : pk l (f + k) = 110
  · rw [if_pos h3, if_pos h3]
  rw [if_neg h3, if_neg h3]
  by_cases h4 : pk l (f + k) = 116
  · rw [if_pos h4, if_pos h4]
  rw [if_neg h4, if_neg h4]
  by_cases h5 : pk l (f + k) = 102
  · rw [if_pos h5, if_pos h5]
  rw [if_neg h5, if_neg h5]
theorem turn_dr (hQ : QLaw Q) {l : List Nat} {m q f k : Nat} {s : List Bool} : turnF Q l m q (f + k) s = sh3 f (turnF Q (l.drop f) m q k s) := by
  have hq : Q l (f + k) = sh f (Q (l.drop f) k) := hQ.shift l f k
  have hkey : keyF Q l (f + k) s = sh3 f (keyF Q (l.drop f) k s) := by unfold keyF; rw [hq]; rfl
  have hcls : cls (f + k) s = sh3 f (cls k s) := rfl
  have hbeh : behF l (f + k) s = sh3 f (behF (l.drop f) k s) := by
    unfold behF
    rw [pk_dr]
    by_cases h1 : pk l (f + k) = 44
    · rw [if_pos h1, if_pos h1]; rfl
    rw [if_neg h1, if_neg h1]
    by_cases h2 : pk l (f + k) = (if top s = true then 125 else 93)
    · rw [if_pos h2, if_pos h2]; rfl
    · rw [if_neg h2, if_neg h2]; rfl
  unfold turnF
  rw [pk_dr, val_dr hQ, hkey, hcls, hbeh]
  by_cases q0 : q = 0
  · rw [if_pos q0, if_pos q0]
  rw [if_neg q0, if_neg q0]
  by_cases q1 : q = 1
  · rw [if_pos q1, if_pos q1]
    by_cases h1 : pk l (f + k) = 93
    · rw [if_pos h1, if_pos h1]
    · rw [if_neg h1, if_neg h1]
  rw [if_neg q1, if_neg q1]
  by_cases q2 : q = 2
  · rw [if_pos q2, if_pos q2]
  rw [if_neg q2, if_neg q2]
  by_cases q3 : q = 3
  · rw [if_pos q3, if_pos q3]
    by_cases h1 : pk l (f + k) = 125
    · rw [if_pos h1, if_pos h1]
    · rw [if_neg h1, if_neg h1]
  rw [if_neg q3, if_neg q3]
  by_cases q4 : q = 4
  · rw [if_pos q4, if_pos q4]
    by_cases h1 : pk l (f + k) = 58
    · rw [if_pos h1, if_pos h1]; rfl
    · rw [if_neg h1, if_neg h1]; rfl
  rw [if_neg q4, if_neg q4]
  by_cases q5 : q = 5
  · rw [if_pos q5, if_pos q5]
  · rw [if_neg q5, if_neg q5]; rfl
theorem Tx.up (hQ : QLaw Q) {l : List Nat} {m f : Nat} {q k : Nat} {s : List Bool} {r e : Nat} (t : Tx Q (l.drop f) m q k s r e) : Tx Q l m q (f + k) s r (f + e) := by
  induction t with
  | stop h => exact Tx.stop h
  | @go q k s r e hq t ih =>
    refine Tx.go hq ?_
    rw [bk_dr, turn_dr hQ]
    exact ih
theorem Txt.up (hQ : QLaw Q) {l : List Nat} {m f k r e : Nat} (t : Txt Q (l.drop f) m k r e) : Txt Q l m (f + k) r (f + e) := by
  unfold Txt at t ⊢
  rw [turn_dr hQ]
  exact Tx.up hQ t
theorem Tx.down (hQ : QLaw Q) {l : List Nat} {m f : Nat} {q K : Nat} {s : List Bool} {r e : Nat} (t : Tx Q l m q K s r e) : ∀ k, K = f + k → ∃ e', e = f + e' ∧ Tx Q (l.drop f) m q k s r e' := by
  induction t with
  | stop h => intro k hk; exact ⟨k, hk, Tx.stop h⟩
  | @go q K s r e hq t ih =>
    intro k hk
    subst hk
    rw [bk_dr, turn_dr hQ] at t ih
    obtain ⟨e', h1, h2⟩ := ih _ rfl
    exact ⟨e', h1, Tx.go hq h2⟩
theorem Txt.down (hQ : QLaw Q) {l : List Nat} {m f k r e : Nat} (t : Txt Q l m (f + k) r e) : ∃ e', e = f + e' ∧ Txt Q (l.drop f) m k r e' := by
  unfold Txt at t ⊢
  rw [turn_dr hQ] at t
  exact Tx.down hQ t _ rfl
/-- a text that is whole is one for itself, where it may go deeper -/
theorem Txt.one (hQ : QLaw Q) {l : List Nat} {m m' f t : Nat} (h : Txt Q l m f 6 t) (hm : m ≤ m') (hf : f ≤ l.length) : Txt Q ((l.drop f).take (t - f)) m' 0 6 ((l.drop f).take (t - f)).length ∧ ((l.drop f).take (t - f)).length = t - f := by
  have hge := Txt.ge hQ.toQOk h
  have hle := Txt.le hQ.toQOk h hf
  have h2 := Txt.sim6 hQ (sim_take hle) hm h (Nat.le_refl _)
  have hl : ((l.drop f).take (t - f)).length = t - f := by rw [List.length_take, List.length_drop]; omega
  obtain ⟨e', e1, e2⟩ := Txt.down hQ (f := f) (k := 0) h2
  have hd : (l.take t).drop f = (l.drop f).take (t - f) := by rw [List.drop_take]
  rw [hd] at e2
  refine ⟨?_, hl⟩
  rw [hl]
  have : e' = t - f := by omega
  rw [this] at e2
  exact e2
/-- spans rise, with a blank between two; each is a text -/
theorem Ck.spans (hQ : QLaw Q) {l : List Nat} {m k : Nat} {sp : List (Nat × Nat)} {e y : Nat} (c : Ck Q l m k sp e y) : k ≤ l.length → (∀ (i : Nat) (p : Nat × Nat), sp[i]? = some p → k ≤ p.1 ∧ p.1 < p.2 ∧ p.2 ≤ e ∧ Txt Q l m p.1 6 p.2) ∧ (∀ (i : Nat) (p p' : Nat × Nat), sp[i]? = some p → sp[i + 1]? = some p' → p.2 < p'.1) ∧ (∀ p : Nat × Nat, sp[0]? = some p → p.1 = bk l k) := by
  induction c with
  | done h => intro _; exact ⟨fun i p h => by simp at h, fun i p p' h => by simp at h, fun p h => by simp at h⟩
  | bad h t hr => intro _; exact ⟨fun i p h => by simp at h, fun i p p' h => by simp at h, fun p h => by simp at h⟩
  | @last k e h t ha =>
    intro hk
    have hadv := Txt.adv hQ.toQOk t
    split
    · exact ⟨fun i p h => by simp at h, fun i p p' h => by simp at h, fun p h => by simp at h⟩
    · refine ⟨fun i p h => ?_, fun i p p' _ h => ?_, fun p h => ?_⟩
      · match i, h with
        | 0, h => simp at h; subst h; exact ⟨bk_ge, hadv, Nat.le_refl _, t⟩
        | i + 1, h => simp at h
      · simp at h
      · simp at h; rw [← h]
  | @next k e1 sp f y h t ha c ih =>
    intro hk
    have hadv := Txt.adv hQ.toQOk t
    have hle1 := Txt.le hQ.toQOk t (Nat.le_of_lt h)
    obtain ⟨i1, i2, i3⟩ := ih hle1
    have hge := (c.ge hQ.toQOk hle1).1
    refine ⟨fun i p h => ?_, fun i p p' h h' => ?_, fun p h => ?_⟩
    · match i, h with
      | 0, h => simp at h; subst h; exact ⟨bk_ge, hadv, hge, t⟩
      | i + 1, h =>
        have := i1 i p (by simpa using h)
        exact ⟨by have := bk_ge (l := l) (k := k); omega, this.2⟩
    · match i, h with
      | 0, h =>
        simp at h; subst h
        have h0 : sp[0]? = some p' := by simpa using h'
        have h3 := i3 p' h0
        have h4 := i1 0 p' h0
        have hlt : bk l e1 < l.length := by
          have := Txt.adv hQ.toQOk h4.2.2.2
          have := Txt.le hQ.toQOk h4.2.2.2 (by rw [h3]; exact bk_le hle1)
          omega
        unfold endB at ha
        simp only [Bool.or_eq_true, decide_eq_true_eq] at ha
        rcases ha with ha | ha
        · rw [ha, show bk l l.length = l.length from runP_end (Nat.le_refl _)] at hlt; omega
        · have e5 : bk l e1 = bk l (e1 + 1) := runP_yes (by have := bk_ge (l := l) (k := e1); omega) ha
          have := bk_ge (l := l) (k := e1 + 1)
          simp only; omega
      | i + 1, h => exact i2 i p p' (by simpa using h) (by simpa using h')
    · simp at h; rw [← h]
def shp (f : Nat) (p : Nat × Nat) : Nat × Nat := (f + p.1, f + p.2)
theorem whyF_dr {l : List Nat} {f e r : Nat} (he : e ≤ (l.drop f).length) (hf : f ≤ l.length) : whyF l (f + e) r = whyF (l.drop f) e r := by
  unfold whyF
  rw [List.length_drop] at he ⊢
  by_cases h : e = l.length - f
  · rw [if_pos h, if_pos (by omega)]
  · rw [if_neg h, if_neg (by omega)]
theorem endB_dr {l : List Nat} {f e : Nat} (hf : f ≤ l.length) : endB l (f + e) = endB (l.drop f) e := by
  unfold endB
  rw [pk_dr, List.length_drop]
  by_cases h : e = l.length - f
  · rw [decide_eq_true h, decide_eq_true (by omega : f + e = l.length)]
  · rw [decide_eq_false h, decide_eq_false (by omega : ¬ f + e = l.length)]
theorem Ck.up (hQ : QLaw Q) {l : List Nat} {m f k : Nat} (hf : f ≤ l.length) {sp : List (Nat × Nat)} {e y : Nat} (c : Ck Q (l.drop f) m k sp e y) : Ck Q l m (f + k) (sp.map (shp f)) (f + e) y := by
  have hl : (l.drop f).length = l.length - f := List.length_drop ..
  induction c with
  | @done k h =>
    rw [hl, show f + (l.length - f) = l.length by omega]
    exact Ck.done (by rw [bk_dr, h, hl]; omega)
  | @bad k r e h t hr =>
    have hle := Txt.le hQ.toQOk t (Nat.le_of_lt h)
    rw [← whyF_dr hle hf]
    exact Ck.bad (by rw [bk_dr]; omega) (by rw [bk_dr]; exact t.up hQ) hr
  | @last k e h t ha =>
    have := Ck.last (Q := Q) (l := l) (m := m) (k := f + k) (e := f + e) (by rw [bk_dr]; omega) (by rw [bk_dr]; exact t.up hQ) (by rw [endB_dr hf]; exact ha)
    rw [bk_dr, ← pk_dr] at this
    split
    · rename_i h1; rw [if_pos h1] at this; exact this
    · rename_i h1; rw [if_neg h1] at this; exact this
  | @next k e1 sp f' y h t ha c ih =>
    have := Ck.next (Q := Q) (l := l) (m := m) (k := f + k) (e := f + e1) (by rw [bk_dr]; omega) (by rw [bk_dr]; exact t.up hQ) (by rw [endB_dr hf]; exact ha) ih
    rw [bk_dr] at this
    exact this
theorem Ck.from {l : List Nat} {m k k' : Nat} {sp : List (Nat × Nat)} {e y : Nat} (c : Ck Q l m k sp e y) (hb : bk l k' = bk l k) : Ck Q l m k' sp e y := by
  cases c with
  | done h => exact Ck.done (by rw [hb]; exact h)
  | bad h t hr => exact Ck.bad (by rw [hb]; exact h) (by rw [hb]; exact t) hr
  | last h t ha =>
    have := Ck.last (Q := Q) (l := l) (m := m) (k := k') (by rw [hb]; exact h) (by rw [hb]; exact t) ha
    rw [hb] at this
    exact this
  | next h t ha c =>
    have := Ck.next (Q := Q) (l := l) (m := m) (k := k') (by rw [hb]; exact h) (by rw [hb]; exact t) ha c
    rw [hb] at this
    exact this
/-- P9.3: two streams with a blank between are one -/
theorem Ck.join (hQ : QLaw Q) {a b : List Nat} {m k : Nat} {sp sp2 : List (Nat × Nat)} {e y e2 y2 : Nat} (c : Ck Q a m k sp e y) (c2 : Ck Q b m 0 sp2 e2 y2) : k ≤ a.length → y = 0 → Ck Q (a ++ 32 :: b) m k (sp ++ sp2.map (shp (a.length + 1))) (a.length + 1 + e2) y2 := by
  have hL : (a ++ 32 :: b).length = a.length + 1 + b.length := by simp; omega
  have hp : ∀ i, i < a.length → pk (a ++ 32 :: b) i = pk a i := fun i hi => by
    unfold pk
    rw [if_pos (by omega), if_pos hi, List.getElem?_append_left hi]
  have h32 : pk (a ++ 32 :: b) a.length = 32 := by
    unfold pk
    rw [if_pos (by omega)]
    simp
  have hsim : Sim a (a ++ 32 :: b) a.length := ⟨hp, .inr (.inr h32), Nat.le_refl _⟩
  have hd : (a ++ 32 :: b).drop (a.length + 1) = b := by
    rw [show a.length + 1 = (a ++ [32]).length by simp, show a ++ 32 :: b = (a ++ [32]) ++ b by simp, List.drop_left]
  have cb := Ck.up hQ (l := a ++ 32 :: b) (f := a.length + 1) (k := 0) (by omega) (by rw [hd]; exact c2)
  have h1 : bk (a ++ 32 :: b) a.length = bk (a ++ 32 :: b) (a.length + 1) := runP_yes (by omega) (by rw [h32]; decide)
  induction c with
  | @done k h =>
    intro hk _
    have e1 : bk (a ++ 32 :: b) k = bk (a ++ 32 :: b) (a.length + 1) := by
      rw [← h1]
      have key : ∀ n k, k + n = a.length → (∀ i, k ≤ i → i < a.length → isB (pk a i) = true) → bk (a ++ 32 :: b) k = bk (a ++ 32 :: b) a.length := by
        intro n
        induction n with
        | zero => intro k hk _; rw [show k = a.length by omega]
        | succ n ih =>
          intro k hk hall
          rw [← ih (k + 1) (by omega) (fun i hi => hall i (by omega))]
          exact runP_yes (by omega) (by rw [hp k (by omega)]; exact hall k (Nat.le_refl _) (by omega))
      refine key (a.length - k) k (by omega) (fun i h2 h3 => ?_)
      exact ((runP_spec (p := isB) (l := a) (k := k) (by decide) rfl).1 i h2 (by rw [show runP isB a k = bk a k from rfl, h]; exact h3)).1
    exact Ck.from cb e1
  | bad h t hr =>
    intro hk hy
    unfold whyF at hy
    repeat' split at hy
    all_goals cases hy
  | last h t ha => intro _ hy; cases hy
  | @next k e1 sp f y h t ha c ih =>
    intro hk hy
    have hadv := Txt.adv hQ.toQOk t
    have hle1 := Txt.le hQ.toQOk t (Nat.le_of_lt h)
    have hb := bk_sim hsim (.inl (by omega)) (by omega : bk a k ≤ a.length)
    have := Ck.next (Q := Q) (l := a ++ 32 :: b) (m := m) (k := k) (e := e1) (by rw [hb]; omega) (by rw [hb]; exact Txt.sim6 hQ hsim (Nat.le_refl _) t hle1) (by
      unfold endB at ha ⊢
      simp only [Bool.or_eq_true, decide_eq_true_eq] at ha ⊢
      right
      rcases Nat.eq_or_lt_of_le hle1 with h2 | h2
      · rw [h2, h32]; decide
      · rw [hp e1 h2]
        rcases ha with h3 | h3
        · omega
        · exact h3) (ih hle1 hy)
    rw [hb] at this
    exact this
end Go.Proofs.YtefaieglhllioaaDoor.VM
