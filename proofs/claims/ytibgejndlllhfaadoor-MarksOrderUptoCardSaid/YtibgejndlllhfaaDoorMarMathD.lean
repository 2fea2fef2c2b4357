/- From one mark to the next one: plain mathematics. -/
import Derived.Test.YtibgejndlllhfaaDoorMarMathC
import Derived.Test.YtibgejndlllhfaaDoorMarB
namespace Go.Proofs.YtibgejndlllhfaaDoor
open Go.RowKit BM

/-- where the places ahead of i end, where i's is -/
def loP (L : List (Nat × Nat)) : Nat → Nat
  | 0 => 0
  | i + 1 => match L[i]? with | some x => x.1 + 1 | none => 0
def hiP (L : List (Nat × Nat)) (n i : Nat) : Nat := match L[i]? with | some x => x.1 | none => n
theorem pick_lohi (b : Nat → Bool) (k : Nat → Nat) : ∀ n i, i ≤ (pick b (fun p => (p, k p)) n).length →
    loP (pick b (fun p => (p, k p)) n) i ≤ hiP (pick b (fun p => (p, k p)) n) n i ∧ hiP (pick b (fun p => (p, k p)) n) n i ≤ n ∧ (∀ r, loP (pick b (fun p => (p, k p)) n) i ≤ r → r < hiP (pick b (fun p => (p, k p)) n) n i → b r = false) ∧
    (∀ x, (pick b (fun p => (p, k p)) n)[i]? = some x → b x.1 = true ∧ x.1 < n ∧ x.2 = k x.1)
  | 0, i, hi => by
    have : i = 0 := by simp [pick] at hi; omega
    subst this
    refine ⟨Nat.le_refl _, Nat.le_refl _, fun r h1 h2 => by simp [hiP, pick] at h2, fun x hx => by simp [pick] at hx⟩
  | n + 1, i, hi => by
    have ih := pick_lohi b k n
    rw [pick_succ] at *
    generalize pick b (fun p => (p, k p)) n = L at *
    by_cases hb : b n = true
    · rw [if_pos hb] at *
      simp only [List.length_append, List.length_singleton] at hi
      by_cases c1 : i < L.length
      · obtain ⟨h1, h2, h3, h4⟩ := ih i (by omega)
        have e1 : (L ++ [(n, k n)])[i]? = L[i]? := List.getElem?_append_left c1
        have e2 : loP (L ++ [(n, k n)]) i = loP L i := by
          cases i with
          | zero => rfl
          | succ i => simp only [loP]; rw [List.getElem?_append_left (by omega)]
        obtain ⟨x, hx⟩ : ∃ x, L[i]? = some x := ⟨_, List.getElem?_eq_getElem c1⟩
        have e3 : hiP (L ++ [(n, k n)]) (n + 1) i = hiP L n i := by unfold hiP; rw [e1, hx]
        rw [e2, e3, e1]
        exact ⟨h1, by omega, h3, fun y hy => by obtain ⟨p, q, s⟩ := h4 y hy; exact ⟨p, by omega, s⟩⟩
      · by_cases c2 : i = L.length
        · subst c2
          obtain ⟨h1, h2, h3, _⟩ := ih L.length (Nat.le_refl _)
          have e1 : (L ++ [(n, k n)])[L.length]? = some (n, k n) := by simp
          have e2 : loP (L ++ [(n, k n)]) L.length = loP L L.length := by
            generalize hz : L.length = z at *
            cases z with
            | zero => rfl
            | succ z => simp only [loP]; rw [List.getElem?_append_left (by omega)]
          have e0 : hiP L n L.length = n := by unfold hiP; rw [List.getElem?_eq_none (Nat.le_refl _)]
          have e3 : hiP (L ++ [(n, k n)]) (n + 1) L.length = n := by unfold hiP; rw [e1]
          rw [e0] at h1 h3
          rw [e2, e3, e1]
          exact ⟨h1, by omega, h3, fun y hy => by simp at hy; subst hy; exact ⟨hb, by simp, rfl⟩⟩
        · have c3 : i = L.length + 1 := by omega
          subst c3
          have e1 : (L ++ [(n, k n)])[L.length + 1]? = none := List.getElem?_eq_none (by simp)
          have e2 : loP (L ++ [(n, k n)]) (L.length + 1) = n + 1 := by simp [loP]
          have e3 : hiP (L ++ [(n, k n)]) (n + 1) (L.length + 1) = n + 1 := by unfold hiP; rw [e1]
          rw [e2, e3, e1]
          exact ⟨Nat.le_refl _, Nat.le_refl _, fun r a c => by omega, fun y hy => by cases hy⟩
    · rw [if_neg hb, List.append_nil] at *
      obtain ⟨h1, h2, h3, h4⟩ := ih i hi
      by_cases c1 : i < L.length
      · obtain ⟨x, hx⟩ : ∃ x, L[i]? = some x := ⟨_, List.getElem?_eq_getElem c1⟩
        have e3 : hiP L (n + 1) i = hiP L n i := by unfold hiP; rw [hx]
        rw [e3]
        exact ⟨h1, by omega, h3, fun y hy => by obtain ⟨p, q, s⟩ := h4 y hy; exact ⟨p, by omega, s⟩⟩
      · have hn : L[i]? = none := List.getElem?_eq_none (by omega)
        have e3 : hiP L (n + 1) i = n + 1 := by unfold hiP; rw [hn]
        have e0 : hiP L n i = n := by unfold hiP; rw [hn]
        rw [e0] at h1 h3
        rw [e3]
        refine ⟨by omega, Nat.le_refl _, fun r a c => ?_, fun y hy => by rw [hn] at hy; cases hy⟩
        rcases Nat.eq_or_lt_of_le (Nat.le_of_lt_succ c) with e | e
        · rw [e]; simpa using hb
        · exact h3 r a e
/-- a mark that is none of other bytes -/
def N48 (l : List Nat) (p : Nat) : Prop := mb l p = true ∧ kd l p ≠ 48
theorem hitAt_text (l : List Nat) (p : Nat) : hitAt (wds l (nw l.length)) p = (decide (p < l.length) && (decide (cl l p = 113) || decide (cl l p = 111 ∨ cl l p = 99 ∨ cl l p = 58 ∨ cl l p = 44))) := by
  by_cases h : p / 64 < nw l.length
  · have e : 64 * (p / 64) + p % 64 = p := by omega
    have hx := hitAt_at (xs := wds l (nw l.length)) (k := p / 64) (j := p % 64) (wds_get l h) (by omega)
    rw [e] at hx
    rw [hx]
    unfold MS.hit
    rw [BitVec.getLsbD_or, wd_q l _ (by omega), sg_bit l _ (by omega), e]
    cases decide (p < l.length) <;> simp
  · have : ¬ p < l.length := by unfold nw at h; omega
    unfold hitAt
    rw [List.getElem?_eq_none (by rw [wds_length]; omega)]
    simp [this]
theorem hit_lt {l : List Nat} {p : Nat} (h : hitAt (wds l (nw l.length)) p = true) : p < l.length := by
  rw [hitAt_text] at h
  simp at h
  exact h.1
theorem n48_hit {l : List Nat} {p : Nat} (h : N48 l p) : hitAt (wds l (nw l.length)) p = true ∧ byte l p = kd l p := by
  obtain ⟨h1, h2⟩ := h
  unfold mb at h1
  simp only [Bool.and_eq_true, decide_eq_true_iff] at h1
  obtain ⟨h1, h3⟩ := h1
  rw [hitAt_text]
  unfold kd at h2 h3 ⊢
  rcases cl_vals l p with e | e | e | e | e | e | e
  · have := cl_quote e
    rw [e] at h2 h3 ⊢; cases hi : inn l p <;> simp_all
  · rw [e] at h2 h3 ⊢; simp_all
  · rw [e] at h2 h3 ⊢; simp_all
  · rw [e] at h2 h3 ⊢; simp_all
  · rw [e] at h2 h3 ⊢; simp_all
  · rw [e] at h2 h3 ⊢; simp_all
  · rw [e] at h2 h3 ⊢; cases hi : inn l p <;> cases hp : pr l p <;> simp_all
/-- what else stands is a quote that ends a string -/
theorem hit_close {l : List Nat} {p : Nat} (h : hitAt (wds l (nw l.length)) p = true) (hn : ¬ N48 l p) : cl l p = 113 ∧ inn l p = false := by
  rw [hitAt_text] at h
  simp only [Bool.and_eq_true, Bool.or_eq_true, decide_eq_true_iff] at h
  obtain ⟨h1, h2⟩ := h
  unfold N48 mb at hn
  rcases h2 with h2 | h2
  · refine ⟨h2, ?_⟩
    cases hi : inn l p
    · rfl
    · exfalso; apply hn
      unfold kd
      simp [h1, h2, hi]
  · exfalso; apply hn
    have hs := (cl_sign h2).1
    unfold kd
    rcases h2 with e | e | e | e <;> rw [e] <;> simp [h1] <;> omega
theorem in_next (l : List Nat) (p : Nat) : inn l p = if cl l p = 113 then !stI l false false p else stI l false false p := by
  unfold inn
  rw [stI]
  unfold nextIn
  have := w_q (byte l p) (stO l false p) (stI l false false p)
  have e : cl l p = what (byte l p) (stO l false p) (stI l false false p) := rfl
  rw [e]
  cases hq : isQ (byte l p) (stO l false p)
  · rw [hq] at this
    have h2 : ¬ what (byte l p) (stO l false p) (stI l false false p) = 113 := by intro h; rw [h] at this; simp at this
    simp [h2]
  · rw [hq] at this
    have h2 : what (byte l p) (stO l false p) (stI l false false p) = 113 := by have := beq_iff_eq.1 this; omega
    simp [h2]
theorem stays_out {l : List Nat} {a : Nat} (h0 : stI l false false a = false) : ∀ d, (∀ r, a ≤ r → r < a + d → ¬ (cl l r = 113 ∧ inn l r = true)) → stI l false false (a + d) = false
  | 0, _ => h0
  | d + 1, h => by
    have ih := stays_out h0 d (fun r h1 h2 => h r h1 (by omega))
    have e : stI l false false (a + (d + 1)) = inn l (a + d) := rfl
    rw [e, in_next, ih]
    by_cases c : cl l (a + d) = 113
    · exfalso
      refine h (a + d) (by omega) (by omega) ⟨c, ?_⟩
      rw [in_next, if_pos c, ih]; rfl
    · rw [if_neg c]
/-- no two quotes end strings with no mark between -/
theorem one_close {l : List Nat} {p q : Nat} (hpq : p < q) (hp : cl l p = 113 ∧ inn l p = false) (hq : cl l q = 113 ∧ inn l q = false) (hql : q < l.length) (h : ∀ r, p < r → r < q → ¬ N48 l r) : False := by
  have h1 := stays_out (l := l) (a := p + 1) hp.2 (q - (p + 1)) (fun r h1 h2 => by
    rintro ⟨a, b⟩
    refine h r (by omega) (by omega) ⟨?_, ?_⟩
    · unfold mb kd; simp [a, b]; omega
    · unfold kd; simp [a, b])
  rw [show p + 1 + (q - (p + 1)) = q by omega] at h1
  have h2 := in_next l q
  rw [if_pos hq.1, h1, hq.2] at h2
  cases h2
/-- Next leads to the next mark, or to the quote ahead of it -/
theorem nx_order {l : List Nat} {a m : Nat} (ha : a ≤ m) (hm : N48 l m) (hml : m < l.length) (h : ∀ r, a ≤ r → r < m → ¬ N48 l r) :
    nxV (wds l (nw l.length)) l.length a = m ∨ ∃ n, n < m ∧ nxV (wds l (nw l.length)) l.length a = n ∧ byte l n = 34 ∧ nxV (wds l (nw l.length)) l.length (n + 1 : Nat) = m := by
  have hmh := (n48_hit hm).1
  have hmb : m < 64 * (wds l (nw l.length)).length := by rw [wds_length]; unfold nw; omega
  have fin : ∀ s : Nat, a ≤ s → s ≤ m → (∀ r, s ≤ r → r < m → hitAt (wds l (nw l.length)) r = false) → nxV (wds l (nw l.length)) l.length s = m := fun s h1 h2 h3 => by
    rw [nx_hit (p := m) (by simpa using h2) hmb hmh (fun q a b => h3 q (by simpa using a) b)]
    simp; omega
  by_cases hex : ∀ r, a ≤ r → r < m → hitAt (wds l (nw l.length)) r = false
  · exact .inl (fin a (Nat.le_refl _) ha hex)
  · right
    obtain ⟨l1, l2, l3, l4⟩ := least_spec (hitAt (wds l (nw l.length))) (m - a) a
    generalize least (hitAt (wds l (nw l.length))) a (m - a) = n at *
    have hnm : n < m := by
      apply Nat.lt_of_not_le
      intro hle
      exact hex fun r h1 h2 => l3 r h1 (by omega)
    have hnh := l4 (by omega)
    have hnc := hit_close hnh (h n l1 hnm)
    refine ⟨n, hnm, ?_, cl_quote hnc.1, fin (n + 1) (by omega) (by omega) fun r h1 h2 => ?_⟩
    · rw [nx_hit (p := n) (by simpa using l1) (by omega) hnh (fun q a b => l3 q (by simpa using a) b)]
      simp; omega
    · cases hr : hitAt (wds l (nw l.length)) r
      · rfl
      · exfalso
        exact one_close (l := l) (p := n) (q := r) (by omega) hnc (hit_close hr (h r (by omega) h2)) (by omega) (fun s a b => h s (by omega) (by omega))
/-- behind the last mark -/
theorem nx_end {l : List Nat} {a : Nat} (h : ∀ r, a ≤ r → r < l.length → ¬ N48 l r) :
    nxV (wds l (nw l.length)) l.length a = l.length ∨ ∃ n, n < l.length ∧ nxV (wds l (nw l.length)) l.length a = n ∧ byte l n = 34 ∧ nxV (wds l (nw l.length)) l.length (n + 1 : Nat) = l.length := by
  have fin : ∀ s : Nat, (∀ r, s ≤ r → r < l.length → hitAt (wds l (nw l.length)) r = false) → nxV (wds l (nw l.length)) l.length s = l.length := fun s h3 => by
    rw [nx_none (fun q a b => by
      cases hr : hitAt (wds l (nw l.length)) q
      · rfl
      · have := h3 q (by simpa using a) (hit_lt hr)
        rw [hr] at this; exact this)]
    simp
  by_cases hex : ∀ r, a ≤ r → r < l.length → hitAt (wds l (nw l.length)) r = false
  · exact .inl (fin a hex)
  · right
    have hal : a ≤ l.length := by
      apply Nat.le_of_lt
      apply Nat.lt_of_not_le
      intro hle
      exact hex fun r h1 h2 => by omega
    obtain ⟨l1, l2, l3, l4⟩ := least_spec (hitAt (wds l (nw l.length))) (l.length - a) a
    generalize least (hitAt (wds l (nw l.length))) a (l.length - a) = n at *
    have hnm : n < l.length := by
      apply Nat.lt_of_not_le
      intro hle
      exact hex fun r h1 h2 => l3 r h1 (by omega)
    have hnh := l4 (by omega)
    have hnc := hit_close hnh (h n l1 hnm)
    refine ⟨n, hnm, ?_, cl_quote hnc.1, fin (n + 1) fun r h1 h2 => ?_⟩
    · rw [nx_hit (p := n) (by simpa using l1) (by rw [wds_length]; unfold nw; omega) hnh (fun q a b => l3 q (by simpa using a) b)]
      simp; omega
    · cases hr : hitAt (wds l (nw l.length)) r
      · rfl
      · exfalso
        exact one_close (l := l) (p := n) (q := r) (by omega) hnc (hit_close hr (h r (by omega) h2)) h2 (fun s a b => h s (by omega) (by omega))
end Go.Proofs.YtibgejndlllhfaaDoor
