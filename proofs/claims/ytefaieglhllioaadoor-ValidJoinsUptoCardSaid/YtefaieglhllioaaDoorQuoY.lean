/- quote: a text in quotes is read alike, whatever stands behind it. -/
import Derived.Test.YtefaieglhllioaaDoorQuoX
namespace Go.Proofs.YtefaieglhllioaaDoor
open Go.RowKit UM QM

theorem unit_dig {l : List Nat} : ∀ {m k x : Nat}, (unitF l m k x).2.1 = true → (unitF l m k x).2.2 = k + m ∧ ∀ i, i < m → dgv (pk l (k + i)) ≠ none := by
  intro m
  induction m with
  | zero => intro k x _; exact ⟨rfl, fun i h => by omega⟩
  | succ m ih =>
    intro k x h1
    simp only [unitF] at h1 ⊢
    cases hd : dgv (pk l k) with
    | none => rw [hd] at h1; cases h1
    | some d =>
      rw [hd] at h1
      simp only at h1 ⊢
      obtain ⟨e1, e2⟩ := ih h1
      refine ⟨by omega, fun i hi => ?_⟩
      rcases Nat.eq_zero_or_pos i with rfl | h0
      · rw [Nat.add_zero, hd]; simp
      · have := e2 (i - 1) (by omega)
        rwa [show k + 1 + (i - 1) = k + i by omega] at this
theorem Tl.shut {l : List Nat} {k : Nat} {xs : List Int} {e err : Nat} (t : Tl l k xs e err) (h0 : err = 0) : 1 ≤ e ∧ pk l (e - 1) = 34 ∧ e ≤ l.length := by
  induction t with
  | stop hp => exact ⟨by omega, hp, pk_pos (by rw [hp]; decide)⟩
  | bad h h2 => exact absurd h0 (fault_ne _ _)
  | go hp h2 t ih => exact ih h0
theorem Tl.again {l : List Nat} {k : Nat} {xs : List Int} {n : Nat} (t : Tl l k xs n 0) (b : Nat) : Tl (l.take n ++ [b]) k xs n 0 := by
  obtain ⟨s1, s2, s3⟩ := t.shut rfl
  have hs : Same l (l.take n ++ [b]) n := ⟨s3, by rw [List.length_append, List.length_take]; omega, fun k hk => by rw [List.getElem?_append_left (by rw [List.length_take]; omega), List.getElem?_take, if_pos hk]⟩
  refine t.same rfl hs fun u hu h => ?_
  have h1 := low_end _ u h
  rw [List.length_append, List.length_take, Nat.min_eq_left s3, List.length_singleton] at h1
  unfold lowF at h h1 ⊢
  by_cases d1 : pk (l.take n ++ [b]) u ≠ 92
  · rw [if_pos d1] at h; cases h
  rw [if_neg d1] at h h1 ⊢
  by_cases d2 : pk (l.take n ++ [b]) (u + 1) ≠ 117
  · rw [if_pos d2] at h; cases h
  rw [if_neg d2] at h h1 ⊢
  simp only [Bool.and_eq_true, decide_eq_true_eq] at h
  simp only at h1 ⊢
  obtain ⟨e1, e2⟩ := unit_dig (l := l.take n ++ [b]) (m := 4) (k := u + 2) (x := 0) h.1.1
  have e3 : (un (l.take n ++ [b]) (u + 2)).2.2 = u + 2 + 4 := e1
  rw [e3] at h1 ⊢
  rcases Nat.lt_or_ge n (u + 2 + 4) with hlt | hge
  · exfalso
    have hn : n - 1 = u + 2 + 2 := by omega
    have := e2 2 (by decide)
    rw [← hn, ← hs.pk (show n - 1 < n by omega), s2] at this
    exact this rfl
  · exact hge
theorem RdR.again {l : List Nat} {xs : List Int} {n : Nat} (h : RdR l xs n 0) (b : Nat) : RdR (l.take n ++ [b]) xs n 0 := by
  rcases h with ⟨_, _, _, e⟩ | ⟨h0, t⟩
  · exact absurd e.symm (fault_ne _ _)
  · refine .inr ⟨?_, t.again b⟩
    obtain ⟨s1, s2, s3⟩ := t.shut rfl
    have hs : Same l (l.take n ++ [b]) n := ⟨s3, by rw [List.length_append, List.length_take]; omega, fun k hk => by rw [List.getElem?_append_left (by rw [List.length_take]; omega), List.getElem?_take, if_pos hk]⟩
    rw [← hs.pk (by omega)]; exact h0
theorem RdR.upto {l : List Nat} {xs : List Int} {n err : Nat} (h : RdR l xs n err) (h0 : err ≠ 0) (hn : n ≤ l.length) : RdR (l.take n) xs n 5 := by
  rcases h with ⟨p, rfl, rfl, _⟩ | ⟨p, t⟩
  · exact .inl ⟨by rw [List.take_zero]; decide, rfl, rfl, rfl⟩
  · have hl := t.le
    exact .inr ⟨by rw [← (same_take hn).pk (by omega)]; exact p, t.upto h0 hn⟩
end Go.Proofs.YtefaieglhllioaaDoor
