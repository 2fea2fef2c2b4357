/- quote: what Read tells of the bytes up to a fault. -/
import Derived.Test.YtefaieglhllioaaDoorQuoW
namespace Go.Proofs.YtefaieglhllioaaDoor
open Go.RowKit UM QM

theorem same_take {l : List Nat} {n : Nat} (hn : n ≤ l.length) : Same l (l.take n) n :=
  ⟨hn, by rw [List.length_take]; omega, fun k hk => by rw [List.getElem?_take, if_pos hk]⟩
theorem pk_end {l : List Nat} {n : Nat} : pk (l.take n) n = -1 := by
  unfold QM.pk
  rw [if_neg (by rw [List.length_take]; omega)]
theorem unit_fail {l : List Nat} {n : Nat} (hn : n ≤ l.length) : ∀ {m k x : Nat}, (unitF l m k x).2.1 = false → (unitF l m k x).2.2 = n → unitF (l.take n) m k x = (0, false, n) := by
  intro m
  induction m with
  | zero => intro k x h _; cases h
  | succ m ih =>
    intro k x h1 h2
    simp only [unitF] at h1 h2 ⊢
    cases hd : dgv (pk l k) with
    | none =>
      rw [hd] at h2
      simp only at h2
      subst h2
      rw [pk_end, show dgv (-1) = none by decide]
    | some d =>
      rw [hd] at h1 h2
      simp only at h1 h2 ⊢
      have hg : k + 1 ≤ (unitF l m (k + 1) (x * 16 + d)).2.2 := unitF_ge
      rw [← (same_take hn).pk (show k < n by omega), hd]
      exact ih h1 h2
theorem coded_fail {l : List Nat} {n k : Nat} (hn : n ≤ l.length) (h1 : (codedF l k).2.1 = false) (h2 : (codedF l k).2.2 = n) : codedF (l.take n) k = (0, false, n) := by
  have hu : (un l k).2.1 = false := by
    unfold codedF at h1
    by_cases c0 : (un l k).2.1 = false
    · exact c0
    rw [if_neg c0] at h1
    repeat' split at h1
    all_goals cases h1
  unfold codedF at h2 ⊢
  rw [if_pos hu] at h2
  have := unit_fail hn hu h2
  have e : un (l.take n) k = (0, false, n) := this
  rw [e, if_pos rfl]
theorem esc_fail {l : List Nat} {n k : Nat} (hn : n ≤ l.length) (h1 : (escF l k).2.1 = false) (h2 : (escF l k).2.2 = n) : escF (l.take n) k = (0, false, n) := by
  unfold escF at h1 h2
  by_cases a1 : pk l k = 34 ∨ pk l k = 92 ∨ pk l k = 47
  · rw [if_pos a1] at h1; cases h1
  rw [if_neg a1] at h1 h2
  by_cases a2 : pk l k = 98
  · rw [if_pos a2] at h1; cases h1
  rw [if_neg a2] at h1 h2
  by_cases a3 : pk l k = 102
  · rw [if_pos a3] at h1; cases h1
  rw [if_neg a3] at h1 h2
  by_cases a4 : pk l k = 110
  · rw [if_pos a4] at h1; cases h1
  rw [if_neg a4] at h1 h2
  by_cases a5 : pk l k = 114
  · rw [if_pos a5] at h1; cases h1
  rw [if_neg a5] at h1 h2
  by_cases a6 : pk l k = 116
  · rw [if_pos a6] at h1; cases h1
  rw [if_neg a6] at h1 h2
  by_cases a7 : pk l k = 117
  · rw [if_pos a7] at h1 h2
    have hg := coded_ge l (k + 1)
    unfold escF
    rw [← (same_take hn).pk (show k < n by omega), a7]
    exact coded_fail hn h1 h2
  · rw [if_neg a7] at h2
    simp only at h2
    subst h2
    unfold escF
    rw [pk_end]
    rfl
theorem piece_fail {l : List Nat} {n k : Nat} (hn : n ≤ l.length) (h1 : (pieceF l k).2.1 = false) (h2 : (pieceF l k).2.2 = n) : (pieceF (l.take n) k).2.1 = false ∧ (pieceF (l.take n) k).2.2 = n := by
  by_cases hl : n = l.length
  · rw [hl, List.take_length]; exact ⟨h1, by rw [h2, hl]⟩
  have low : n = k → (pieceF (l.take n) k).2.1 = false ∧ (pieceF (l.take n) k).2.2 = n := by
    intro e
    subst e
    unfold pieceF
    rw [pk_end, if_pos (by decide)]
    exact ⟨rfl, rfl⟩
  unfold pieceF at h1 h2
  by_cases c1 : pk l k < 32
  · rw [if_pos c1] at h2; exact low h2.symm
  rw [if_neg c1] at h1 h2
  by_cases c2 : 127 < pk l k
  · rw [if_pos c2] at h1 h2
    unfold pointF at h1 h2
    by_cases c3 : (dcd ((l.drop k).take 4)).2.2 = true
    · rw [if_pos c3] at h1; cases h1
    rw [if_neg c3] at h2
    by_cases c4 : cutB ((l.drop k).take 4) = true
    · rw [if_pos c4] at h2; exact absurd h2.symm hl
    · rw [if_neg c4] at h2; exact low h2.symm
  rw [if_neg c2] at h1 h2
  by_cases c3 : pk l k = 92
  · rw [if_pos c3] at h1 h2
    have hg := esc_ge l (k + 1)
    have := esc_fail hn h1 h2
    unfold pieceF
    rw [← (same_take hn).pk (show k < n by omega), if_neg c1, if_neg c2, if_pos c3, this]
    exact ⟨rfl, rfl⟩
  · rw [if_neg c3] at h1; cases h1
theorem fault_end {l : List Nat} {n : Nat} : faultF (l.take n) n = 5 := by
  unfold faultF
  rw [pk_end]; rfl
theorem low_end (l : List Nat) (u : Nat) (h : (lowF l u).2.1 = true) : (lowF l u).2.2 ≤ l.length := by
  unfold lowF at h ⊢
  by_cases d1 : pk l u ≠ 92
  · rw [if_pos d1] at h; cases h
  rw [if_neg d1] at h ⊢
  by_cases d2 : pk l (u + 1) ≠ 117
  · rw [if_pos d2] at h; cases h
  rw [if_neg d2] at h ⊢
  have := pk_pos (l := l) (k := u + 1) (by have := Decidable.not_not.1 d2; omega)
  exact (unitF_at (l := l) (n := 4) (k := u + 2) (h := 0) (by omega)).2
/-- the bytes up to a fault: they end too early -/
theorem Tl.upto {l : List Nat} {k : Nat} {xs : List Int} {e err : Nat} (t : Tl l k xs e err) (h0 : err ≠ 0) (he : e ≤ l.length) : Tl (l.take e) k xs e 5 := by
  induction t with
  | stop hp => exact absurd rfl h0
  | bad h h2 =>
    rename_i k
    obtain ⟨p1, p2⟩ := piece_fail he h2 rfl
    have hp : pk (l.take (pieceF l k).2.2) k ≠ 34 := by
      rcases Nat.lt_or_ge k (pieceF l k).2.2 with hlt | hge
      · rw [← (same_take he).pk hlt]; exact h
      · have : (pieceF l k).2.2 = k := Nat.le_antisymm hge piece_ge
        rw [this, pk_end]; decide
    have := Tl.bad hp p1
    rw [p2, fault_end] at this
    exact this
  | @go k xs e err hp h2 t ih =>
    have hle := t.le
    have hs := same_take he
    have hst : ∀ u, u ≤ e → (lowF (l.take e) u).2.1 = true → (lowF (l.take e) u).2.2 ≤ e := fun u _ h => Nat.le_trans (low_end _ u h) (by rw [List.length_take]; exact Nat.min_le_left _ _)
    have hpe := hs.piece hst h2 hle
    have hk := piece_adv h2 (pk_ne h2)
    have := Tl.go (l := l.take e) (by rw [← hs.pk (Nat.lt_of_lt_of_le hk hle)]; exact hp) (by rw [hpe]; exact h2) (by rw [hpe]; exact ih h0 he)
    rw [hpe] at this
    exact this
end Go.Proofs.YtefaieglhllioaaDoor
