/- quote: what Read tells of a beginning. -/
import Derived.Test.YtefaieglhllioaaDoorQuoP
namespace Go.Proofs.YtefaieglhllioaaDoor
open Go.RowKit UM QM

/-- two texts that are the same below a place -/
def Same (l l' : List Nat) (n : Nat) : Prop := n ≤ l.length ∧ n ≤ l'.length ∧ ∀ k, k < n → l[k]?.getD 0 = l'[k]?.getD 0
theorem Same.symm {l l' : List Nat} {n : Nat} (h : Same l l' n) : Same l' l n := ⟨h.2.1, h.1, fun k hk => (h.2.2 k hk).symm⟩
theorem Same.pk {l l' : List Nat} {n k : Nat} (h : Same l l' n) (hk : k < n) : QM.pk l k = QM.pk l' k := by
  have h1 : k < l.length := Nat.lt_of_lt_of_le hk h.1
  have h2 : k < l'.length := Nat.lt_of_lt_of_le hk h.2.1
  unfold QM.pk
  rw [if_pos h1, if_pos h2, h.2.2 k hk]
theorem Same.unit {l l' : List Nat} {m : Nat} (h : Same l l' m) : ∀ {n k x : Nat}, (unitF l n k x).2.1 = true → (unitF l n k x).2.2 ≤ m → unitF l' n k x = unitF l n k x := by
  intro n
  induction n with
  | zero => intro k x _ _; rfl
  | succ n ih =>
    intro k x h1 h2
    simp only [unitF] at h1 h2 ⊢
    cases hd : dgv (QM.pk l k) with
    | none => rw [hd] at h1; cases h1
    | some d =>
      rw [hd] at h1 h2
      simp only at h1 h2 ⊢
      have hk : k + 1 ≤ m := Nat.le_trans unitF_ge h2
      rw [← h.pk (show k < m by omega), hd]
      exact ih h1 h2
theorem Same.un {l l' : List Nat} {m k : Nat} (h : Same l l' m) (h1 : (QM.un l k).2.1 = true) (h2 : (QM.un l k).2.2 ≤ m) : QM.un l' k = QM.un l k := h.unit h1 h2
theorem Same.low {l l' : List Nat} {m k : Nat} (h : Same l l' m) (h1 : (lowF l k).2.1 = true) (h2 : (lowF l k).2.2 ≤ m) : lowF l' k = lowF l k := by
  unfold lowF at h1 h2 ⊢
  by_cases d1 : QM.pk l k ≠ 92
  · rw [if_pos d1] at h1; cases h1
  rw [if_neg d1] at h1 h2 ⊢
  by_cases d2 : QM.pk l (k + 1) ≠ 117
  · rw [if_pos d2] at h1; cases h1
  rw [if_neg d2] at h1 h2 ⊢
  simp only [Bool.and_eq_true, decide_eq_true_eq] at h1
  simp only at h2
  have hg := un_ge l (k + 2)
  rw [h.pk (show k < m by omega)] at d1
  rw [h.pk (show k + 1 < m by omega)] at d2
  rw [if_neg d1, if_neg d2, h.un h1.1.1 h2]
theorem Same.coded {l l' : List Nat} {m k : Nat} (h : Same l l' m) (hst : ∀ u, u ≤ m → (lowF l' u).2.1 = true → (lowF l' u).2.2 ≤ m) (h1 : (codedF l k).2.1 = true) (h2 : (codedF l k).2.2 ≤ m) : codedF l' k = codedF l k := by
  have hu : (QM.un l k).2.1 = true ∧ (QM.un l k).2.2 ≤ m := by
    unfold codedF at h1 h2
    have hg := low_ge l (QM.un l k).2.2
    by_cases c0 : (QM.un l k).2.1 = false
    · rw [if_pos c0] at h1; cases h1
    refine ⟨by simpa using c0, ?_⟩
    rw [if_neg c0] at h2
    repeat' split at h2
    all_goals simp only at h2
    all_goals omega
  have he := h.un hu.1 hu.2
  unfold codedF at h1 h2 ⊢
  rw [he]
  generalize QM.un l k = U at *
  obtain ⟨u1, u2, u3⟩ := U
  simp only at hu h1 h2 ⊢
  have c0 : ¬ u2 = false := by rw [hu.1]; decide
  rw [if_neg c0] at h1 h2
  rw [if_neg c0, if_neg c0]
  by_cases c1 : u1 < 55296 ∨ 57343 < u1
  · rw [if_pos c1, if_pos c1]
  rw [if_neg c1] at h2
  rw [if_neg c1, if_neg c1]
  by_cases c2 : 56320 ≤ u1
  · rw [if_pos c2, if_pos c2]
  rw [if_neg c2] at h2
  rw [if_neg c2, if_neg c2]
  by_cases c3 : (lowF l u3).2.1 = true
  · rw [if_pos c3] at h2
    simp only at h2
    rw [h.low c3 h2]
  · have c4 : ¬ (lowF l' u3).2.1 = true := by
      intro c4
      have := h.symm.low c4 (hst u3 hu.2 c4)
      rw [this] at c3
      exact c3 c4
    rw [if_neg c3, if_neg c4]
theorem Same.esc {l l' : List Nat} {m k : Nat} (h : Same l l' m) (hst : ∀ u, u ≤ m → (lowF l' u).2.1 = true → (lowF l' u).2.2 ≤ m) (h1 : (escF l k).2.1 = true) (h2 : (escF l k).2.2 ≤ m) : escF l' k = escF l k := by
  have hk : k < m := by
    have hg := coded_ge l (k + 1)
    unfold escF at h1 h2
    repeat' split at h2
    all_goals (try simp only at h2)
    all_goals (try omega)
    rename_i a1 a2 a3 a4 a5 a6 a7
    rw [if_neg a1, if_neg a2, if_neg a3, if_neg a4, if_neg a5, if_neg a6, if_neg a7] at h1
    cases h1
  unfold escF at h1 h2 ⊢
  rw [← h.pk hk]
  by_cases c7 : QM.pk l k = 117
  · rw [c7] at h1 h2 ⊢
    exact h.coded hst h1 h2
  · rw [if_neg c7, if_neg c7]
theorem Same.take {l l' : List Nat} {m k j : Nat} (h : Same l l' m) (hj : k + j ≤ m) : (l'.drop k).take j = (l.drop k).take j := by
  have h1 := h.1
  have h2 := h.2.1
  apply List.ext_getElem
  · simp; omega
  · intro i hi1 hi2
    simp at hi1 hi2
    have := h.2.2 (k + i) (by omega)
    rw [List.getElem?_eq_getElem (by omega), List.getElem?_eq_getElem (by omega)] at this
    simp only [Option.getD_some] at this
    simp [this]
theorem Same.point {l l' : List Nat} {m k : Nat} (h : Same l l' m) (h1 : (pointF l k).2.1 = true) (h2 : (pointF l k).2.2 ≤ m) : pointF l' k = pointF l k := by
  unfold pointF at h1 h2 ⊢
  by_cases c3 : (dcd ((l.drop k).take 4)).2.2 = true
  · rw [if_pos c3] at h2 ⊢
    rcases dcd_cases ((l.drop k).take 4) with ⟨p, t, hp, e1, e⟩ | ⟨_, e⟩ | ⟨_, e⟩
    · rw [e] at h2
      simp only at h2
      have h4 := (en_pos p).2
      have ht := h.take h2
      have e5 : (l.drop k).take (en p) = enc p := by
        have := congrArg (List.take (en p)) e1
        rw [List.take_take, Nat.min_eq_left h4] at this
        rw [this, ← enc_len]; simp
      have e6 : (l'.drop k).take 4 = enc p ++ ((l'.drop k).take 4).drop (en p) := by
        have := List.take_append_drop (en p) ((l'.drop k).take 4)
        rw [List.take_take, Nat.min_eq_left h4, ht, e5] at this
        exact this.symm
      have e7 := dcd_enc hp (((l'.drop k).take 4).drop (en p))
      rw [← e6] at e7
      rw [e7, e, if_pos rfl]
    · rw [e] at c3; cases c3
    · rw [e] at c3; cases c3
  · rw [if_neg c3] at h1
    split at h1 <;> cases h1
theorem Same.piece {l l' : List Nat} {m k : Nat} (h : Same l l' m) (hst : ∀ u, u ≤ m → (lowF l' u).2.1 = true → (lowF l' u).2.2 ≤ m) (h1 : (pieceF l k).2.1 = true) (h2 : (pieceF l k).2.2 ≤ m) : pieceF l' k = pieceF l k := by
  have hk : k < m := Nat.lt_of_lt_of_le (piece_adv h1 (pk_ne h1)) h2
  unfold pieceF at h1 h2 ⊢
  rw [← h.pk hk]
  by_cases c1 : QM.pk l k < 32
  · rw [if_pos c1, if_pos c1]
  rw [if_neg c1] at h1 h2
  rw [if_neg c1, if_neg c1]
  by_cases c2 : 127 < QM.pk l k
  · rw [if_pos c2] at h1 h2
    rw [if_pos c2, if_pos c2]
    exact h.point h1 h2
  rw [if_neg c2] at h1 h2
  rw [if_neg c2, if_neg c2]
  by_cases c3 : QM.pk l k = 92
  · rw [if_pos c3] at h1 h2
    rw [if_pos c3, if_pos c3]
    exact h.esc hst h1 h2
  · rw [if_neg c3, if_neg c3]
theorem piece_ge {l : List Nat} {k : Nat} : k ≤ (pieceF l k).2.2 := by
  have h1 := esc_ge l (k + 1)
  unfold pieceF pointF
  by_cases c1 : QM.pk l k < 32
  · rw [if_pos c1]; exact Nat.le_refl _
  rw [if_neg c1]
  have hk : k < l.length := pk_pos (by omega)
  repeat' split
  all_goals (try simp only)
  all_goals omega
theorem Tl.le {l : List Nat} {k : Nat} {xs : List Int} {e err : Nat} (t : Tl l k xs e err) : k ≤ e := by
  induction t with
  | stop h => exact Nat.le_succ _
  | bad h h2 => exact piece_ge
  | go h h2 t ih => exact Nat.le_trans piece_ge ih
theorem fault_ne (l : List Nat) (k : Nat) : faultF l k ≠ 0 := by
  unfold faultF
  repeat' split
  all_goals decide
theorem Tl.same {l l' : List Nat} {k : Nat} {xs : List Int} {e err : Nat} (t : Tl l k xs e err) (h0 : err = 0) (h : Same l l' e) (hst : ∀ u, u ≤ e → (lowF l' u).2.1 = true → (lowF l' u).2.2 ≤ e) : Tl l' k xs e 0 := by
  induction t with
  | stop hp => exact Tl.stop (by rw [← h.pk (Nat.lt_succ_self _)]; exact hp)
  | bad h h2 => exact absurd h0 (fault_ne _ _)
  | go hp h2 t ih =>
    have hle := t.le
    have hpe := h.piece hst h2 hle
    have hk := piece_adv h2 (pk_ne h2)
    have := Tl.go (l := l') (by rw [← h.pk (Nat.lt_of_lt_of_le hk hle)]; exact hp) (by rw [hpe]; exact h2) (by rw [hpe]; exact ih h0 h hst)
    rw [hpe] at this
    exact this
end Go.Proofs.YtefaieglhllioaaDoor
