/- quote: what Read tells of a beginning. -/
import Derived.Test.YtjjacffacmpopaaDoorQuoPs
import Derived.Test.YtjjacffacmpopaaDoorQuoV
import Derived.Laws.AppendOwnNone
namespace Go.Proofs.YtjjacffacmpopaaDoor
open Go.RowKit UM QM

/-- two texts that are the same below a place -/
def Same (l l' : List Nat) (n : Nat) : Prop := n ≤ l.length ∧ n ≤ l'.length ∧ ∀ k, k < n → l[k]?.getD 0 = l'[k]?.getD 0
theorem Same.symm {l l' : List Nat} {n : Nat} (h : Same l l' n) : Same l' l n := ⟨h.2.1, h.1, fun k hk => (h.2.2 k hk).symm⟩
theorem Same.pk {l l' : List Nat} {n k : Nat} (h : Same l l' n) (hk : k < n) : QM.pk l k = QM.pk l' k := by
  have h1 : k < l.length := Nat.lt_of_lt_of_le hk h.1
  have h2 : k < l'.length := Nat.lt_of_lt_of_le hk h.2.1
  unfold QM.pk
  rw [if_pos h1, if_pos h2, h.2.2 k hk]
theorem Same.unit {l l' : List Nat} {m : Nat} (h : Same l l' m) : ∀ {n k x : Nat}, (unitF l n k x).2.1 = true → (unitF l n k x).2.2 ≤ m → unitF l' n k x = unitF l n k x := by
  intro n
  induction n with
  | zero => intro k x _ _; rfl
  | succ n ih =>
    intro k x h1 h2
    simp only [unitF] at h1 h2 ⊢
    cases hd : dgv (QM.pk l k) with
    | none => rw [hd] at h1; cases h1
    | some d =>
      rw [hd] at h1 h2
      simp only at h1 h2 ⊢
      have hk : k + 1 ≤ m := Nat.le_trans unitF_ge h2
      rw [← h.pk (show k < m by omega), hd]
      exact ih h1 h2
theorem Same.un {l l' : List Nat} {m k : Nat} (h : Same l l' m) (h1 : (QM.un l k).2.1 = true) (h2 : (QM.un l k).2.2 ≤ m) : QM.un l' k = QM.un l k := h.unit h1 h2
theorem Same.low {l l' : List Nat} {m k : Nat} (h : Same l l' m) (h1 : (lowF l k).2.1 = true) (h2 : (lowF l k).2.2 ≤ m) : lowF l' k = lowF l k := by
  unfold lowF at h1 h2 ⊢
  by_cases d1 : QM.pk l k ≠ 92
  · rw [if_pos d1] at h1; cases h1
  rw [if_neg d1] at h1 h2 ⊢
  by_cases d2 : QM.pk l (k + 1) ≠ 117
  · rw [if_pos d2] at h1; cases h1
  rw [if_neg d2] at h1 h2 ⊢
  simp only [Bool.and_eq_true, decide_eq_true_eq] at h1
  simp only at h2
  have hg := un_ge l (k + 2)
  rw [h.pk (show k < m by omega)] at d1
  rw [h.pk (show k + 1 < m by omega)] at d2
  rw [if_neg d1, if_neg d2, h.un h1.1.1 h2]
theorem Same.coded {l l' : List Nat} {m k : Nat} (h : Same l l' m) (hst : ∀ u, u ≤ m → (lowF l' u).2.1 = true → (lowF l' u).2.2 ≤ m) (h1 : (codedF l k).2.1 = true) (h2 : (codedF l k).2.2 ≤ m) : codedF l' k = codedF l k := by
  have hu : (QM.un l k).2.1 = true ∧ (QM.un l k).2.2 ≤ m := by
    unfold codedF at h1 h2
    have hg := low_ge l (QM.un l k).2.2
    by_cases c0 : (QM.un l k).2.1 = false
    · rw [if_pos c0] at h1; cases h1
    refine ⟨by simpa using c0, ?_⟩
    rw [if_neg c0] at h2
    repeat' split at h2
    all_goals simp only at h2
    all_goals omega
  have he := h.un hu.1 hu.2
  unfold codedF at h1 h2 ⊢
  rw [he]
  generalize QM.un l k = U at *
  obtain ⟨u1, u2, u3⟩ := U
  simp only at hu h1 h2 ⊢
  have c0 : ¬ u2 = false := by rw [hu.1]; decide
  rw [if_neg c0] at h1 h2
  rw [if_neg c0, if_neg c0]
  by_cases c1 : u1 < 55296 ∨ 57343 < u1
  · rw [if_pos c1, if_pos c1]
  rw [if_neg c1] at h2
  rw [if_neg c1, if_neg c1]
  by_cases c2 : 56320 ≤ u1
  · rw [if_pos c2, if_pos c2]
  rw [if_neg c2] at h2
  rw [if_neg c2, if_neg c2]
  by_cases c3 : (lowF l u3).2.1 = true
  · rw [if_pos c3] at h2
    simp only at h2
    rw [h.low c3 h2]
  · have c4 : ¬ (lowF l' u3).2.1 = true := by
      intro c4
      have := h.symm.low c4 (hst u3 hu.2 c4)
      rw [this] at c3
      exact c3 c4
    rw [if_neg c3, if_neg c4]
theorem Same.esc {l l' : List Nat} {m k : Nat} (h : Same l l' m) (hst : ∀ u, u ≤ m → (lowF l' u).2.1 = true → (lowF l' u).2.2 ≤ m) (h1 : (escF l k).2.1 = true) (h2 : (escF l k).2.2 ≤ m) : escF l' k = escF l k := by
  have hk : k < m := by
    have hg := coded_ge l (k + 1)
    unfold escF at h1 h2
    repeat' split at h2
    all_goals (try simp only at h2)
    all_goals (try omega)
    rename_i a1 a2 a3 a4 a5 a6 a7
    rw [if_neg a1, if_neg a2, if_neg a3, if_neg a4, if_neg a5, if_neg a6, if_neg a7] at h1
    cases h1
  unfold escF at h1 h2 ⊢
  rw [← h.pk hk]
  by_cases c7 : QM.pk l k = 117
  · rw [c7] at h1 h2 ⊢
    exact h.coded hst h1 h2
  · rw [if_neg c7, if_neg c7]
theorem Same.take {l l' : List Nat} {m k j : Nat} (h : Same l l' m) (hj : k + j ≤ m) : (l'.drop k).take j = (l.drop k).take j := by
  have h1 := h.1
  have h2 := h.2.1
  apply List.ext_getElem
  · simp; omega
  · intro i hi1 hi2
    simp at hi1 hi2
    have := h.2.2 (k + i) (by omega)
    rw [List.getElem?_eq_getElem (by omega), List.getElem?_eq_getElem (by omega)] at this
    simp only [Option.getD_some] at this
    simp [this]
theorem Same.point {l l' : List Nat} {m k : Nat} (h : Same l l' m) (h1 : (pointF l k).2.1 = true) (h2 : (pointF l k).2.2 ≤ m) : pointF l' k = pointF l k := by
  unfold pointF at h1 h2 ⊢
  by_cases c3 : (dcd ((l.drop k).take 4)).2.2 = true
  · rw [if_pos c3] at h2 ⊢
    rcases dcd_cases ((l.drop k).take 4) with ⟨p, t, hp, e1, e⟩ | ⟨_, e⟩ | ⟨_, e⟩
    · rw [e] at h2
      simp only at h2
      have h4 := (en_pos p).2
      have ht := h.take h2
      have e5 : (l.drop k).take (en p) = enc p := by
        have := congrArg (List.take (en p)) e1
        rw [List.take_take, Nat.min_eq_left h4] at this
        rw [this, ← enc_len]; simp
      have e6 : (l'.drop k).take 4 = enc p ++ ((l'.drop k).take 4).drop (en p) := by
        have := List.take_append_drop (en p) ((l'.drop k).take 4)
        rw [List.take_take, Nat.min_eq_left h4, ht, e5] at this
        exact this.symm
      have e7 := dcd_enc hp (((l'.drop k).take 4).drop (en p))
      rw [← e6] at e7
      rw [e7, e, if_pos rfl]
    · rw [e] at c3; cases c3
    · rw [e] at c3; cases c3
  · rw [if_neg c3] at h1
    split at h1 <;> cases h1
theorem Same.piece {l l' : List Nat} {m k : Nat} (h : Same l l' m) (hst : ∀ u, u ≤ m → (lowF l' u).2.1 = true → (lowF l' u).2.2 ≤ m) (h1 : (pieceF l k).2.1 = true) (h2 : (pieceF l k).2.2 ≤ m) : pieceF l' k = pieceF l k := by
  have hk : k < m := Nat.lt_of_lt_of_le (piece_adv h1 (pk_ne h1)) h2
  unfold pieceF at h1 h2 ⊢
  rw [← h.pk hk]
  by_cases c1 : QM.pk l k < 32
  · rw [if_pos c1, if_pos c1]
  rw [if_neg c1] at h1 h2
  rw [if_neg c1, if_neg c1]
  by_cases c2 : 127 < QM.pk l k
  · rw [if_pos c2] at h1 h2
    rw [if_pos c2, if_pos c2]
    exact h.point h1 h2
  rw [if_neg c2] at h1 h2
  rw [if_neg c2, if_neg c2]
  by_cases c3 : QM.pk l k = 92
  · rw [if_pos c3] at h1 h2
    rw [if_pos c3, if_pos c3]
    exact h.esc hst h1 h2
  · rw [if_neg c3, if_neg c3]
theorem piece_ge {l : List Nat} {k : Nat} : k ≤ (pieceF l k).2.2 := by
  have h1 := esc_ge l (k + 1)
  unfold pieceF pointF
  by_cases c1 : QM.pk l k < 32
  · rw [if_pos c1]; exact Nat.le_refl _
  rw [if_neg c1]
  have hk : k < l.length := pk_pos (by omega)
  repeat' split
  all_goals (try simp only)
  all_goals omega
theorem Tl.le {l : List Nat} {k : Nat} {xs : List Int} {e err : Nat} (t : Tl l k xs e err) : k ≤ e := by
  induction t with
  | stop h => exact Nat.le_succ _
  | bad h h2 => exact piece_ge
  | go h h2 t ih => exact Nat.le_trans piece_ge ih
theorem fault_ne (l : List Nat) (k : Nat) : faultF l k ≠ 0 := by
  unfold faultF
  repeat' split
  all_goals decide
theorem Tl.same {l l' : List Nat} {k : Nat} {xs : List Int} {e err : Nat} (t : Tl l k xs e err) (h0 : err = 0) (h : Same l l' e) (hst : ∀ u, u ≤ e → (lowF l' u).2.1 = true → (lowF l' u).2.2 ≤ e) : Tl l' k xs e 0 := by
  induction t with
  | stop hp => exact Tl.stop (by rw [← h.pk (Nat.lt_succ_self _)]; exact hp)
  | bad h h2 => exact absurd h0 (fault_ne _ _)
  | go hp h2 t ih =>
    have hle := t.le
    have hpe := h.piece hst h2 hle
    have hk := piece_adv h2 (pk_ne h2)
    have := Tl.go (l := l') (by rw [← h.pk (Nat.lt_of_lt_of_le hk hle)]; exact hp) (by rw [hpe]; exact h2) (by rw [hpe]; exact ih h0 h hst)
    rw [hpe] at this
    exact this
end Go.Proofs.YtjjacffacmpopaaDoor

/- quote: what Read tells of the bytes up to a fault. -/
namespace Go.Proofs.YtjjacffacmpopaaDoor
open Go.RowKit UM QM

theorem same_take {l : List Nat} {n : Nat} (hn : n ≤ l.length) : Same l (l.take n) n :=
  ⟨hn, by rw [List.length_take]; omega, fun k hk => by rw [List.getElem?_take, if_pos hk]⟩
theorem pk_end {l : List Nat} {n : Nat} : pk (l.take n) n = -1 := by
  unfold QM.pk
  rw [if_neg (by rw [List.length_take]; omega)]
theorem unit_fail {l : List Nat} {n : Nat} (hn : n ≤ l.length) : ∀ {m k x : Nat}, (unitF l m k x).2.1 = false → (unitF l m k x).2.2 = n → unitF (l.take n) m k x = (0, false, n) := by
  intro m
  induction m with
  | zero => intro k x h _; cases h
  | succ m ih =>
    intro k x h1 h2
    simp only [unitF] at h1 h2 ⊢
    cases hd : dgv (pk l k) with
    | none =>
      rw [hd] at h2
      simp only at h2
      subst h2
      rw [pk_end, show dgv (-1) = none by decide]
    | some d =>
      rw [hd] at h1 h2
      simp only at h1 h2 ⊢
      have hg : k + 1 ≤ (unitF l m (k + 1) (x * 16 + d)).2.2 := unitF_ge
      rw [← (same_take hn).pk (show k < n by omega), hd]
      exact ih h1 h2
theorem coded_fail {l : List Nat} {n k : Nat} (hn : n ≤ l.length) (h1 : (codedF l k).2.1 = false) (h2 : (codedF l k).2.2 = n) : codedF (l.take n) k = (0, false, n) := by
  have hu : (un l k).2.1 = false := by
    unfold codedF at h1
    by_cases c0 : (un l k).2.1 = false
    · exact c0
    rw [if_neg c0] at h1
    repeat' split at h1
    all_goals cases h1
  unfold codedF at h2 ⊢
  rw [if_pos hu] at h2
  have := unit_fail hn hu h2
  have e : un (l.take n) k = (0, false, n) := this
  rw [e, if_pos rfl]
theorem esc_fail {l : List Nat} {n k : Nat} (hn : n ≤ l.length) (h1 : (escF l k).2.1 = false) (h2 : (escF l k).2.2 = n) : escF (l.take n) k = (0, false, n) := by
  unfold escF at h1 h2
  by_cases a1 : pk l k = 34 ∨ pk l k = 92 ∨ pk l k = 47
  · rw [if_pos a1] at h1; cases h1
  rw [if_neg a1] at h1 h2
  by_cases a2 : pk l k = 98
  · rw [if_pos a2] at h1; cases h1
  rw [if_neg a2] at h1 h2
  by_cases a3 : pk l k = 102
  · rw [if_pos a3] at h1; cases h1
  rw [if_neg a3] at h1 h2
  by_cases a4 : pk l k = 110
  · rw [if_pos a4] at h1; cases h1
  rw [if_neg a4] at h1 h2
  by_cases a5 : pk l k = 114
  · rw [if_pos a5] at h1; cases h1
  rw [if_neg a5] at h1 h2
  by_cases a6 : pk l k = 116
  · rw [if_pos a6] at h1; cases h1
  rw [if_neg a6] at h1 h2
  by_cases a7 : pk l k = 117
  · rw [if_pos a7] at h1 h2
    have hg := coded_ge l (k + 1)
    unfold escF
    rw [← (same_take hn).pk (show k < n by omega), a7]
    exact coded_fail hn h1 h2
  · rw [if_neg a7] at h2
    simp only at h2
    subst h2
    unfold escF
    rw [pk_end]
    rfl
theorem piece_fail {l : List Nat} {n k : Nat} (hn : n ≤ l.length) (h1 : (pieceF l k).2.1 = false) (h2 : (pieceF l k).2.2 = n) : (pieceF (l.take n) k).2.1 = false ∧ (pieceF (l.take n) k).2.2 = n := by
  by_cases hl : n = l.length
  · rw [hl, List.take_length]; exact ⟨h1, by rw [h2, hl]⟩
  have low : n = k → (pieceF (l.take n) k).2.1 = false ∧ (pieceF (l.take n) k).2.2 = n := by
    intro e
    subst e
    unfold pieceF
    rw [pk_end, if_pos (by decide)]
    exact ⟨rfl, rfl⟩
  unfold pieceF at h1 h2
  by_cases c1 : pk l k < 32
  · rw [if_pos c1] at h2; exact low h2.symm
  rw [if_neg c1] at h1 h2
  by_cases c2 : 127 < pk l k
  · rw [if_pos c2] at h1 h2
    unfold pointF at h1 h2
    by_cases c3 : (dcd ((l.drop k).take 4)).2.2 = true
    · rw [if_pos c3] at h1; cases h1
    rw [if_neg c3] at h2
    by_cases c4 : cutB ((l.drop k).take 4) = true
    · rw [if_pos c4] at h2; exact absurd h2.symm hl
    · rw [if_neg c4] at h2; exact low h2.symm
  rw [if_neg c2] at h1 h2
  by_cases c3 : pk l k = 92
  · rw [if_pos c3] at h1 h2
    have hg := esc_ge l (k + 1)
    have := esc_fail hn h1 h2
    unfold pieceF
    rw [← (same_take hn).pk (show k < n by omega), if_neg c1, if_neg c2, if_pos c3, this]
    exact ⟨rfl, rfl⟩
  · rw [if_neg c3] at h1; cases h1
theorem fault_end {l : List Nat} {n : Nat} : faultF (l.take n) n = 5 := by
  unfold faultF
  rw [pk_end]; rfl
theorem low_end (l : List Nat) (u : Nat) (h : (lowF l u).2.1 = true) : (lowF l u).2.2 ≤ l.length := by
  unfold lowF at h ⊢
  by_cases d1 : pk l u ≠ 92
  · rw [if_pos d1] at h; cases h
  rw [if_neg d1] at h ⊢
  by_cases d2 : pk l (u + 1) ≠ 117
  · rw [if_pos d2] at h; cases h
  rw [if_neg d2] at h ⊢
  have := pk_pos (l := l) (k := u + 1) (by have := Decidable.not_not.1 d2; omega)
  exact (unitF_at (l := l) (n := 4) (k := u + 2) (h := 0) (by omega)).2
/-- the bytes up to a fault: they end too early -/
theorem Tl.upto {l : List Nat} {k : Nat} {xs : List Int} {e err : Nat} (t : Tl l k xs e err) (h0 : err ≠ 0) (he : e ≤ l.length) : Tl (l.take e) k xs e 5 := by
  induction t with
  | stop hp => exact absurd rfl h0
  | bad h h2 =>
    rename_i k
    obtain ⟨p1, p2⟩ := piece_fail he h2 rfl
    have hp : pk (l.take (pieceF l k).2.2) k ≠ 34 := by
      rcases Nat.lt_or_ge k (pieceF l k).2.2 with hlt | hge
      · rw [← (same_take he).pk hlt]; exact h
      · have : (pieceF l k).2.2 = k := Nat.le_antisymm hge piece_ge
        rw [this, pk_end]; decide
    have := Tl.bad hp p1
    rw [p2, fault_end] at this
    exact this
  | @go k xs e err hp h2 t ih =>
    have hle := t.le
    have hs := same_take he
    have hst : ∀ u, u ≤ e → (lowF (l.take e) u).2.1 = true → (lowF (l.take e) u).2.2 ≤ e := fun u _ h => Nat.le_trans (low_end _ u h) (by rw [List.length_take]; exact Nat.min_le_left _ _)
    have hpe := hs.piece hst h2 hle
    have hk := piece_adv h2 (pk_ne h2)
    have := Tl.go (l := l.take e) (by rw [← hs.pk (Nat.lt_of_lt_of_le hk hle)]; exact hp) (by rw [hpe]; exact h2) (by rw [hpe]; exact ih h0 he)
    rw [hpe] at this
    exact this
end Go.Proofs.YtjjacffacmpopaaDoor

/- quote: a text in quotes is read alike, whatever stands behind it. -/
namespace Go.Proofs.YtjjacffacmpopaaDoor
open Go.RowKit UM QM

theorem unit_dig {l : List Nat} : ∀ {m k x : Nat}, (unitF l m k x).2.1 = true → (unitF l m k x).2.2 = k + m ∧ ∀ i, i < m → dgv (pk l (k + i)) ≠ none := by
  intro m
  induction m with
  | zero => intro k x _; exact ⟨rfl, fun i h => by omega⟩
  | succ m ih =>
    intro k x h1
    simp only [unitF] at h1 ⊢
    cases hd : dgv (pk l k) with
    | none => rw [hd] at h1; cases h1
    | some d =>
      rw [hd] at h1
      simp only at h1 ⊢
      obtain ⟨e1, e2⟩ := ih h1
      refine ⟨by omega, fun i hi => ?_⟩
      rcases Nat.eq_zero_or_pos i with rfl | h0
      · rw [Nat.add_zero, hd]; simp
      · have := e2 (i - 1) (by omega)
        rwa [show k + 1 + (i - 1) = k + i by omega] at this
theorem Tl.shut {l : List Nat} {k : Nat} {xs : List Int} {e err : Nat} (t : Tl l k xs e err) (h0 : err = 0) : 1 ≤ e ∧ pk l (e - 1) = 34 ∧ e ≤ l.length := by
  induction t with
  | stop hp => exact ⟨by omega, hp, pk_pos (by rw [hp]; decide)⟩
  | bad h h2 => exact absurd h0 (fault_ne _ _)
  | go hp h2 t ih => exact ih h0
theorem Tl.again {l : List Nat} {k : Nat} {xs : List Int} {n : Nat} (t : Tl l k xs n 0) (b : Nat) : Tl (l.take n ++ [b]) k xs n 0 := by
  obtain ⟨s1, s2, s3⟩ := t.shut rfl
  have hs : Same l (l.take n ++ [b]) n := ⟨s3, by rw [List.length_append, List.length_take]; omega, fun k hk => by rw [List.getElem?_append_left (by rw [List.length_take]; omega), List.getElem?_take, if_pos hk]⟩
  refine t.same rfl hs fun u hu h => ?_
  have h1 := low_end _ u h
  rw [List.length_append, List.length_take, Nat.min_eq_left s3, List.length_singleton] at h1
  unfold lowF at h h1 ⊢
  by_cases d1 : pk (l.take n ++ [b]) u ≠ 92
  · rw [if_pos d1] at h; cases h
  rw [if_neg d1] at h h1 ⊢
  by_cases d2 : pk (l.take n ++ [b]) (u + 1) ≠ 117
  · rw [if_pos d2] at h; cases h
  rw [if_neg d2] at h h1 ⊢
  simp only [Bool.and_eq_true, decide_eq_true_eq] at h
  simp only at h1 ⊢
  obtain ⟨e1, e2⟩ := unit_dig (l := l.take n ++ [b]) (m := 4) (k := u + 2) (x := 0) h.1.1
  have e3 : (un (l.take n ++ [b]) (u + 2)).2.2 = u + 2 + 4 := e1
  rw [e3] at h1 ⊢
  rcases Nat.lt_or_ge n (u + 2 + 4) with hlt | hge
  · exfalso
    have hn : n - 1 = u + 2 + 2 := by omega
    have := e2 2 (by decide)
    rw [← hn, ← hs.pk (show n - 1 < n by omega), s2] at this
    exact this rfl
  · exact hge
theorem RdR.again {l : List Nat} {xs : List Int} {n : Nat} (h : RdR l xs n 0) (b : Nat) : RdR (l.take n ++ [b]) xs n 0 := by
  rcases h with ⟨_, _, _, e⟩ | ⟨h0, t⟩
  · exact absurd e.symm (fault_ne _ _)
  · refine .inr ⟨?_, t.again b⟩
    obtain ⟨s1, s2, s3⟩ := t.shut rfl
    have hs : Same l (l.take n ++ [b]) n := ⟨s3, by rw [List.length_append, List.length_take]; omega, fun k hk => by rw [List.getElem?_append_left (by rw [List.length_take]; omega), List.getElem?_take, if_pos hk]⟩
    rw [← hs.pk (by omega)]; exact h0
theorem RdR.upto {l : List Nat} {xs : List Int} {n err : Nat} (h : RdR l xs n err) (h0 : err ≠ 0) (hn : n ≤ l.length) : RdR (l.take n) xs n 5 := by
  rcases h with ⟨p, rfl, rfl, _⟩ | ⟨p, t⟩
  · exact .inl ⟨by rw [List.take_zero]; decide, rfl, rfl, rfl⟩
  · have hl := t.le
    exact .inr ⟨by rw [← (same_take hn).pk (by omega)]; exact p, t.upto h0 hn⟩
end Go.Proofs.YtjjacffacmpopaaDoor

/- 'append(l, more...)': l the call's own, more a slice that came in. -/
namespace Go.Proofs.YtjjacffacmpopaaDoor
open Go.RowKit UM QM

section
variable {P : Program} {ops : Array Oper} {rest : List Oper} {o : Oper} {a : Act} {Q : Exit → Act → World → Prop}
theorem wp_ownarg (w : World) (hg : o.guard = none) (s x : Operand) (t : TypeId)
    (hop : o.op = Op.call { callee := Callee.builtin Builtin.append, args := #[s, x], argTypes := #[t, t] })
    (B : Nat) (e : TypeId) (hu : P.underlying t = some (.slice e)) (hinfo : (P.info? e).map (fun i => (i.zero, i.size, i.bytes)) = some (some (.int .u8 0), 1, 1))
    (ao : Option Addr) (cap n : Nat) (q : List Nat) (hn : n = q.length) (hs : a.eval s = .slice ao n cap) (hown : Own w B e .u8 ao cap q) (hB : B ≤ w.heap.size)
    (ax : Option Addr) (m c : Nat) (more : List Nat) (hm : m = more.length) (hx : a.eval x = .slice ax m c) (hmr : Rd w .u8 ax more) (hnil : ax = none → m = 0 ∧ c = 0) (hlen : q.length + more.length ≤ 140737488355328)
    (hK : ∀ ao' cap' w', Own w' B e .u8 ao' cap' (q ++ more) → Below B w w' → wpList P ops Q rest (a.put o.dst (.slice ao' (q ++ more).length cap')) w') :
    wpList P ops Q (o :: rest) a w := by
  subst hn hm
  obtain ⟨i, hi, hz0, hz1, hz2⟩ := info_parts hinfo
  have hown' : w.ownsRow B e 1 (.slice ao q.length cap) q.length (cs .u8 q) := hown
  rcases ax with _ | ad
  · obtain ⟨h0, rfl⟩ := hnil rfl
    have hmn : more = [] := List.eq_nil_of_length_eq_zero h0
    subst hmn
    refine wpList_append_own_none hg s x t hop B e i 1 hu hi _ _ _ hs hown' hx ?_
    have := hK ao cap w (by rw [List.append_nil]; exact hown) (Below.refl _ _)
    rw [List.append_nil] at this
    exact this
  · have hnews : ∀ j u, (cs .u8 more)[j]? = some u → w.cell? (ad.add j) = some u := by
      intro j u hj
      have hjl : j < more.length := by have := (List.getElem?_eq_some_iff.1 hj).1; rwa [cs_length] at this
      obtain ⟨b', off', e', hc⟩ := hmr j hjl
      cases e'
      rw [Lib.add_plain, hc, ← hj, cs_get hjl]
    have hL : (q ++ more).length = q.length + more.length := List.length_append ..
    refine wpList_append_own _ hg s x t hop B e i (.int .u8 0) 1 1 hu hi hz0 hz1 hz2 rfl (by decide) _ _ _ hs hown' ad more.length c (cs .u8 more) hx (by rw [cs_length, Nat.mul_one]) hnews (cs_oneCell .u8 more) (by unfold maxLen; omega) (by omega) hB ?_
    intro v' w' ho hgr hnl
    have hb : Below B w w' := (Below.refl B w).grown hgr hB (fun j hj => (hown'.lt j hj).1)
    have hsh : ∃ ao' cap', v' = .slice ao' (q.length + more.length) cap' := by
      rcases ho.2 with ⟨h1, h2⟩ | ⟨g, cap', cur, h1, _⟩
      · exact ⟨none, 0, by rw [h1, h2]⟩
      · exact ⟨_, _, h1⟩
    obtain ⟨ao', cap', rfl⟩ := hsh
    rw [← hL]
    refine hK ao' cap' w' ?_ hb
    unfold Own
    rw [cs_append, hL]; exact ho
end
theorem coded_le {l : List Nat} {k : Nat} (hk : k ≤ l.length) : (codedF l k).2.2 ≤ l.length := by
  have hu : (un l k).2.2 ≤ l.length := (unitF_at hk).2
  unfold codedF
  by_cases c0 : (un l k).2.1 = false
  · rw [if_pos c0]; exact hu
  rw [if_neg c0]
  by_cases c1 : (un l k).1 < 55296 ∨ 57343 < (un l k).1
  · rw [if_pos c1]; exact hu
  rw [if_neg c1]
  by_cases c2 : 56320 ≤ (un l k).1
  · rw [if_pos c2]; exact hu
  rw [if_neg c2]
  by_cases c3 : (lowF l (un l k).2.2).2.1 = true
  · rw [if_pos c3]; exact low_end l _ c3
  · rw [if_neg c3]; exact hu
theorem esc_le {l : List Nat} {k : Nat} (hk : k ≤ l.length) : (escF l k).2.2 ≤ l.length := by
  unfold escF
  by_cases h : pk l k = -1
  · rw [h]; exact hk
  have h1 := pk_pos h
  have h2 := coded_le (l := l) (k := k + 1) h1
  repeat' split
  all_goals (try simp only)
  all_goals omega
theorem piece_le {l : List Nat} {k : Nat} (hk : k ≤ l.length) : (pieceF l k).2.2 ≤ l.length := by
  unfold pieceF
  by_cases c1 : pk l k < 32
  · rw [if_pos c1]; exact hk
  rw [if_neg c1]
  have h1 : k < l.length := pk_pos (by omega)
  by_cases c2 : 127 < pk l k
  · rw [if_pos c2]
    unfold pointF
    by_cases c3 : (dcd ((l.drop k).take 4)).2.2 = true
    · rw [if_pos c3]
      rcases dcd_cases ((l.drop k).take 4) with ⟨p, t, hp, e1, e⟩ | ⟨_, e⟩ | ⟨_, e⟩
      · rw [e]
        have := congrArg List.length e1
        rw [List.length_append, enc_len, List.length_take, List.length_drop] at this
        simp only; omega
      · rw [e] at c3; cases c3
      · rw [e] at c3; cases c3
    rw [if_neg c3]
    by_cases c4 : cutB ((l.drop k).take 4) = true
    · rw [if_pos c4]; exact Nat.le_refl _
    · rw [if_neg c4]; exact hk
  rw [if_neg c2]
  by_cases c3 : pk l k = 92
  · rw [if_pos c3]; exact esc_le h1
  · rw [if_neg c3]; exact h1
theorem Tl.fin {l : List Nat} {k : Nat} {xs : List Int} {e err : Nat} (t : Tl l k xs e err) (hk : k ≤ l.length) : e ≤ l.length := by
  induction t with
  | stop hp => exact pk_pos (by rw [hp]; decide)
  | bad h h2 => exact piece_le hk
  | go hp h2 t ih => exact ih (piece_le hk)
theorem RdR.fin {l : List Nat} {xs : List Int} {n err : Nat} (h : RdR l xs n err) : n ≤ l.length := by
  rcases h with ⟨_, _, rfl, _⟩ | ⟨p, t⟩
  · exact Nat.zero_le _
  · exact t.fin (pk_pos (by rw [p]; decide))
theorem Tl.err5 {l : List Nat} {k : Nat} {xs : List Int} {e err : Nat} (t : Tl l k xs e err) (h0 : err ≠ 0) : err = faultF l e := by
  induction t with
  | stop hp => exact absurd rfl h0
  | bad h h2 => rfl
  | go hp h2 t ih => exact ih h0
theorem RdR.short {l : List Nat} {xs : List Int} {n err : Nat} (h : RdR l xs n err) (h5 : err = 5) : n = l.length := by
  have hf : err = faultF l n := by
    rcases h with ⟨_, _, rfl, e⟩ | ⟨_, t⟩
    · exact e
    · exact t.err5 (by omega)
  have hn := h.fin
  rw [h5] at hf
  unfold faultF at hf
  by_cases c : pk l n = -1
  · unfold pk at c
    by_cases c2 : n < l.length
    · rw [if_pos c2] at c; omega
    · omega
  · rw [if_neg c] at hf
    split at hf <;> cases hf
end Go.Proofs.YtjjacffacmpopaaDoor
