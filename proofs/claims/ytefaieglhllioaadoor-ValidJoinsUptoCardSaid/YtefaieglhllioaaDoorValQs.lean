/- valid: what quote.Read tells of a text in quotes, as a function of the bytes and the place. -/
import Derived.Test.YtefaieglhllioaaDoorValMaths
import Derived.Test.YtefaieglhllioaaDoorQuoZ
namespace Go.Proofs.YtefaieglhllioaaDoor
open Go.RowKit UM QM VM

theorem tl_ex (l : List Nat) : ∀ n k, l.length + 1 - k = n → ∃ xs e err, Tl l k xs e err := by
  intro n
  induction n using Nat.strongRecOn with
  | ind n ih =>
    intro k hk
    by_cases h : pk l k = 34
    · exact ⟨_, _, _, Tl.stop h⟩
    by_cases h2 : (pieceF l k).2.1 = true
    · have ha := piece_adv h2 (pk_ne h2)
      have hp := pk_ne h2
      obtain ⟨xs, e, err, t⟩ := ih _ (by omega) (pieceF l k).2.2 rfl
      exact ⟨_, _, _, Tl.go h h2 t⟩
    · exact ⟨_, _, _, Tl.bad h (by simpa using h2)⟩
theorem rd_ex (l : List Nat) : ∃ p : Nat × Nat, ∃ xs, RdR l xs p.1 p.2 := by
  by_cases h : pk l 0 = 34
  · obtain ⟨xs, e, err, t⟩ := tl_ex l _ 1 rfl
    exact ⟨(e, err), xs, .inr ⟨h, t⟩⟩
  · exact ⟨(0, faultF l 0), [], .inl ⟨h, rfl, rfl, rfl⟩⟩
noncomputable def rdO (l : List Nat) : Nat × Nat := Classical.choose (rd_ex l)
theorem rdO_spec (l : List Nat) : ∃ xs, RdR l xs (rdO l).1 (rdO l).2 := Classical.choose_spec (rd_ex l)
theorem rdO_is {l : List Nat} {xs : List Int} {n err : Nat} (h : RdR l xs n err) : rdO l = (n, err) := by
  obtain ⟨ys, h2⟩ := rdO_spec l
  obtain ⟨_, e1, e2⟩ := h2.det h
  exact Prod.ext e1 e2
/-- behind the text in quotes that begins at k; else up to what is wrong -/
noncomputable def quoF (l : List Nat) (k : Nat) : Bool × Nat := (decide ((rdO (l.drop k)).2 = 0), k + (rdO (l.drop k)).1)
theorem pk_drop (l : List Nat) (k i : Nat) : pk (l.drop k) i = pk l (k + i) := by
  unfold QM.pk
  rw [List.length_drop, List.getElem?_drop]
  by_cases h : k + i < l.length
  · rw [if_pos (by omega), if_pos h]
  · rw [if_neg (by omega), if_neg h]
theorem quo_ok : QOk quoF where
  ge := fun l k => Nat.le_add_right _ _
  le := fun l k hk => by
    obtain ⟨xs, h⟩ := rdO_spec (l.drop k)
    have := h.fin
    rw [List.length_drop] at this
    unfold quoF; simp only; omega
  adv := fun l k h => by
    unfold quoF at h ⊢
    simp only [decide_eq_true_eq] at h
    obtain ⟨xs, h2⟩ := rdO_spec (l.drop k)
    rcases h2 with ⟨_, _, _, e⟩ | ⟨_, t⟩
    · exact absurd (e.symm.trans h) (fault_ne _ _)
    · have := t.le
      simp only; omega
  quo := fun l k h => by
    obtain ⟨xs, h2⟩ := rdO_spec (l.drop k)
    unfold quoF
    rcases h2 with ⟨p, _⟩ | ⟨_, t⟩
    · rw [pk_drop] at p; exact absurd h p
    · have := t.le
      simp only; omega
theorem quo_34 {l : List Nat} {k : Nat} (h : (quoF l k).1 = true) : pk l k = 34 := by
  unfold quoF at h
  simp only [decide_eq_true_eq] at h
  obtain ⟨xs, h2⟩ := rdO_spec (l.drop k)
  rcases h2 with ⟨_, _, _, e⟩ | ⟨p, _⟩
  · exact absurd (e.symm.trans h) (fault_ne _ _)
  · rw [pk_drop] at p; exact p
/-- the same below e makes the same bytes -/
theorem pk_same {l l' : List Nat} {n : Nat} (h : ∀ i, i < n → pk l' i = pk l i) (hl : n ≤ l.length) (hl' : n ≤ l'.length) : Same l l' n := by
  refine ⟨hl, hl', fun k hk => ?_⟩
  have := h k hk
  unfold QM.pk at this
  rw [if_pos (by omega), if_pos (by omega)] at this
  omega
/-- a text that has ended is read alike, whatever stands behind it -/
theorem Tl.any {l l' : List Nat} {n : Nat} (hs : Same l l' n) (h34 : pk l (n - 1) = 34) (hn : 1 ≤ n) : ∀ {k : Nat} {xs : List Int} {e err : Nat}, Tl l k xs e err → e = n → err = 0 → Tl l' k xs n 0 := by
  have hs1 : Same l l' (n - 1) := ⟨by have := hs.1; omega, by have := hs.2.1; omega, fun k hk => hs.2.2 k (by omega)⟩
  have hst : ∀ u, u ≤ n - 1 → (lowF l' u).2.1 = true → (lowF l' u).2.2 ≤ n - 1 := by
    intro u hu h
    have hp : pk l' (n - 1) = 34 := by rw [← hs.pk (show n - 1 < n by omega)]; exact h34
    unfold lowF at h ⊢
    by_cases d1 : pk l' u ≠ 92
    · rw [if_pos d1] at h; cases h
    rw [if_neg d1] at h ⊢
    by_cases d2 : pk l' (u + 1) ≠ 117
    · rw [if_pos d2] at h; cases h
    rw [if_neg d2] at h ⊢
    simp only [Bool.and_eq_true, decide_eq_true_eq] at h
    simp only
    obtain ⟨e1, e2⟩ := unit_dig (l := l') (m := 4) (k := u + 2) (x := 0) h.1.1
    have e3 : (un l' (u + 2)).2.2 = u + 2 + 4 := e1
    rw [e3]
    have d3 := Decidable.not_not.1 d1
    have d4 := Decidable.not_not.1 d2
    rcases Nat.lt_or_ge (n - 1) (u + 2 + 4) with hlt | hge
    · exfalso
      by_cases c0 : n - 1 = u
      · rw [c0, d3] at hp; omega
      by_cases c1 : n - 1 = u + 1
      · rw [c1, d4] at hp; omega
      have := e2 (n - 1 - (u + 2)) (by omega)
      rw [show u + 2 + (n - 1 - (u + 2)) = n - 1 by omega, hp] at this
      exact this rfl
    · exact hge
  intro k xs e err t
  induction t with
  | stop hp => intro he _; subst he; exact Tl.stop (by rw [← hs.pk (Nat.lt_succ_self _)]; exact hp)
  | bad h h2 => intro _ h0; exact absurd h0 (fault_ne _ _)
  | @go k xs e err hp h2 t ih =>
    intro he h0
    subst he
    have hle : (pieceF l k).2.2 ≤ e - 1 := by
      have := (t.shut h0).1
      cases t with
      | stop hp => omega
      | bad h h2 => exact absurd h0 (fault_ne _ _)
      | go hp h2 t2 =>
        have h3 := piece_adv h2 (pk_ne h2)
        have := t2.le
        omega
    have hpe := hs1.piece hst h2 hle
    have hk := piece_adv h2 (pk_ne h2)
    have := Tl.go (l := l') (by rw [← hs1.pk (Nat.lt_of_lt_of_le hk hle)]; exact hp) (by rw [hpe]; exact h2) (by rw [hpe]; exact ih rfl h0)
    rw [hpe] at this
    exact this
theorem RdR.any {l l' : List Nat} {xs : List Int} {n : Nat} (h : RdR l xs n 0) (hs : Same l l' n) : RdR l' xs n 0 := by
  rcases h with ⟨_, _, _, e⟩ | ⟨h0, t⟩
  · exact absurd e.symm (fault_ne _ _)
  · obtain ⟨s1, s2, s3⟩ := t.shut rfl
    exact .inr ⟨by rw [← hs.pk (by omega)]; exact h0, t.any hs s2 s1 rfl rfl⟩
end Go.Proofs.YtefaieglhllioaaDoor

/- valid: texts in quotes over bytes that are alike: what goes wrong goes wrong there. -/
namespace Go.Proofs.YtefaieglhllioaaDoor
open Go.RowKit UM QM VM

theorem Same.mono {l l' : List Nat} {m n : Nat} (h : Same l l' m) (hn : n ≤ m) : Same l l' n := ⟨Nat.le_trans hn h.1, Nat.le_trans hn h.2.1, fun k hk => h.2.2 k (by omega)⟩
theorem Same.coded2 {l l' : List Nat} {m k : Nat} (h : Same l l' m) (hst : (lowF l' (codedF l k).2.2).2.1 = true → (lowF l' (codedF l k).2.2).2.2 ≤ m) (h1 : (codedF l k).2.1 = true) (h2 : (codedF l k).2.2 ≤ m) : codedF l' k = codedF l k := by
  have hu : (QM.un l k).2.1 = true ∧ (QM.un l k).2.2 ≤ m := by
    unfold codedF at h1 h2
    have hg := low_ge l (QM.un l k).2.2
    by_cases c0 : (QM.un l k).2.1 = false
    · rw [if_pos c0] at h1; cases h1
    refine ⟨by simpa using c0, ?_⟩
    rw [if_neg c0] at h2
    repeat' split at h2
    all_goals simp only at h2
    all_goals omega
  have he := h.un hu.1 hu.2
  unfold codedF at h1 h2 hst ⊢
  rw [he]
  generalize QM.un l k = U at *
  obtain ⟨u1, u2, u3⟩ := U
  simp only at hu h1 h2 hst ⊢
  have c0 : ¬ u2 = false := by rw [hu.1]; decide
  rw [if_neg c0] at h1 h2 hst
  rw [if_neg c0, if_neg c0]
  by_cases c1 : u1 < 55296 ∨ 57343 < u1
  · rw [if_pos c1, if_pos c1]
  rw [if_neg c1] at h2 hst
  rw [if_neg c1, if_neg c1]
  by_cases c2 : 56320 ≤ u1
  · rw [if_pos c2, if_pos c2]
  rw [if_neg c2] at h2 hst
  rw [if_neg c2, if_neg c2]
  by_cases c3 : (lowF l u3).2.1 = true
  · rw [if_pos c3] at h2
    simp only at h2
    rw [h.low c3 h2]
  · rw [if_neg c3] at hst
    simp only at hst
    have c4 : ¬ (lowF l' u3).2.1 = true := by
      intro c4
      have := h.symm.low c4 (hst c4)
      rw [this] at c3
      exact c3 c4
    rw [if_neg c3, if_neg c4]
theorem Same.piece2 {l l' : List Nat} {m k : Nat} (h : Same l l' m) (hst : (lowF l' (pieceF l k).2.2).2.1 = true → (lowF l' (pieceF l k).2.2).2.2 ≤ m) (h1 : (pieceF l k).2.1 = true) (h2 : (pieceF l k).2.2 ≤ m) : pieceF l' k = pieceF l k := by
  have hk : k < m := Nat.lt_of_lt_of_le (piece_adv h1 (pk_ne h1)) h2
  unfold pieceF at h1 h2 hst ⊢
  rw [← h.pk hk]
  by_cases c1 : QM.pk l k < 32
  · rw [if_pos c1, if_pos c1]
  rw [if_neg c1] at h1 h2 hst
  rw [if_neg c1, if_neg c1]
  by_cases c2 : 127 < QM.pk l k
  · rw [if_pos c2] at h1 h2
    rw [if_pos c2, if_pos c2]
    exact h.point h1 h2
  rw [if_neg c2] at h1 h2 hst
  rw [if_neg c2, if_neg c2]
  by_cases c3 : QM.pk l k = 92
  · rw [if_pos c3] at h1 h2 hst
    rw [if_pos c3, if_pos c3]
    have hk2 : k + 1 < m := by
      have hg := coded_ge l (k + 1 + 1)
      unfold escF at h1 h2
      repeat' split at h2
      all_goals (try simp only at h2)
      all_goals (try omega)
      rename_i a1 a2 a3 a4 a5 a6 a7
      rw [if_neg a1, if_neg a2, if_neg a3, if_neg a4, if_neg a5, if_neg a6, if_neg a7] at h1
      cases h1
    by_cases c7 : QM.pk l (k + 1) = 117
    · have e1 : ∀ L, QM.pk L (k + 1) = 117 → escF L (k + 1) = codedF L (k + 1 + 1) := fun L h => by unfold escF; rw [h]; rfl
      rw [e1 l c7] at h1 h2 hst
      rw [e1 l c7, e1 l' (by rw [← h.pk hk2]; exact c7)]
      exact h.coded2 hst h1 h2
    · unfold escF
      rw [← h.pk hk2, if_neg c7, if_neg c7]
  · rw [if_neg c3, if_neg c3]
theorem unit_at {l : List Nat} : ∀ {m k x : Nat}, (unitF l m k x).2.1 = false → (unitF l m k x).2.2 < k + m ∧ dgv (pk l (unitF l m k x).2.2) = none := by
  intro m
  induction m with
  | zero => intro k x h; cases h
  | succ m ih =>
    intro k x h
    simp only [unitF] at h ⊢
    cases hd : dgv (pk l k) with
    | none => exact ⟨by simp only; omega, hd⟩
    | some d =>
      rw [hd] at h
      simp only at h ⊢
      obtain ⟨a, b⟩ := ih h
      exact ⟨by omega, b⟩
theorem unit_same {l l' : List Nat} {n : Nat} (hs : ∀ i, i ≤ n → pk l' i = pk l i) : ∀ {m k x : Nat}, (unitF l m k x).2.1 = false → (unitF l m k x).2.2 = n → unitF l' m k x = unitF l m k x := by
  intro m
  induction m with
  | zero => intro k x h _; cases h
  | succ m ih =>
    intro k x h1 h2
    simp only [unitF] at h1 h2 ⊢
    cases hd : dgv (pk l k) with
    | none =>
      rw [hd] at h2
      simp only at h2
      rw [hs k (by omega), hd]
    | some d =>
      rw [hd] at h1 h2
      simp only at h1 h2 ⊢
      have hg : k + 1 ≤ (unitF l m (k + 1) (x * 16 + d)).2.2 := unitF_ge
      rw [hs k (by omega), hd]
      exact ih h1 h2
theorem coded_un {l : List Nat} {k : Nat} (h1 : (codedF l k).2.1 = false) : (un l k).2.1 = false ∧ codedF l k = (0, false, (un l k).2.2) := by
  have hu : (un l k).2.1 = false := by
    unfold codedF at h1
    by_cases c0 : (un l k).2.1 = false
    · exact c0
    rw [if_neg c0] at h1
    repeat' split at h1
    all_goals cases h1
  refine ⟨hu, ?_⟩
  unfold codedF
  rw [if_pos hu]
theorem coded_un2 {l : List Nat} {k : Nat} (h1 : (codedF l k).2.1 = true) : (un l k).2.1 = true ∧ (un l k).2.2 ≤ (codedF l k).2.2 := by
  have hg := low_ge l (un l k).2.2
  unfold codedF at h1 ⊢
  by_cases c0 : (un l k).2.1 = false
  · rw [if_pos c0] at h1; cases h1
  refine ⟨by simpa using c0, ?_⟩
  rw [if_neg c0]
  repeat' split
  all_goals simp only
  all_goals omega
theorem esc_117 {l : List Nat} {k : Nat} (h : pk l k = 117) : escF l k = codedF l (k + 1) := by unfold escF; rw [h]; rfl
theorem piece_92 {l : List Nat} {k : Nat} (h : pk l k = 92) : pieceF l k = escF l (k + 1) := by unfold pieceF; rw [h]; rfl
/-- where a text goes wrong within six bytes, no second half stands there -/
theorem noLow {l l' : List Nat} {u e err : Nat} {xs : List Int} (t : Tl l u xs e err) (h0 : err ≠ 0) (hs : ∀ i, i ≤ e → pk l' i = pk l i) (h : (lowF l' u).2.1 = true) : (lowF l' u).2.2 ≤ e := by
  have hue := t.le
  unfold lowF at h ⊢
  by_cases d1 : pk l' u ≠ 92
  · rw [if_pos d1] at h; cases h
  rw [if_neg d1] at h ⊢
  by_cases d2 : pk l' (u + 1) ≠ 117
  · rw [if_pos d2] at h; cases h
  rw [if_neg d2] at h ⊢
  simp only [Bool.and_eq_true, decide_eq_true_eq] at h
  simp only
  obtain ⟨e1, e2⟩ := unit_dig (l := l') (m := 4) (k := u + 2) (x := 0) h.1.1
  have e3 : (un l' (u + 2)).2.2 = u + 2 + 4 := e1
  rw [e3]
  have d3 := Decidable.not_not.1 d1
  have d4 := Decidable.not_not.1 d2
  rw [hs u hue] at d3
  have p92 := piece_92 d3
  rcases Nat.lt_or_ge e (u + 2 + 4) with hlt | hge
  · exfalso
    cases t with
    | stop hp => exact h0 rfl
    | bad hp hb =>
      rw [p92] at hb hlt hs
      have hg := esc_ge l (u + 1)
      have d5 : pk l (u + 1) = 117 := by rw [← hs (u + 1) (by omega)]; exact d4
      rw [esc_117 d5] at hb hlt hs
      obtain ⟨c1, c2⟩ := coded_un hb
      rw [c2] at hlt hs
      simp only at hlt hs
      have hn := (unit_at (l := l) (m := 4) (k := u + 1 + 1) (x := 0) c1).2
      have hg2 : u + 1 + 1 ≤ (un l (u + 1 + 1)).2.2 := unitF_ge
      have c3 : dgv (pk l (un l (u + 1 + 1)).2.2) = none := hn
      rw [← hs _ (Nat.le_refl _)] at c3
      have := e2 ((un l (u + 1 + 1)).2.2 - (u + 2)) (by omega)
      rw [show u + 2 + ((un l (u + 1 + 1)).2.2 - (u + 2)) = (un l (u + 1 + 1)).2.2 by omega] at this
      exact this c3
    | go hp hb t2 =>
      have hle := t2.le
      have hadv := piece_adv hb (pk_ne hb)
      rw [p92] at hb hle hadv
      have d5 : pk l (u + 1) = 117 := by rw [← hs (u + 1) (by omega)]; exact d4
      rw [esc_117 d5] at hb hle
      obtain ⟨c1, c2⟩ := coded_un2 hb
      have := (unit_dig (l := l) (m := 4) (k := u + 1 + 1) (x := 0) c1).1
      have c3 : (un l (u + 1 + 1)).2.2 = u + 1 + 1 + 4 := this
      omega
  · exact hge
theorem piece_wrong {l l' : List Nat} {k n : Nat} (hs : ∀ i, i ≤ n → pk l' i = pk l i) (h7 : pk l n ≤ 127) (hn : n < l.length) (h1 : (pieceF l k).2.1 = false) (h2 : (pieceF l k).2.2 = n) : (pieceF l' k).2.1 = false ∧ (pieceF l' k).2.2 = n := by
  have hkn : k ≤ n := by rw [← h2]; exact piece_ge
  unfold pieceF at h1 h2 ⊢
  rw [hs k hkn]
  by_cases c1 : pk l k < 32
  · rw [if_pos c1] at h2 ⊢; exact ⟨rfl, h2⟩
  rw [if_neg c1] at h1 h2 ⊢
  by_cases c2 : 127 < pk l k
  · exfalso
    rw [if_pos c2] at h1 h2
    unfold pointF at h1 h2
    by_cases c3 : (dcd ((l.drop k).take 4)).2.2 = true
    · rw [if_pos c3] at h1; cases h1
    rw [if_neg c3] at h2
    by_cases c4 : cutB ((l.drop k).take 4) = true
    · rw [if_pos c4] at h2; simp only at h2; omega
    · rw [if_neg c4] at h2; simp only at h2; rw [h2] at c2; omega
  rw [if_neg c2] at h1 h2 ⊢
  by_cases c3 : pk l k = 92
  · rw [if_pos c3] at h1 h2 ⊢
    have hg := esc_ge l (k + 1)
    have hk1 : k + 1 ≤ n := by omega
    by_cases c7 : pk l (k + 1) = 117
    · rw [esc_117 c7] at h1 h2
      rw [esc_117 (by rw [hs (k + 1) hk1]; exact c7)]
      obtain ⟨a1, a2⟩ := coded_un h1
      rw [a2] at h2
      have : un l' (k + 1 + 1) = un l (k + 1 + 1) := unit_same hs a1 h2
      unfold codedF
      rw [this, if_pos a1]
      exact ⟨rfl, h2⟩
    · unfold escF at h1 h2 ⊢
      rw [hs (k + 1) hk1]
      rw [if_neg c7] at h1 h2 ⊢
      exact ⟨h1, h2⟩
  · rw [if_neg c3] at h1; cases h1
/-- what goes wrong goes wrong there, whatever stands behind -/
theorem Tl.wrong {l l' : List Nat} {k : Nat} {xs : List Int} {e err : Nat} (t : Tl l k xs e err) (h0 : err ≠ 0) (he : e < l.length) (hel : e < l'.length) (hs : ∀ i, i ≤ e → pk l' i = pk l i) (h7 : pk l e ≤ 127) : ∃ err', err' ≠ 0 ∧ Tl l' k xs e err' := by
  induction t with
  | stop hp => exact absurd rfl h0
  | bad h h2 =>
    rename_i k
    obtain ⟨p1, p2⟩ := piece_wrong hs h7 he h2 rfl
    have := Tl.bad (l := l') (by rw [hs k piece_ge]; exact h) p1
    rw [p2] at this
    exact ⟨_, fault_ne _ _, this⟩
  | @go k xs e err hp h2 t ih =>
    obtain ⟨err', i1, i2⟩ := ih h0 he hel hs h7
    have hle := t.le
    have hsm : Same l l' e := pk_same (fun i hi => hs i (by omega)) (by omega) (by omega)
    have hpe := hsm.piece2 (fun h => noLow t h0 hs h) h2 hle
    have hk := piece_adv h2 (pk_ne h2)
    have := Tl.go (l := l') (by rw [hs k (by omega)]; exact hp) (by rw [hpe]; exact h2) (by rw [hpe]; exact i2)
    rw [hpe] at this
    exact ⟨err', i1, this⟩
theorem RdR.wrong {l l' : List Nat} {xs : List Int} {n err : Nat} (h : RdR l xs n err) (h0 : err ≠ 0) (he : n < l.length) (hel : n < l'.length) (hs : ∀ i, i ≤ n → pk l' i = pk l i) (h7 : pk l n ≤ 127) : ∃ err', err' ≠ 0 ∧ RdR l' xs n err' := by
  rcases h with ⟨p, rfl, rfl, _⟩ | ⟨p, t⟩
  · exact ⟨_, fault_ne _ _, .inl ⟨by rw [hs 0 (Nat.le_refl _)]; exact p, rfl, rfl, rfl⟩⟩
  · have hl := t.le
    obtain ⟨err', a, b⟩ := t.wrong h0 he hel hs h7
    exact ⟨err', a, .inr ⟨by rw [hs 0 (by omega)]; exact p, b⟩⟩

/-- the three ways in which texts are alike -/
theorem quo_any {l l' : List Nat} {e : Nat} (h : Sim l l' e) {k : Nat} (hk : k ≤ e) (h1 : (quoF l k).1 = true) (h2 : (quoF l k).2 ≤ e) : quoF l' k = quoF l k := by
  unfold quoF at h1 h2 ⊢
  simp only [decide_eq_true_eq] at h1 h2
  obtain ⟨xs, hr⟩ := rdO_spec (l.drop k)
  rw [h1] at hr
  have hs : Same (l.drop k) (l'.drop k) (rdO (l.drop k)).1 := pk_same (fun i hi => by rw [pk_drop, pk_drop]; exact h.lo _ (by omega)) (by rw [List.length_drop]; have := h.le; omega) (by rw [List.length_drop]; have := h.le'; omega)
  rw [rdO_is (hr.any hs), h1]
theorem quo_take {l : List Nat} {e k : Nat} (hk : k ≤ e) (he : e ≤ l.length) (h1 : (quoF l k).1 ≠ true) (h2 : (quoF l k).2 = e) : quoF (l.take e) k = quoF l k := by
  unfold quoF at h1 h2 ⊢
  simp only [decide_eq_true_eq] at h1 h2
  obtain ⟨xs, hr⟩ := rdO_spec (l.drop k)
  have h3 : (rdO (l.drop k)).2 ≠ 0 := by simpa using h1
  have hu := hr.upto h3 (by rw [List.length_drop]; omega)
  rw [List.take_drop, show k + (rdO (l.drop k)).1 = e from h2] at hu
  rw [rdO_is hu]
  simp [h1]
theorem quo_wrong {l l' : List Nat} {e k : Nat} (hk : k ≤ e) (he : e < l.length) (hel : e < l'.length) (hs : ∀ i, i ≤ e → pk l' i = pk l i) (h7 : pk l e ≤ 127) (h1 : (quoF l k).1 ≠ true) (h2 : (quoF l k).2 = e) : quoF l' k = quoF l k := by
  unfold quoF at h1 h2 ⊢
  simp only [decide_eq_true_eq] at h1 h2
  obtain ⟨xs, hr⟩ := rdO_spec (l.drop k)
  obtain ⟨err', a, b⟩ := hr.wrong (l' := l'.drop k) (by simpa using h1) (by rw [List.length_drop]; omega) (by rw [List.length_drop]; omega) (fun i hi => by rw [pk_drop, pk_drop]; exact hs _ (by omega)) (by rw [pk_drop, h2]; exact h7)
  rw [rdO_is b]
  simp [h1, a]
theorem quo_law : QLaw quoF where
  toQOk := quo_ok
  any := fun h hk h1 h2 => quo_any h hk h1 h2
  take := fun hk he h1 h2 => quo_take hk he h1 h2
  wrong := fun hk he hel hs h7 h1 h2 => quo_wrong hk he hel hs h7 h1 h2
  shift := fun l f k => by
    unfold quoF
    rw [← List.drop_drop, Nat.add_assoc]
end Go.Proofs.YtefaieglhllioaaDoor
