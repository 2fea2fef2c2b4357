/- lex: a row of pieces with backslashes, read whole. Nothing of the program. -/
import Derived.Test.YtpgiljibicigeaaGreatDoorLexMaths
import Derived.Test.YtpgiljibicigeaaGreatDoorQuoIs
set_option linter.unusedVariables false
set_option linter.unusedSimpArgs false
namespace Go.Proofs.YtpgiljibicigeaaGreatDoor.LX
open Go.Proofs.YtpgiljibicigeaaGreatDoor UM QM

/-- a row of pieces; true: the last one is cut -/
inductive Rw : Bool → List Nat → Prop
  | nil : Rw false []
  | one : Rw true [92]
  | cutu (x : List Nat) (h : x.length < 4) : Rw true (92 :: 117 :: x)
  | two (b : Bool) (c : Nat) (t : List Nat) (h : c ≠ 117) (r : Rw b t) : Rw b (92 :: c :: t)
  | six (b : Bool) (a1 a2 a3 a4 : Nat) (t : List Nat) (r : Rw b t) : Rw b (92 :: 117 :: a1 :: a2 :: a3 :: a4 :: t)
theorem row_rw : ∀ (f : Nat) (r : List Nat), r.length ≤ f → (ecR f r ≤ r.length → Rw false (r.take (ecR f r))) ∧ (r.length < ecR f r → Rw true r)
  | 0, r, h => by
    have : r = [] := List.length_eq_zero_iff.1 (by omega)
    subst this
    exact ⟨fun _ => Rw.nil, fun h => by simp [ecR] at h⟩
  | f + 1, [], _ => ⟨fun _ => Rw.nil, fun h => by simp [ecR] at h⟩
  | f + 1, c :: t, h => by
    simp only [ecR]
    by_cases h92 : c = 92
    · rw [if_pos h92]
      subst h92
      by_cases h40 : t.head? = some 40
      · rw [if_pos h40]; exact ⟨fun _ => by rw [List.take_zero]; exact Rw.nil, fun h => absurd h (by omega)⟩
      rw [if_neg h40]
      by_cases h117 : t.head? = some 117
      · rw [if_pos h117]
        match t, h117, h with
        | x :: u, h117, h =>
          have hx : x = 117 := by simpa using h117
          subst hx
          match u, h with
          | [], _ => exact ⟨fun h => by simp at h, fun _ => Rw.cutu [] (by decide)⟩
          | [a], _ => exact ⟨fun h => by simp at h, fun _ => Rw.cutu [a] (by simp)⟩
          | [a, b], _ => exact ⟨fun h => by simp at h, fun _ => Rw.cutu [a, b] (by simp)⟩
          | [a, b, d], _ => exact ⟨fun h => by simp at h, fun _ => Rw.cutu [a, b, d] (by simp)⟩
          | a :: b :: d :: e :: v, h =>
            obtain ⟨i1, i2⟩ := row_rw f v (by simp at h; omega)
            simp only [List.drop_succ_cons, List.drop_zero, List.length_cons]
            refine ⟨fun hl => ?_, fun hl => Rw.six true a b d e v (i2 (by omega))⟩
            simp only [List.take_succ_cons]
            exact Rw.six false a b d e _ (i1 (by omega))
      · rw [if_neg h117]
        match t, h117, h with
        | [], _, _ => exact ⟨fun h => by simp at h, fun _ => Rw.one⟩
        | x :: u, h117, h =>
          have hx : x ≠ 117 := by simpa using h117
          obtain ⟨i1, i2⟩ := row_rw f u (by simp at h; omega)
          simp only [List.drop_succ_cons, List.drop_zero, List.length_cons]
          refine ⟨fun hl => ?_, fun hl => Rw.two true x u hx (i2 (by omega))⟩
          simp only [List.take_succ_cons]
          exact Rw.two false x _ hx (i1 (by omega))
    · rw [if_neg h92]; exact ⟨fun _ => by rw [List.take_zero]; exact Rw.nil, fun h => absurd h (by omega)⟩
theorem unitF_fail {l : List Nat} : ∀ {n k h : Nat}, (unitF l n k h).2.1 = false → (unitF l n k h).2.2 < k + n := by
  intro n
  induction n with
  | zero => intro k h hh; simp [unitF] at hh
  | succ n ih =>
    intro k h hh
    simp only [unitF] at hh ⊢
    cases hd : dgv (pk l k) with
    | none => simp
    | some d =>
      rw [hd] at hh
      have := ih hh
      simp only
      omega
theorem drop_pk {l x r : List Nat} {j c : Nat} (h : l.drop j = x ++ c :: r) : pk l (j + x.length) = (c : Nat) := by
  refine pk_of (r := r) ?_
  rw [← List.drop_drop, h, List.drop_left]
theorem un_cut {l x : List Nat} {j : Nat} (h : l.drop j = x ++ [34]) (hx : x.length < 4) : (un l j).2.1 = false := by
  rw [Bool.eq_false_iff]
  intro hc
  have := (unit_dig (l := l) (m := 4) (k := j) (x := 0) hc).2 x.length hx
  rw [drop_pk h] at this
  exact this rfl
theorem drop_len {l x : List Nat} {k : Nat} (h : l.drop k = x) (hx : x ≠ []) : l.length = k + x.length := by
  have := congrArg List.length h
  rw [List.length_drop] at this
  have : 0 < x.length := List.length_pos_iff.2 hx
  omega
theorem pk_end {l : List Nat} {k : Nat} (h : l.drop k = []) : pk l k = -1 := by
  unfold QM.pk
  rw [if_neg (by have := List.drop_eq_nil_iff.1 h; omega)]
/-- what a row does to a reader -/
def RwP (b : Bool) (t : List Nat) : Prop := ∀ {l : List Nat} {k : Nat} {xs : List Int} {e err : Nat}, l.drop k = t ++ [34] → Tl l k xs e err → (b = true → err ≠ 0) ∧ (b = false → err ≠ 0 → e < l.length)
theorem rw_tl : ∀ (n : Nat) {b : Bool} {t : List Nat}, t.length ≤ n → Rw b t → RwP b t := by
  intro n
  induction n with
  | zero =>
    intro b t hn hr
    have : t = [] := List.length_eq_zero_iff.1 (by omega)
    subst this
    cases hr
    intro l k xs e err hd ht
    have hp := pk_of hd
    cases ht with
    | stop _ => exact ⟨fun h => by simp at h, fun _ h => absurd rfl h⟩
    | bad h _ => exact absurd hp h
    | go h _ _ => exact absurd hp h
  | succ n ih =>
    intro b t hn hr l k xs e err hd ht
    cases hr with
    | nil =>
      have hp := pk_of hd
      cases ht with
      | stop _ => exact ⟨fun h => by simp at h, fun _ h => absurd rfl h⟩
      | bad h _ => exact absurd hp h
      | go h _ _ => exact absurd hp h
    | one =>
      have h0 := pk_of hd
      have h1 := pk_of (drop_next hd)
      have h2 := pk_end (drop_next (drop_next hd))
      have hpf : pieceF l k = (34, true, k + 2) := by rw [piece_esc h0]; unfold escF; rw [h1]; rfl
      refine ⟨fun _ => ?_, fun h => by simp at h⟩
      cases ht with
      | stop h => rw [h0] at h; exact absurd h (by decide)
      | bad _ h => rw [hpf] at h; cases h
      | go _ _ t2 =>
        rw [hpf] at t2
        cases t2 with
        | stop h => rw [h2] at h; exact absurd h (by decide)
        | bad _ _ => exact fault_ne _ _
        | go _ h _ => unfold pieceF at h; rw [h2, if_pos (by decide)] at h; cases h
    | cutu x hx =>
      have h0 := pk_of hd
      have h1 := pk_of (drop_next hd)
      have hu := un_cut (drop_next (drop_next hd)) hx
      have hpf : (pieceF l k).2.1 = false := by
        rw [piece_esc h0]; unfold escF; rw [h1]
        simp only [show ((117 : Nat) : Int) = 117 from rfl]
        unfold codedF
        rw [show k + 1 + 1 = k + 2 by omega] at *
        rw [if_pos hu]; rfl
      refine ⟨fun _ => ?_, fun h => by simp at h⟩
      cases ht with
      | stop h => rw [h0] at h; exact absurd h (by decide)
      | bad _ _ => exact fault_ne _ _
      | go _ h _ => rw [hpf] at h; cases h
    | two _ c t hc r =>
      have h0 := pk_of hd
      have h1 := pk_of (drop_next hd)
      have hl := drop_len hd (by simp)
      simp only [List.length_append, List.length_cons, List.length_nil] at hl hn
      have hcI : ((c : Nat) : Int) ≠ 117 := by omega
      have hpf : (pieceF l k).2.1 = true → (pieceF l k).2.2 = k + 2 := by
        rw [piece_esc h0]; unfold escF
        intro h
        split; · rfl
        split; · rfl
        split; · rfl
        split; · rfl
        split; · rfl
        split; · rfl
        rename_i a1 a2 a3 a4 a5 a6
        rw [if_neg a1, if_neg a2, if_neg a3, if_neg a4, if_neg a5, if_neg a6] at h
        rw [h1, if_neg hcI] at h
        cases h
      have hpb : (pieceF l k).2.1 = false → (pieceF l k).2.2 = k + 1 := by
        rw [piece_esc h0]; unfold escF
        intro h
        split; · rename_i a; rw [if_pos a] at h; cases h
        rename_i a1; rw [if_neg a1] at h
        split; · rename_i a; rw [if_pos a] at h; cases h
        rename_i a2; rw [if_neg a2] at h
        split; · rename_i a; rw [if_pos a] at h; cases h
        rename_i a3; rw [if_neg a3] at h
        split; · rename_i a; rw [if_pos a] at h; cases h
        rename_i a4; rw [if_neg a4] at h
        split; · rename_i a; rw [if_pos a] at h; cases h
        rename_i a5; rw [if_neg a5] at h
        split; · rename_i a; rw [if_pos a] at h; cases h
        rename_i a6; rw [if_neg a6] at h
        rw [h1, if_neg hcI]
      cases ht with
      | stop h => rw [h0] at h; exact absurd h (by decide)
      | bad _ h =>
        rw [hpb h]
        exact ⟨fun _ => fault_ne _ _, fun _ _ => by omega⟩
      | go _ h t2 =>
        rw [hpf h] at t2
        exact ih (by omega) r (drop_next (drop_next hd)) t2
    | six _ a1 a2 a3 a4 t r =>
      have h0 := pk_of hd
      have h1 := pk_of (drop_next hd)
      have d6 : l.drop (k + 6) = t ++ [34] := drop_next (drop_next (drop_next (drop_next (drop_next (drop_next hd)))))
      have hl := drop_len hd (by simp)
      simp only [List.length_append, List.length_cons, List.length_nil] at hl hn
      have hpf : pieceF l k = codedF l (k + 2) := by
        rw [piece_esc h0]; unfold escF; rw [h1]; rfl
      by_cases hu : (un l (k + 2)).2.1 = false
      · have hf := unitF_fail hu
        have hpc : pieceF l k = (0, false, (un l (k + 2)).2.2) := by rw [hpf]; unfold codedF; rw [if_pos hu]
        have hlt : (un l (k + 2)).2.2 < k + 6 := hf
        cases ht with
        | stop h => rw [h0] at h; exact absurd h (by decide)
        | bad _ _ =>
          rw [hpc]
          exact ⟨fun _ => fault_ne _ _, fun _ _ => by simp only; omega⟩
        | go _ h _ => rw [hpc] at h; cases h
      · have hu' : (un l (k + 2)).2.1 = true := by simpa using hu
        have h4 := un_four hu'
        have key : ∀ (x : Int), pieceF l k = (x, true, k + 6) → (b = true → err ≠ 0) ∧ (b = false → err ≠ 0 → e < l.length) := by
          intro x hx
          cases ht with
          | stop h => rw [h0] at h; exact absurd h (by decide)
          | bad _ h => rw [hx] at h; cases h
          | go _ _ t2 =>
            rw [hx] at t2
            exact ih (by omega) r d6 t2
        by_cases hs : (un l (k + 2)).1 < 55296 ∨ 57343 < (un l (k + 2)).1
        · exact key _ (by rw [hpf]; unfold codedF; rw [if_neg hu, if_pos hs, h4])
        by_cases hs2 : 56320 ≤ (un l (k + 2)).1
        · exact key _ (by rw [hpf]; unfold codedF; rw [if_neg hu, if_neg hs, if_pos hs2, h4])
        by_cases hw : (lowF l (un l (k + 2)).2.2).2.1 = true
        · have h12 := low_six hw
          rw [h4] at hw h12
          have hpc : ∃ x, pieceF l k = (x, true, k + 12) := ⟨_, by rw [hpf]; unfold codedF; rw [if_neg hu, if_neg hs, if_neg hs2, if_pos (by rw [h4]; exact hw), h4, h12]⟩
          obtain ⟨x, hx⟩ := hpc
          have hp6 : pk l (k + 6) = 92 := by
            unfold lowF at hw
            by_cases h : pk l (k + 2 + 4) ≠ 92
            · rw [if_pos h] at hw; cases hw
            · simpa using h
          have hp7 : pk l (k + 7) = 117 := by
            unfold lowF at hw
            rw [if_neg (by simpa using hp6)] at hw
            by_cases h : pk l (k + 2 + 4 + 1) ≠ 117
            · rw [if_pos h] at hw; cases hw
            · simpa using h
          have hu8 : (un l (k + 8)).2.1 = true := by
            unfold lowF at hw
            rw [if_neg (by simpa using hp6), if_neg (by simpa using hp7)] at hw
            simp only [Bool.and_eq_true] at hw
            exact hw.1.1
          cases r with
          | nil => rw [pk_of d6] at hp6; exact absurd hp6 (by decide)
          | one => rw [show k + 7 = k + 6 + 1 by omega, pk_of (drop_next d6)] at hp7; exact absurd hp7 (by decide)
          | cutu y hy =>
            have := un_cut (drop_next (drop_next d6)) hy
            rw [show k + 6 + 1 + 1 = k + 8 by omega, hu8] at this; cases this
          | two _ c t hc r =>
            rw [show k + 7 = k + 6 + 1 by omega, pk_of (drop_next d6)] at hp7; omega
          | six _ a1 a2 a3 a4 t r =>
            have d12 : l.drop (k + 12) = t ++ [34] := drop_next (drop_next (drop_next (drop_next (drop_next (drop_next d6)))))
            cases ht with
            | stop h => rw [h0] at h; exact absurd h (by decide)
            | bad _ h => rw [hx] at h; cases h
            | go _ _ t2 =>
              rw [hx] at t2
              simp only [List.length_cons] at hn
              exact ih (by omega) r d12 t2
        · exact key _ (by rw [hpf]; unfold codedF; rw [if_neg hu, if_neg hs, if_neg hs2, if_neg hw, h4])
/-- what quote.Read tells of a row -/
theorem rdR_row (r : List Nat) (h92 : r.head? = some 92) (h40 : (r.drop 1).head? ≠ some 40) :
    RdR (34 :: rowR r ++ [34]) (rdR r).1 (rdR r).2.1 (rdR r).2.2 ∧ (r.length < ecR r.length r → (rdR r).2.2 ≠ 0) ∧ (ecR r.length r ≤ r.length → (rdR r).2.2 ≠ 0 → (rdR r).2.1 ≤ (rowR r).length + 1) ∧ 2 ≤ (rdR r).2.1 ∧ (rdR r).2.1 ≤ (rowR r).length + 2 ∧ ((rdR r).2.2 = 0 → (rdR r).1 ≠ []) ∧ (rowR r).head? = some 92 := by
  obtain ⟨c, t, rfl⟩ : ∃ c t, r = c :: t := by
    cases r with
    | nil => simp at h92
    | cons c t => exact ⟨c, t, rfl⟩
  have hc : c = 92 := by simpa using h92
  subst hc
  have hec : 2 ≤ ecR (92 :: t).length (92 :: t) := by
    simp only [List.length_cons, ecR]
    rw [if_pos trivial, if_neg (by simpa using h40)]
    split <;> omega
  have hrow : ∃ u, rowR (92 :: t) = 92 :: u := by
    unfold rowR
    obtain ⟨m, hm⟩ : ∃ m, ecR (92 :: t).length (92 :: t) = m + 1 := ⟨_, (by omega : _ = (ecR (92 :: t).length (92 :: t) - 1) + 1)⟩
    rw [hm]; exact ⟨_, rfl⟩
  obtain ⟨u, hu⟩ := hrow
  have hspec := rdP_spec (34 :: rowR (92 :: t) ++ [34])
  have hd1 : (34 :: rowR (92 :: t) ++ [34]).drop 1 = rowR (92 :: t) ++ [34] := rfl
  have hp0 : pk (34 :: rowR (92 :: t) ++ [34]) 0 = 34 := pk_of (l := 34 :: rowR (92 :: t) ++ [34]) (k := 0) (r := rowR (92 :: t) ++ [34]) (c := 34) rfl
  have hp1 : pk (34 :: rowR (92 :: t) ++ [34]) 1 = 92 := pk_of (r := u ++ [34]) (by rw [hd1, hu]; rfl)
  have hT : Tl (34 :: rowR (92 :: t) ++ [34]) 1 (rdR (92 :: t)).1 (rdR (92 :: t)).2.1 (rdR (92 :: t)).2.2 := by
    rcases hspec with ⟨h, _⟩ | ⟨_, h⟩
    · exact absurd hp0 h
    · exact h
  have hlen : (34 :: rowR (92 :: t) ++ [34]).length = (rowR (92 :: t)).length + 2 := by simp
  refine ⟨hspec, fun hcut => ?_, fun hle herr => ?_, ?_, ?_, fun h0 => ?_, by rw [hu]; rfl⟩
  · have hr := (row_rw (92 :: t).length (92 :: t) (Nat.le_refl _)).2 hcut
    have he : rowR (92 :: t) = 92 :: t := by unfold rowR; exact List.take_of_length_le (by omega)
    have hr' : Rw true (rowR (92 :: t)) := by rw [he]; exact hr
    exact (rw_tl _ (Nat.le_refl _) hr' hd1 hT).1 rfl
  · have hr := (row_rw (92 :: t).length (92 :: t) (Nat.le_refl _)).1 hle
    have := (rw_tl _ (Nat.le_refl _) hr hd1 hT).2 rfl herr
    rw [hlen] at this; omega
  · generalize (rdR (92 :: t)).1 = xs at hT
    generalize (rdR (92 :: t)).2.1 = e at hT ⊢
    generalize (rdR (92 :: t)).2.2 = err at hT
    have hge : 2 ≤ (pieceF (34 :: rowR (92 :: t) ++ [34]) 1).2.2 := by
      rw [piece_esc hp1]
      have : pieceF (34 :: rowR (92 :: t) ++ [34]) 1 = escF (34 :: rowR (92 :: t) ++ [34]) 2 := piece_esc hp1
      exact esc_ge _ _
    cases hT with
    | stop h => rw [hp1] at h; exact absurd h (by decide)
    | bad _ _ => exact hge
    | go _ _ t2 => exact Nat.le_trans hge t2.le
  · have := RdR.fin hspec
    rw [hlen] at this; exact this
  · generalize (rdR (92 :: t)).1 = xs at hT ⊢
    generalize (rdR (92 :: t)).2.1 = e at hT
    generalize (rdR (92 :: t)).2.2 = err at hT h0
    cases hT with
    | stop h => rw [hp1] at h; exact absurd h (by decide)
    | bad _ _ => exact absurd h0 (fault_ne _ _)
    | go _ _ _ => simp
end Go.Proofs.YtpgiljibicigeaaGreatDoor.LX
