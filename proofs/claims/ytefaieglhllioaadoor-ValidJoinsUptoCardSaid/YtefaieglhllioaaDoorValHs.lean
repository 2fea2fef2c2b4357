/- valid's reader: value, key, behind, turn walked. -/
import Derived.Test.YtefaieglhllioaaDoorValEs
import Derived.Test.YtefaieglhllioaaDoorValG
namespace Go.Proofs.YtefaieglhllioaaDoor
open Go.RowKit UM QM VM

theorem ResTu.mk {g : Nat} {a : Option Addr} {cap : Nat} {l : List Nat} {m q k : Nat} {s : List Bool} {w w' : World} {v : Int} (hq : q ≠ 8) (hv : v = (q : Int)) (h : VB w' g a cap l m k s false) (hg : w.grownBy w' (some g)) : ResTu g a cap l m (q, k, s) w (.returned (.int .i64 v)) w' := by
  subst hv
  refine ⟨by simp only; rw [if_neg hq], ?_, hg⟩
  rw [decide_eq_false hq]; exact h
def nullB : ByteArray := ⟨#[110, 117, 108, 108]⟩
def trueB : ByteArray := ⟨#[116, 114, 117, 101]⟩
def falseB : ByteArray := ⟨#[102, 97, 108, 115, 101]⟩
theorem wsN : wsF nullB 0 = wN := by decide
theorem wsT : wsF trueB 0 = wT := by decide
theorem wsFa : wsF falseB 0 = wF := by decide
/-- what may be said of a plain text: how it is told, what follows -/
theorem fol_ne7 (s : List Bool) (b : Bool) : (if b = true then fol s else 7) ≠ 8 := by have := fol_cases s; split <;> omega
set_option maxRecDepth 100000 in
set_option maxHeartbeats 8000000 in
theorem value_any (g : Nat) (a : Option Addr) (cap : Nat) (l : List Nat) (m k : Nat) (s : List Bool) (w : World) (h : VB w g a cap l m k s false) :
    Calls Tryd.prog 21 #[.pointer (some ⟨g, 0, none⟩)] w (ResTu g a cap l m (valF quoF l m k s) w) := by
  have HP := Lib.hid (vpeek_any g a cap l m k s false w h)
  have HB := Lib.hid h
  have HF := Lib.hid (fun W j (r : VB W g a cap l m j s false) => follows_any g a cap l m j s false W r)
  have hpos := pk_pos (l := l) (k := k)
  by_cases h91 : pk l k = 91
  · have hr : valF quoF l m k s = (if m ≤ s.length then (8, k, s) else (if false = true then 3 else 1, k + 1, s ++ [false])) := by
      unfold valF; rw [if_pos (.inl h91), h91]; rfl
    rw [hr]
    have HO := Lib.hid (fun W r => opened_any false g a cap l m k s W r (hpos (by rw [h91]; decide)))
    unfold ResTu at HO ⊢
    generalize (if m ≤ s.length then (8, k, s) else (if false = true then 3 else 1, k + 1, s ++ [false])) = R at *
    generalize (((if R.1 = 8 then 7 else R.1 : Nat)) : Int) = qq at *
    generalize decide (R.1 = 8) = dd at *
    rw [h91] at HP
    clear h91 hr hpos h
    go_enter Tryd.func21, Tryd.ntmps21
    go_wp2_with fail
    refine HP.out.mono ?_
    rintro e w1 ⟨rfl, n, rfl⟩
    go_wp2_with fail
    refine (HO.out _ (HB.out.dN n)).mono ?_
    rintro e w2 ⟨rfl, hb, hg⟩
    have H2 := Lib.hid hb; have G2 := Lib.hid (gb_trans (gb_dN (gb_refl w (some g)) n) hg)
    clear hb hg
    go_wp2
    go_ret
    exact ⟨rfl, H2.out, G2.out⟩
  have t91 : (pk l k == 91) = false := by simp [h91]
  by_cases h123 : pk l k = 123
  · have hr : valF quoF l m k s = (if m ≤ s.length then (8, k, s) else (if true = true then 3 else 1, k + 1, s ++ [true])) := by
      unfold valF; rw [if_pos (.inr h123), h123]; rfl
    rw [hr]
    have HO := Lib.hid (fun W r => opened_any true g a cap l m k s W r (hpos (by rw [h123]; decide)))
    unfold ResTu at HO ⊢
    generalize (if m ≤ s.length then (8, k, s) else (if true = true then 3 else 1, k + 1, s ++ [true])) = R at *
    generalize (((if R.1 = 8 then 7 else R.1 : Nat)) : Int) = qq at *
    generalize decide (R.1 = 8) = dd at *
    rw [h123] at HP
    clear h91 h123 hr hpos h t91
    go_enter Tryd.func21, Tryd.ntmps21
    go_wp2_with fail
    refine HP.out.mono ?_
    rintro e w1 ⟨rfl, n, rfl⟩
    go_wp2_with fail
    refine (HO.out _ (HB.out.dN n)).mono ?_
    rintro e w2 ⟨rfl, hb, hg⟩
    have H2 := Lib.hid hb; have G2 := Lib.hid (gb_trans (gb_dN (gb_refl w (some g)) n) hg)
    clear hb hg
    go_wp2
    go_ret
    exact ⟨rfl, H2.out, G2.out⟩
  have t123 : (pk l k == 123) = false := by simp [h123]
  have hv : valF quoF l m k s = if pk l k = 34 then aft s (quoF l k) else if pk l k = 110 then aft s (wordF l k wN) else if pk l k = 116 then aft s (wordF l k wT) else if pk l k = 102 then aft s (wordF l k wF) else aft s (numF l k) := by unfold valF; rw [if_neg (by omega)]
  rw [hv]
  clear hv
  have hne := fol_ne7 s
  by_cases h34 : pk l k = 34
  · rw [if_pos h34]
    have HC := Lib.hid (fun W r => quoted_any g a cap l m k s false W r (by have := hpos (by rw [h34]; decide); omega))
    unfold ResVB at HC
    unfold aft
    generalize quoF l k = R at *
    obtain ⟨b, K⟩ := R
    have hne2 := hne b
    have HNE := Lib.hid hne2
    rw [h34] at HP
    clear h91 h123 h34 hpos h t91 t123 hne hne2
    cases b
    all_goals
      go_enter Tryd.func21, Tryd.ntmps21
      go_wp2_with fail
      refine HP.out.mono ?_
      rintro e w1 ⟨rfl, n, rfl⟩
      go_wp2_with fail
      refine (HC.out _ (HB.out.dN n)).mono ?_
      rintro e w2 ⟨rfl, hb, hg⟩
      have H2 := Lib.hid hb; have G2 := Lib.hid (gb_trans (gb_dN (gb_refl w (some g)) n) hg)
      clear hb hg
      go_wp2_with (refine (HF.out _ _ H2.out).mono ?_; rintro e w3 ⟨rfl, rfl⟩)
      go_ret
      exact ResTu.mk HNE.out rfl H2.out G2.out
  have t34 : (pk l k == 34) = false := by simp [h34]
  rw [if_neg h34]
  by_cases h110 : pk l k = 110
  · rw [if_pos h110]
    have HC := Lib.hid (fun W r => word_any nullB (by decide) g a cap l m k s false W r)
    rw [wsN] at HC
    unfold ResVB nullB at HC
    unfold aft
    generalize wordF l k wN = R at *
    obtain ⟨b, K⟩ := R
    have hne2 := hne b
    have HNE := Lib.hid hne2
    rw [h110] at HP
    clear h91 h123 h34 h110 hpos h t91 t123 t34 hne hne2
    cases b
    all_goals
      go_enter Tryd.func21, Tryd.ntmps21
      go_wp2_with fail
      refine HP.out.mono ?_
      rintro e w1 ⟨rfl, n, rfl⟩
      go_wp2_with fail
      refine (HC.out _ (HB.out.dN n)).mono ?_
      rintro e w2 ⟨rfl, hb, hg⟩
      have H2 := Lib.hid hb; have G2 := Lib.hid (gb_trans (gb_dN (gb_refl w (some g)) n) hg)
      clear hb hg
      go_wp2_with (refine (HF.out _ _ H2.out).mono ?_; rintro e w3 ⟨rfl, rfl⟩)
      go_ret
      exact ResTu.mk HNE.out rfl H2.out G2.out
  have t110 : (pk l k == 110) = false := by simp [h110]
  rw [if_neg h110]
  by_cases h116 : pk l k = 116
  · rw [if_pos h116]
    have HC := Lib.hid (fun W r => word_any trueB (by decide) g a cap l m k s false W r)
    rw [wsT] at HC
    unfold ResVB trueB at HC
    unfold aft
    generalize wordF l k wT = R at *
    obtain ⟨b, K⟩ := R
    have hne2 := hne b
    have HNE := Lib.hid hne2
    rw [h116] at HP
    clear h91 h123 h34 h110 h116 hpos h t91 t123 t34 t110 hne hne2
    cases b
    all_goals
      go_enter Tryd.func21, Tryd.ntmps21
      go_wp2_with fail
      refine HP.out.mono ?_
      rintro e w1 ⟨rfl, n, rfl⟩
      go_wp2_with fail
      refine (HC.out _ (HB.out.dN n)).mono ?_
      rintro e w2 ⟨rfl, hb, hg⟩
      have H2 := Lib.hid hb; have G2 := Lib.hid (gb_trans (gb_dN (gb_refl w (some g)) n) hg)
      clear hb hg
      go_wp2_with (refine (HF.out _ _ H2.out).mono ?_; rintro e w3 ⟨rfl, rfl⟩)
      go_ret
      exact ResTu.mk HNE.out rfl H2.out G2.out
  have t116 : (pk l k == 116) = false := by simp [h116]
  rw [if_neg h116]
  by_cases h102 : pk l k = 102
  · rw [if_pos h102]
    have HC := Lib.hid (fun W r => word_any falseB (by decide) g a cap l m k s false W r)
    rw [wsFa] at HC
    unfold ResVB falseB at HC
    unfold aft
    generalize wordF l k wF = R at *
    obtain ⟨b, K⟩ := R
    have hne2 := hne b
    have HNE := Lib.hid hne2
    rw [h102] at HP
    clear h91 h123 h34 h110 h116 h102 hpos h t91 t123 t34 t110 t116 hne hne2
    cases b
    all_goals
      go_enter Tryd.func21, Tryd.ntmps21
      go_wp2_with fail
      refine HP.out.mono ?_
      rintro e w1 ⟨rfl, n, rfl⟩
      go_wp2_with fail
      refine (HC.out _ (HB.out.dN n)).mono ?_
      rintro e w2 ⟨rfl, hb, hg⟩
      have H2 := Lib.hid hb; have G2 := Lib.hid (gb_trans (gb_dN (gb_refl w (some g)) n) hg)
      clear hb hg
      go_wp2_with (refine (HF.out _ _ H2.out).mono ?_; rintro e w3 ⟨rfl, rfl⟩)
      go_ret
      exact ResTu.mk HNE.out rfl H2.out G2.out
  have t102 : (pk l k == 102) = false := by simp [h102]
  rw [if_neg h102]
  have HC := Lib.hid (fun W r => number_any g a cap l m k s false W r)
  unfold ResVB at HC
  unfold aft
  generalize numF l k = R at *
  generalize pk l k = p at *
  obtain ⟨b, K⟩ := R
  have hne2 := hne b
  have HNE := Lib.hid hne2
  clear h91 h123 h34 h110 h116 h102 hpos h hne hne2
  cases b
  all_goals
    go_enter Tryd.func21, Tryd.ntmps21
    go_wp2_with fail
    refine HP.out.mono ?_
    rintro e w1 ⟨rfl, n, rfl⟩
    go_wp2_with fail
    refine (HC.out _ (HB.out.dN n)).mono ?_
    rintro e w2 ⟨rfl, hb, hg⟩
    have H2 := Lib.hid hb; have G2 := Lib.hid (gb_trans (gb_dN (gb_refl w (some g)) n) hg)
    clear hb hg
    go_wp2_with (refine (HF.out _ _ H2.out).mono ?_; rintro e w3 ⟨rfl, rfl⟩)
    go_ret
    exact ResTu.mk HNE.out rfl H2.out G2.out
set_option maxRecDepth 100000 in
set_option maxHeartbeats 2000000 in
theorem key_any (g : Nat) (a : Option Addr) (cap : Nat) (l : List Nat) (m k : Nat) (s : List Bool) (w : World) (h : VB w g a cap l m k s false) (hl : 0 < l.length) :
    Calls Tryd.prog 22 #[.pointer (some ⟨g, 0, none⟩)] w (ResTu g a cap l m (keyF quoF l k s) w) := by
  have HC := Lib.hid (quoted_any g a cap l m k s false w h hl)
  unfold ResVB at HC
  unfold keyF
  generalize quoF l k = R at *
  obtain ⟨b, K⟩ := R
  clear h hl
  cases b
  all_goals
    go_enter Tryd.func22, Tryd.ntmps22
    go_wp2_with fail
    refine HC.out.mono ?_
    rintro e w2 ⟨rfl, hb, hg⟩
    have H2 := Lib.hid hb; have G2 := Lib.hid hg
    clear hb hg
    go_wp2
    go_ret
    exact ResTu.mk (by decide) rfl H2.out G2.out
set_option maxRecDepth 100000 in
set_option maxHeartbeats 4000000 in
theorem behind_any (g : Nat) (a : Option Addr) (cap : Nat) (l : List Nat) (m k : Nat) (s : List Bool) (w : World) (h : VB w g a cap l m k s false) (hs : s ≠ []) :
    Calls Tryd.prog 23 #[.pointer (some ⟨g, 0, none⟩)] w (ResTu g a cap l m (behF l k s) w) := by
  have HO := Lib.hid (object_any g a cap l m k s false w h hs)
  have HC := Lib.hid (fun W r => closed_any g a cap l m (k + 1) s W r hs)
  have HB := Lib.hid h
  unfold behF cls
  by_cases h44 : pk l k = 44
  · rw [if_pos h44]
    have HT := Lib.hid (vtake_yes 44 g a cap l m k s false w h h44 (by decide))
    clear h h44 hs HC
    generalize top s = t at *
    cases t
    all_goals
      go_enter Tryd.func23, Tryd.ntmps23
      go_wp2_with fail
      refine HO.out.mono ?_
      rintro e w1 ⟨rfl, rfl⟩
      go_wp2_with fail
      refine HT.out.mono ?_
      rintro e w2 ⟨rfl, hb, hg⟩
      have H2 := Lib.hid hb; have G2 := Lib.hid hg
      clear hb hg
      go_wp2
      go_ret
      exact ResTu.mk (by decide) rfl H2.out G2.out
  rw [if_neg h44]
  have HT := Lib.hid (vtake_no 44 g a cap l m k s false w h h44)
  generalize top s = t at *
  cases t
  · simp only [Bool.false_eq_true, if_false]
    by_cases h2 : pk l k = 93
    · rw [if_pos h2]
      have HT2 := Lib.hid (fun W r => vtake_yes 93 g a cap l m k s false W r h2 (by decide))
      unfold ResTu at HC ⊢
      generalize (fol s.dropLast, k + 1, s.dropLast) = R at *
      generalize (((if R.1 = 8 then 7 else R.1 : Nat)) : Int) = qq at *
      generalize decide (R.1 = 8) = dd at *
      clear h h44 hs h2
      go_enter Tryd.func23, Tryd.ntmps23
      go_wp2_with fail
      refine HO.out.mono ?_
      rintro e w1 ⟨rfl, rfl⟩
      go_wp2_with fail
      refine HT.out.mono ?_
      rintro e w2 ⟨rfl, hb, hg⟩
      have H2 := Lib.hid hb; have G2 := Lib.hid hg
      clear hb hg
      go_wp2_with fail
      refine (HT2.out _ H2.out).mono ?_
      rintro e w3 ⟨rfl, hb, hg⟩
      have H3 := Lib.hid hb; have G3 := Lib.hid (gb_trans G2.out hg)
      clear hb hg
      go_wp2_with fail
      refine (HC.out _ H3.out).mono ?_
      rintro e w4 ⟨rfl, hb, hg⟩
      have H4 := Lib.hid hb; have G4 := Lib.hid (gb_trans G3.out hg)
      clear hb hg
      go_wp2
      go_ret
      exact ⟨rfl, H4.out, G4.out⟩
    · rw [if_neg h2]
      have HT2 := Lib.hid (fun W r => vtake_no 93 g a cap l m k s false W r h2)
      clear h h44 hs h2 HC
      go_enter Tryd.func23, Tryd.ntmps23
      go_wp2_with fail
      refine HO.out.mono ?_
      rintro e w1 ⟨rfl, rfl⟩
      go_wp2_with fail
      refine HT.out.mono ?_
      rintro e w2 ⟨rfl, hb, hg⟩
      have H2 := Lib.hid hb; have G2 := Lib.hid hg
      clear hb hg
      go_wp2_with fail
      refine (HT2.out _ H2.out).mono ?_
      rintro e w3 ⟨rfl, hb, hg⟩
      have H3 := Lib.hid hb; have G3 := Lib.hid (gb_trans G2.out hg)
      clear hb hg
      go_wp2
      go_ret
      exact ResTu.mk (by decide) rfl H3.out G3.out
  · simp only [if_true]
    by_cases h2 : pk l k = 125
    · rw [if_pos h2]
      have HT2 := Lib.hid (fun W r => vtake_yes 125 g a cap l m k s false W r h2 (by decide))
      unfold ResTu at HC ⊢
      generalize (fol s.dropLast, k + 1, s.dropLast) = R at *
      generalize (((if R.1 = 8 then 7 else R.1 : Nat)) : Int) = qq at *
      generalize decide (R.1 = 8) = dd at *
      clear h h44 hs h2
      go_enter Tryd.func23, Tryd.ntmps23
      go_wp2_with fail
      refine HO.out.mono ?_
      rintro e w1 ⟨rfl, rfl⟩
      go_wp2_with fail
      refine HT.out.mono ?_
      rintro e w2 ⟨rfl, hb, hg⟩
      have H2 := Lib.hid hb; have G2 := Lib.hid hg
      clear hb hg
      go_wp2_with fail
      refine (HT2.out _ H2.out).mono ?_
      rintro e w3 ⟨rfl, hb, hg⟩
      have H3 := Lib.hid hb; have G3 := Lib.hid (gb_trans G2.out hg)
      clear hb hg
      go_wp2_with fail
      refine (HC.out _ H3.out).mono ?_
      rintro e w4 ⟨rfl, hb, hg⟩
      have H4 := Lib.hid hb; have G4 := Lib.hid (gb_trans G3.out hg)
      clear hb hg
      go_wp2
      go_ret
      exact ⟨rfl, H4.out, G4.out⟩
    · rw [if_neg h2]
      have HT2 := Lib.hid (fun W r => vtake_no 125 g a cap l m k s false W r h2)
      clear h h44 hs h2 HC
      go_enter Tryd.func23, Tryd.ntmps23
      go_wp2_with fail
      refine HO.out.mono ?_
      rintro e w1 ⟨rfl, rfl⟩
      go_wp2_with fail
      refine HT.out.mono ?_
      rintro e w2 ⟨rfl, hb, hg⟩
      have H2 := Lib.hid hb; have G2 := Lib.hid hg
      clear hb hg
      go_wp2_with fail
      refine (HT2.out _ H2.out).mono ?_
      rintro e w3 ⟨rfl, hb, hg⟩
      have H3 := Lib.hid hb; have G3 := Lib.hid (gb_trans G2.out hg)
      clear hb hg
      go_wp2
      go_ret
      exact ResTu.mk (by decide) rfl H3.out G3.out
end Go.Proofs.YtefaieglhllioaaDoor

/- valid's reader: turn, text walked. -/
namespace Go.Proofs.YtefaieglhllioaaDoor
open Go.RowKit UM QM VM

/-- what a turn wants -/
def Pre (l : List Nat) (q : Nat) (s : List Bool) : Prop := (q = 1 ∨ q = 3 ∨ q = 5 → s ≠ []) ∧ (q = 2 ∨ q = 3 → 0 < l.length)
/-- what a turn leaves -/
def Post (l : List Nat) (t : Nat × Nat × List Bool) : Prop := (t.1 = 1 ∨ t.1 = 3 ∨ t.1 = 5 → t.2.2 ≠ []) ∧ (t.1 = 6 → t.2.2 = []) ∧ (t.1 ≤ 6 → 0 < l.length) ∧ t.1 ≤ 8
theorem fol_five {s : List Bool} (h : fol s = 5) : s ≠ [] := by
  intro e; subst e; cases h
theorem fol_six {s : List Bool} (h : fol s = 6) : s = [] := by
  unfold fol at h
  by_cases h0 : s.length = 0
  · exact List.eq_nil_of_length_eq_zero h0
  · rw [if_neg h0] at h; omega
theorem post_fol {s : List Bool} {q : Nat} (h : q = fol s) : (q = 1 ∨ q = 3 ∨ q = 5 → s ≠ []) ∧ (q = 6 → s = []) := by
  have := fol_cases s
  exact ⟨fun h2 => fol_five (by omega), fun h2 => fol_six (by omega)⟩
theorem post_aft {s : List Bool} {r : Bool × Nat} : ((aft s r).1 = 1 ∨ (aft s r).1 = 3 ∨ (aft s r).1 = 5 → (aft s r).2.2 ≠ []) ∧ ((aft s r).1 = 6 → (aft s r).2.2 = []) := by
  unfold aft
  by_cases h : r.1 = true
  · rw [if_pos h]; exact post_fol rfl
  · rw [if_neg h]; simp
theorem post_val {l : List Nat} {m k : Nat} {s : List Bool} : ((valF quoF l m k s).1 = 1 ∨ (valF quoF l m k s).1 = 3 ∨ (valF quoF l m k s).1 = 5 → (valF quoF l m k s).2.2 ≠ []) ∧ ((valF quoF l m k s).1 = 6 → (valF quoF l m k s).2.2 = []) := by
  unfold valF
  split
  · split
    · simp
    · refine ⟨fun _ => by simp, ?_⟩
      simp only
      split <;> intro h <;> omega
  repeat' split
  all_goals exact post_aft
theorem post_turn {l : List Nat} {m q k : Nat} {s : List Bool} (hk : k ≤ l.length) (hq : q < 6) (hp : Pre l q s) : Post l (turnF quoF l m q k s) := by
  refine ⟨?_, ?_, fun h => ?_, turn_fin⟩
  · have hv := (post_val (l := l) (m := m) (k := k) (s := s)).1
    have hc : (cls k s).1 = 1 ∨ (cls k s).1 = 3 ∨ (cls k s).1 = 5 → (cls k s).2.2 ≠ [] := (post_fol rfl).1
    have hy : (keyF quoF l k s).1 = 1 ∨ (keyF quoF l k s).1 = 3 ∨ (keyF quoF l k s).1 = 5 → (keyF quoF l k s).2.2 ≠ [] := by unfold keyF; simp only; split <;> intro h <;> omega
    have hb : (behF l k s).1 = 1 ∨ (behF l k s).1 = 3 ∨ (behF l k s).1 = 5 → (behF l k s).2.2 ≠ [] := by
      unfold behF
      by_cases h1 : pk l k = 44
      · rw [if_pos h1]; simp only; split <;> intro h <;> omega
      rw [if_neg h1]
      by_cases h2 : pk l k = (if top s = true then 125 else 93)
      · rw [if_pos h2]; exact hc
      · rw [if_neg h2]; simp
    unfold turnF
    repeat' split
    all_goals first | exact hv | exact hc | exact hy | exact hb | (intro h; simp at h)
  · have hv := (post_val (l := l) (m := m) (k := k) (s := s)).2
    have hc : (cls k s).1 = 6 → (cls k s).2.2 = [] := (post_fol rfl).2
    have hy : (keyF quoF l k s).1 = 6 → (keyF quoF l k s).2.2 = [] := by unfold keyF; simp only; split <;> intro h <;> omega
    have hb : (behF l k s).1 = 6 → (behF l k s).2.2 = [] := by
      unfold behF
      by_cases h1 : pk l k = 44
      · rw [if_pos h1]; simp only; split <;> intro h <;> omega
      rw [if_neg h1]
      by_cases h2 : pk l k = (if top s = true then 125 else 93)
      · rw [if_pos h2]; exact hc
      · rw [if_neg h2]; simp
    unfold turnF
    repeat' split
    all_goals first | exact hv | exact hc | exact hy | exact hb | (intro h; simp at h)
  · have h1 := turn_adv quo_ok h
    have h2 := turn_le quo_ok (m := m) (q := q) (s := s) hk
    omega
/-- a turn's contract -/
def TurnC (g : Nat) (a : Option Addr) (cap : Nat) (l : List Nat) (m q k : Nat) (s : List Bool) (w : World) : Prop :=
  Calls Tryd.prog 17 #[.pointer (some ⟨g, 0, none⟩), .int .i64 (q : Int)] w (ResTu g a cap l m (turnF quoF l m q k s) w)
set_option maxRecDepth 100000 in
set_option maxHeartbeats 2000000 in
theorem turn_0 (g : Nat) (a : Option Addr) (cap : Nat) (l : List Nat) (m k : Nat) (s : List Bool) (w : World) (h : VB w g a cap l m k s false) : TurnC g a cap l m 0 k s w := by
  have HC := Lib.hid (value_any g a cap l m k s w h)
  unfold TurnC
  rw [show turnF quoF l m 0 k s = valF quoF l m k s from rfl]
  unfold ResTu at HC ⊢
  generalize valF quoF l m k s = R at *
  generalize (((if R.1 = 8 then 7 else R.1 : Nat)) : Int) = qq at *
  generalize decide (R.1 = 8) = dd at *
  clear h
  go_enter Tryd.func17, Tryd.ntmps17
  go_wp2_with fail
  refine HC.out.mono ?_
  rintro e w2 ⟨rfl, hb, hg⟩
  have H2 := Lib.hid hb; have G2 := Lib.hid hg
  clear hb hg
  go_wp2
  go_ret
  exact ⟨rfl, H2.out, G2.out⟩
set_option maxRecDepth 100000 in
set_option maxHeartbeats 2000000 in
theorem turn_2 (g : Nat) (a : Option Addr) (cap : Nat) (l : List Nat) (m k : Nat) (s : List Bool) (w : World) (h : VB w g a cap l m k s false) (hl : 0 < l.length) : TurnC g a cap l m 2 k s w := by
  have HC := Lib.hid (key_any g a cap l m k s w h hl)
  unfold TurnC
  rw [show turnF quoF l m 2 k s = keyF quoF l k s from rfl]
  unfold ResTu at HC ⊢
  generalize keyF quoF l k s = R at *
  generalize (((if R.1 = 8 then 7 else R.1 : Nat)) : Int) = qq at *
  generalize decide (R.1 = 8) = dd at *
  clear h hl
  go_enter Tryd.func17, Tryd.ntmps17
  go_wp2_with fail
  refine HC.out.mono ?_
  rintro e w2 ⟨rfl, hb, hg⟩
  have H2 := Lib.hid hb; have G2 := Lib.hid hg
  clear hb hg
  go_wp2
  go_ret
  exact ⟨rfl, H2.out, G2.out⟩
set_option maxRecDepth 100000 in
set_option maxHeartbeats 2000000 in
theorem turn_5 (g : Nat) (a : Option Addr) (cap : Nat) (l : List Nat) (m k : Nat) (s : List Bool) (w : World) (h : VB w g a cap l m k s false) (hs : s ≠ []) : TurnC g a cap l m 5 k s w := by
  have HC := Lib.hid (behind_any g a cap l m k s w h hs)
  unfold TurnC
  rw [show turnF quoF l m 5 k s = behF l k s from rfl]
  unfold ResTu at HC ⊢
  generalize behF l k s = R at *
  generalize (((if R.1 = 8 then 7 else R.1 : Nat)) : Int) = qq at *
  generalize decide (R.1 = 8) = dd at *
  clear h hs
  go_enter Tryd.func17, Tryd.ntmps17
  go_wp2_with fail
  refine HC.out.mono ?_
  rintro e w2 ⟨rfl, hb, hg⟩
  have H2 := Lib.hid hb; have G2 := Lib.hid hg
  clear hb hg
  go_wp2
  go_ret
  exact ⟨rfl, H2.out, G2.out⟩
set_option maxRecDepth 100000 in
set_option maxHeartbeats 2000000 in
theorem turn_4 (g : Nat) (a : Option Addr) (cap : Nat) (l : List Nat) (m k : Nat) (s : List Bool) (w : World) (h : VB w g a cap l m k s false) : TurnC g a cap l m 4 k s w := by
  have HC := Lib.hid (vtake_any 58 (by decide) g a cap l m k s false w h)
  unfold TurnC
  rw [show turnF quoF l m 4 k s = if pk l k = 58 then (0, k + 1, s) else (7, k, s) from rfl]
  by_cases h1 : pk l k = 58
  · rw [if_pos h1, decide_eq_true h1] at HC
    rw [if_pos h1]
    clear h h1
    go_enter Tryd.func17, Tryd.ntmps17
    go_wp2_with fail
    refine HC.out.mono ?_
    rintro e w2 ⟨rfl, hb, hg⟩
    have H2 := Lib.hid hb; have G2 := Lib.hid hg
    clear hb hg
    go_wp2
    go_ret
    exact ResTu.mk (by decide) rfl H2.out G2.out
  · rw [if_neg h1, decide_eq_false h1] at HC
    rw [if_neg h1]
    clear h h1
    go_enter Tryd.func17, Tryd.ntmps17
    go_wp2_with fail
    refine HC.out.mono ?_
    rintro e w2 ⟨rfl, hb, hg⟩
    have H2 := Lib.hid hb; have G2 := Lib.hid hg
    clear hb hg
    go_wp2
    go_ret
    exact ResTu.mk (by decide) rfl H2.out G2.out
set_option maxRecDepth 100000 in
set_option maxHeartbeats 2000000 in
theorem turn_1 (g : Nat) (a : Option Addr) (cap : Nat) (l : List Nat) (m k : Nat) (s : List Bool) (w : World) (h : VB w g a cap l m k s false) (hs : s ≠ []) : TurnC g a cap l m 1 k s w := by
  have HT := Lib.hid (vtake_any 93 (by decide) g a cap l m k s false w h)
  have HC := Lib.hid (fun W r => closed_any g a cap l m (k + 1) s W r hs)
  have HV := Lib.hid (fun W r => value_any g a cap l m k s W r)
  unfold TurnC
  rw [show turnF quoF l m 1 k s = if pk l k = 93 then (fol s.dropLast, k + 1, s.dropLast) else valF quoF l m k s from rfl]
  unfold ResTu at HC HV ⊢
  by_cases h1 : pk l k = 93
  · rw [if_pos h1, decide_eq_true h1] at HT
    rw [if_pos h1]
    generalize (fol s.dropLast, k + 1, s.dropLast) = R at *
    generalize (((if R.1 = 8 then 7 else R.1 : Nat)) : Int) = qq at *
    generalize decide (R.1 = 8) = dd at *
    clear h h1 HV hs
    go_enter Tryd.func17, Tryd.ntmps17
    go_wp2_with fail
    refine HT.out.mono ?_
    rintro e w1 ⟨rfl, hb, hg⟩
    have H1 := Lib.hid hb; have G1 := Lib.hid hg
    clear hb hg
    go_wp2_with fail
    refine (HC.out _ H1.out).mono ?_
    rintro e w2 ⟨rfl, hb, hg⟩
    have H2 := Lib.hid hb; have G2 := Lib.hid (gb_trans G1.out hg)
    clear hb hg
    go_wp2
    go_ret
    exact ⟨rfl, H2.out, G2.out⟩
  · rw [if_neg h1, decide_eq_false h1] at HT
    rw [if_neg h1]
    generalize valF quoF l m k s = R at *
    generalize (((if R.1 = 8 then 7 else R.1 : Nat)) : Int) = qq at *
    generalize decide (R.1 = 8) = dd at *
    clear h h1 HC hs
    go_enter Tryd.func17, Tryd.ntmps17
    go_wp2_with fail
    refine HT.out.mono ?_
    rintro e w1 ⟨rfl, hb, hg⟩
    have H1 := Lib.hid hb; have G1 := Lib.hid hg
    clear hb hg
    go_wp2_with fail
    refine (HV.out _ H1.out).mono ?_
    rintro e w2 ⟨rfl, hb, hg⟩
    have H2 := Lib.hid hb; have G2 := Lib.hid (gb_trans G1.out hg)
    clear hb hg
    go_wp2
    go_ret
    exact ⟨rfl, H2.out, G2.out⟩
set_option maxRecDepth 100000 in
set_option maxHeartbeats 2000000 in
theorem turn_3 (g : Nat) (a : Option Addr) (cap : Nat) (l : List Nat) (m k : Nat) (s : List Bool) (w : World) (h : VB w g a cap l m k s false) (hs : s ≠ []) (hl : 0 < l.length) : TurnC g a cap l m 3 k s w := by
  have HT := Lib.hid (vtake_any 125 (by decide) g a cap l m k s false w h)
  have HC := Lib.hid (fun W r => closed_any g a cap l m (k + 1) s W r hs)
  have HV := Lib.hid (fun W r => key_any g a cap l m k s W r hl)
  unfold TurnC
  rw [show turnF quoF l m 3 k s = if pk l k = 125 then (fol s.dropLast, k + 1, s.dropLast) else keyF quoF l k s from rfl]
  unfold ResTu at HC HV ⊢
  by_cases h1 : pk l k = 125
  · rw [if_pos h1, decide_eq_true h1] at HT
    rw [if_pos h1]
    generalize (fol s.dropLast, k + 1, s.dropLast) = R at *
    generalize (((if R.1 = 8 then 7 else R.1 : Nat)) : Int) = qq at *
    generalize decide (R.1 = 8) = dd at *
    clear h h1 HV hs hl
    go_enter Tryd.func17, Tryd.ntmps17
    go_wp2_with fail
    refine HT.out.mono ?_
    rintro e w1 ⟨rfl, hb, hg⟩
    have H1 := Lib.hid hb; have G1 := Lib.hid hg
    clear hb hg
    go_wp2_with fail
    refine (HC.out _ H1.out).mono ?_
    rintro e w2 ⟨rfl, hb, hg⟩
    have H2 := Lib.hid hb; have G2 := Lib.hid (gb_trans G1.out hg)
    clear hb hg
    go_wp2
    go_ret
    exact ⟨rfl, H2.out, G2.out⟩
  · rw [if_neg h1, decide_eq_false h1] at HT
    rw [if_neg h1]
    generalize keyF quoF l k s = R at *
    generalize (((if R.1 = 8 then 7 else R.1 : Nat)) : Int) = qq at *
    generalize decide (R.1 = 8) = dd at *
    clear h h1 HC hs hl
    go_enter Tryd.func17, Tryd.ntmps17
    go_wp2_with fail
    refine HT.out.mono ?_
    rintro e w1 ⟨rfl, hb, hg⟩
    have H1 := Lib.hid hb; have G1 := Lib.hid hg
    clear hb hg
    go_wp2_with fail
    refine (HV.out _ H1.out).mono ?_
    rintro e w2 ⟨rfl, hb, hg⟩
    have H2 := Lib.hid hb; have G2 := Lib.hid (gb_trans G1.out hg)
    clear hb hg
    go_wp2
    go_ret
    exact ⟨rfl, H2.out, G2.out⟩
theorem turn_any (g : Nat) (a : Option Addr) (cap : Nat) (l : List Nat) (m q k : Nat) (s : List Bool) (w : World) (h : VB w g a cap l m k s false) (hq : q < 6) (hp : Pre l q s) : TurnC g a cap l m q k s w := by
  have hq2 : q = 0 ∨ q = 1 ∨ q = 2 ∨ q = 3 ∨ q = 4 ∨ q = 5 := by omega
  rcases hq2 with rfl | rfl | rfl | rfl | rfl | rfl
  · exact turn_0 g a cap l m k s w h
  · exact turn_1 g a cap l m k s w h (hp.1 (by omega))
  · exact turn_2 g a cap l m k s w h (hp.2 (by omega))
  · exact turn_3 g a cap l m k s w h (hp.1 (by omega)) (hp.2 (by omega))
  · exact turn_4 g a cap l m k s w h
  · exact turn_5 g a cap l m k s w h (hp.1 (by omega))
/-- how a text ended -/
def ResTxt (g : Nat) (a : Option Addr) (cap : Nat) (l : List Nat) (m k : Nat) (w : World) (e : Ending) (w' : World) : Prop :=
  ∃ r j s, Txt quoF l m k r j ∧ (r = 6 → s = []) ∧ e = .returned (.bool (decide (r = 6))) ∧ VB w' g a cap l m j s (decide (r = 8)) ∧ w.grownBy w' (some g)
def stq (q : Nat) : Int := ((if q = 8 then 7 else q : Nat) : Int)
set_option maxRecDepth 100000 in
set_option maxHeartbeats 4000000 in
theorem text_any (g : Nat) (a : Option Addr) (cap : Nat) (l : List Nat) (m k : Nat) (w : World) (h : VB w g a cap l m k [] false) :
    Calls Tryd.prog 13 #[.pointer (some ⟨g, 0, none⟩)] w (ResTxt g a cap l m k w) := by
  have HT := Lib.hid (turn_0 g a cap l m k [] w h)
  have HPo := Lib.hid (post_turn (m := m) h.facts.1 (by decide) ⟨fun h => by omega, fun h => by omega⟩ : Post l (turnF quoF l m 0 k []))
  have HX : Hid (∀ r e, Tx quoF l m (turnF quoF l m 0 k []).1 (turnF quoF l m 0 k []).2.1 (turnF quoF l m 0 k []).2.2 r e → Txt quoF l m k r e) := Lib.hid (fun r e t => t)
  unfold TurnC at HT
  rw [show ((0 : Nat) : Int) = 0 from rfl] at HT
  generalize turnF quoF l m 0 k [] = R at *
  obtain ⟨q1, k1, s1⟩ := R
  unfold ResTu at HT
  have HT2 : Hid (Calls Tryd.prog 17 #[.pointer (some ⟨g, 0, none⟩), .int .i64 0] w fun e w' => e = .returned (.int .i64 (stq q1)) ∧ VB w' g a cap l m k1 s1 (decide (q1 = 8)) ∧ w.grownBy w' (some g)) := HT
  clear h HT
  go_enter Tryd.func13, Tryd.ntmps13
  go_wp2_with fail
  refine HT2.out.mono ?_
  rintro e w1 ⟨rfl, hb, hg⟩
  have H1 := Lib.hid hb; have G1 := Lib.hid hg
  clear hb hg HT2
  go_wp2_with fail
  go_loopw [3] (fun s3 wr => ∃ (q j : Nat) (s : List Bool), s3 = .int .i64 (stq q) ∧ Hid (Post l (q, j, s)) ∧ Hid (∀ r e, Tx quoF l m q j s r e → Txt quoF l m k r e) ∧ Hid (VB wr g a cap l m j s (decide (q = 8))) ∧ Hid (w.grownBy wr (some g))) (fun s3 wr => if 6 ≤ intOf s3 then 0 else l.length + 1 - (intOf ((wr.cell? ⟨g, 1, none⟩).getD undef)).toNat)
  case atStart => exact ⟨q1, k1, s1, rfl, HPo, HX, H1, G1⟩
  case round =>
    obtain ⟨q, j, s, rfl, HP, HXr, HV, HG⟩ := hrel
    clear H1 G1 HPo HX
    by_cases hq : q < 6
    · have hsq : stq q = (q : Int) := by unfold stq; rw [if_neg (by omega)]
      have hd8 : decide (q = 8) = false := decide_eq_false (by omega)
      rw [hd8] at HV
      rw [hsq]
      have HBl := Lib.hid (blanks_any g a cap l m j s false wr HV.out)
      have hpre : Pre l q s := ⟨fun h => HP.out.1 h, fun h => HP.out.2.2.1 (by simp only; omega)⟩
      have HTu := Lib.hid (fun W r => turn_any g a cap l m q (bk l j) s W r hq hpre)
      have hjl := HV.out.facts.1
      have hpo : Post l (turnF quoF l m q (bk l j) s) := post_turn (bk_le hjl) hq hpre
      have hadv := fun h => turn_adv quo_ok (l := l) (m := m) (q := q) (k := bk l j) (s := s) h
      have hle := turn_le quo_ok (l := l) (m := m) (q := q) (k := bk l j) (s := s) (bk_le hjl)
      have hbg := bk_ge (l := l) (k := j)
      have HXn : Hid (∀ r e, Tx quoF l m (turnF quoF l m q (bk l j) s).1 (turnF quoF l m q (bk l j) s).2.1 (turnF quoF l m q (bk l j) s).2.2 r e → Txt quoF l m k r e) := Lib.hid (fun r e t => HXr.out r e (Tx.go hq t))
      have HPo := Lib.hid hpo
      unfold TurnC ResTu at HTu
      unfold ResV1 at HBl
      generalize turnF quoF l m q (bk l j) s = R at *
      obtain ⟨q2, k2, s2⟩ := R
      have HT3 : Hid (∀ W, VB W g a cap l m (bk l j) s false → Calls Tryd.prog 17 #[.pointer (some ⟨g, 0, none⟩), .int .i64 (q : Int)] W fun e w' => e = .returned (.int .i64 (stq q2)) ∧ VB w' g a cap l m k2 s2 (decide (q2 = 8)) ∧ W.grownBy w' (some g)) := HTu
      have h6 : ((q : Int) != 6) = true := by simp; omega
      have h7 : ((q : Int) != 7) = true := by simp; omega
      have HADV := Lib.hid hadv
      simp only at hle
      have hm1 : Hid (l.length + 1 - (intOf ((wr.cell? ⟨g, 1, none⟩).getD undef)).toNat = l.length + 1 - j) := Lib.hid (by rw [HV.out.cells.2.1]; simp [intOf])
      have hq6 : ¬ (6 : Int) ≤ (q : Int) := by omega
      clear hsq hd8 HTu hpre hpo hadv HXr HP
      generalize bk l j = jb at *
      go_wp2_with fail
      refine HBl.out.mono ?_
      rintro e w2 ⟨rfl, hb, hg⟩
      have H2 := Lib.hid hb; have G2 := Lib.hid (gb_trans HG.out hg)
      clear hb hg HBl
      go_wp2_with fail
      refine (HT3.out _ H2.out).mono ?_
      rintro e w3 ⟨rfl, hb, hg⟩
      have H3 := Lib.hid hb; have G3 := Lib.hid (gb_trans G2.out hg)
      clear hb hg HT3
      have hm2 : Hid (l.length + 1 - (intOf ((w3.cell? ⟨g, 1, none⟩).getD undef)).toNat = l.length + 1 - k2) := Lib.hid (by rw [H3.out.cells.2.1]; simp [intOf])
      go_wp2
      go_roundw
      case rel => exact ⟨q2, k2, s2, rfl, HPo, HXn, H3, G3⟩
      case measure =>
        have hA : q2 ≤ 6 → jb < k2 := HADV.out
        have e1 : intOf (.int .i64 (stq q2)) = stq q2 := rfl
        have e2 : intOf (.int .i64 (q : Int)) = (q : Int) := rfl
        simp only [e1, e2, hm1.out, hm2.out]
        have hQ : ¬ (6 : Int) ≤ (q : Int) := by omega
        by_cases h8 : q2 < 6
        · have : stq q2 = (q2 : Int) := by unfold stq; rw [if_neg (by omega)]
          rw [this, if_neg (by omega : ¬ (6 : Int) ≤ (q2 : Int)), if_neg hQ]
          have := hA (by omega)
          omega
        · have : (6 : Int) ≤ stq q2 := by unfold stq; split <;> omega
          rw [if_pos this, if_neg hQ]
          omega
    · have hq8 : q = 6 ∨ q = 7 ∨ q = 8 := by have := HP.out.2.2.2; simp only at this; omega
      have hx := HXr.out q j (Tx.stop (by omega))
      have hs6 := HP.out.2.1
      have HF := Lib.hid (show Txt quoF l m k q j ∧ (q = 6 → s = []) from ⟨hx, hs6⟩)
      clear hx hs6 HXr HP hq
      rcases hq8 with rfl | rfl | rfl
      all_goals
        first | rw [show stq 6 = 6 from rfl] | rw [show stq 7 = 7 from rfl] | rw [show stq 8 = 7 from rfl]
        go_wp2
        go_ret
        exact ⟨_, _, _, HF.out.1, (by intro h; first | exact HF.out.2 h | exact HF.out.2 trivial | (exfalso; omega)), rfl, HV.out, HG.out⟩
end Go.Proofs.YtefaieglhllioaaDoor

/- valid: fault, One walked. -/
namespace Go.Proofs.YtefaieglhllioaaDoor
open Go.RowKit UM QM VM

def ResFa (k y : Nat) (w : World) (e : Ending) (w' : World) : Prop := e = .returned (.agg #[.int .i64 (k : Int), .int .i64 (y : Int)]) ∧ Below w.heap.size w w'
def whyD (l : List Nat) (k : Nat) (d : Bool) : Nat := if k = l.length then 2 else if d = true then 3 else 1
set_option maxRecDepth 100000 in
set_option maxHeartbeats 2000000 in
theorem vfault_any (g : Nat) (a : Option Addr) (cap : Nat) (l : List Nat) (m k : Nat) (s : List Bool) (d : Bool) (w : World) (h : VB w g a cap l m k s d) :
    Calls Tryd.prog 14 #[.pointer (some ⟨g, 0, none⟩)] w (ResFa k (whyD l k d) w) := by
  have HA := Lib.hid (fun W r => atEnd_any g a cap l m k s d W r)
  have HB := Lib.hid h
  obtain ⟨c0, c1, c6, c7, c8, hf⟩ := h.cells
  have hgw := lt_of_cell c1
  have hB1 : ∀ o, Below w.heap.size w (w.alloc o) := fun o => (Below.refl _ _).alloc (Nat.le_refl _) o
  have HB1 := Lib.hid hB1
  have hne : ¬ g = w.heap.size := by simp only at hgw; omega
  have hne2 : ¬ w.heap.size = g := by omega
  unfold whyD
  by_cases he : k = l.length
  · rw [if_pos he]
    rw [decide_eq_true he] at HA
    clear h c0 c6 c7 he hgw hB1
    go_enter Tryd.func14, Tryd.ntmps14
    go_wp2_with fail
    refine (HA.out _ (HB.out.below (HB1.out _))).mono ?_
    rintro e w1 ⟨rfl, n, rfl⟩
    have HB2 := Lib.hid ((HB.out.below (HB1.out (.cells #[.int .i64 0, .int .i64 0] 26))).dN n)
    obtain ⟨_, d1, _, _, d8, df⟩ := HB2.out.cells
    have z0 : ((w.alloc (.cells #[.int .i64 0, .int .i64 0] 26)).drewN n).cell? ⟨w.heap.size, 0, none⟩ = some (.int .i64 0) := by simp
    have z1 : ((w.alloc (.cells #[.int .i64 0, .int .i64 0] 26)).drewN n).cell? ⟨w.heap.size, 1, none⟩ = some (.int .i64 0) := by simp
    have zf : ∀ j, ((w.alloc (.cells #[.int .i64 0, .int .i64 0] 26)).drewN n).frozen? ⟨w.heap.size, j, none⟩ = false := fun j => by simp
    have ZB := Lib.hid (bdN (HB1.out (.cells #[.int .i64 0, .int .i64 0] 26)) n)
    clear c1 c8 hf
    generalize (w.alloc (.cells #[.int .i64 0, .int .i64 0] 26)).drewN n = W1 at *
    go_wp2
    refine bodyPost_ret (v := .agg #[.int .i64 (k : Int), .int .i64 2]) (by simp [results, Tryd.results14, go_sem, z0, z1]) rfl ?_
    exact ⟨rfl, (ZB.out.setCell (Nat.le_refl _) _).setCell (Nat.le_refl _) _⟩
  · rw [if_neg he]
    rw [decide_eq_false he] at HA
    clear h c0 c6 c7 he hgw hB1
    cases d
    all_goals
      go_enter Tryd.func14, Tryd.ntmps14
      go_wp2_with fail
      refine (HA.out _ (HB.out.below (HB1.out _))).mono ?_
      rintro e w1 ⟨rfl, n, rfl⟩
      have HB2 := Lib.hid ((HB.out.below (HB1.out (.cells #[.int .i64 0, .int .i64 0] 26))).dN n)
      obtain ⟨_, d1, _, _, d8, df⟩ := HB2.out.cells
      have z0 : ((w.alloc (.cells #[.int .i64 0, .int .i64 0] 26)).drewN n).cell? ⟨w.heap.size, 0, none⟩ = some (.int .i64 0) := by simp
      have z1 : ((w.alloc (.cells #[.int .i64 0, .int .i64 0] 26)).drewN n).cell? ⟨w.heap.size, 1, none⟩ = some (.int .i64 0) := by simp
      have zf : ∀ j, ((w.alloc (.cells #[.int .i64 0, .int .i64 0] 26)).drewN n).frozen? ⟨w.heap.size, j, none⟩ = false := fun j => by simp
      have ZB := Lib.hid (bdN (HB1.out (.cells #[.int .i64 0, .int .i64 0] 26)) n)
      clear c1 c8 hf
      generalize (w.alloc (.cells #[.int .i64 0, .int .i64 0] 26)).drewN n = W1 at *
      go_wp2
    · refine bodyPost_ret (v := .agg #[.int .i64 (k : Int), .int .i64 1]) (by simp [results, Tryd.results14, go_sem, z0, z1]) rfl ?_
      exact ⟨rfl, (ZB.out.setCell (Nat.le_refl _) _).setCell (Nat.le_refl _) _⟩
    · refine bodyPost_ret (v := .agg #[.int .i64 (k : Int), .int .i64 3]) (by simp [results, Tryd.results14, go_sem, z0, z1]) rfl ?_
      exact ⟨rfl, (ZB.out.setCell (Nat.le_refl _) _).setCell (Nat.le_refl _) _⟩
/-- a fresh reader's box -/
theorem VB.fresh {w w' : World} {g : Nat} {a : Option Addr} {cap : Nat} {l : List Nat} {m : Nat} (hg : w.heap.size ≤ g) (hb : Below w.heap.size w w')
    (c : ∀ j v, (#[Value.slice a l.length cap, .int .i64 0, .int .u64 0, .int .u64 0, .int .u64 0, .int .u64 0, .int .i64 0, .int .i64 (m : Int), .bool false] : Array Value)[j]? = some v → w'.cell? ⟨g, j, none⟩ = some v) (hf : ∀ j, w'.frozen? ⟨g, j, none⟩ = false)
    (hl : l.length ≤ 140737488353000) (hlo : LM.Lo 256 l) (hcp : l.length ≤ cap) (hr : Rd w .u8 a l) (ht : Sh w) (hm : m ≤ 200) : VB w' g a cap l m 0 [] false := by
  have hs : 0 < w.heap.size := lt_of_cell ht.1
  refine ⟨c 1 _ rfl, ⟨fun _ => 0#64, c 2 _ rfl, c 3 _ rfl, c 4 _ rfl, c 5 _ rfl, fun j hj => by simp at hj⟩, c 6 _ rfl, c 8 _ rfl, Nat.zero_le _, by simp, c 0 _ rfl, c 7 _ rfl, hf, hr.below hb, ?_, hl, hlo, hcp, ht.below hb, by omega, hm⟩
  intro hp b off e e2
  have := hr.slot hp b off e
  omega
def ResOne (l : List Nat) (w : World) (e : Ending) (w' : World) : Prop := ∃ r j, Txt quoF l 200 0 r j ∧ e = .returned (.bool (decide (r = 6 ∧ j = l.length))) ∧ Below w.heap.size w w'
set_option maxRecDepth 100000 in
set_option maxHeartbeats 2000000 in
theorem One_any (a : Option Addr) (cap : Nat) (l : List Nat) (w : World) (hl : l.length ≤ 140737488353000) (hlo : LM.Lo 256 l) (hrd : Rd w .u8 a l) (ht : Sh w) (hcp : l.length ≤ cap) :
    Calls Tryd.prog 9 #[.slice a l.length cap] w (ResOne l w) := by
  have HV := Lib.hid (fun (w' : World) hb c hf => VB.fresh (w := w) (w' := w') (g := w.heap.size) (a := a) (cap := cap) (l := l) (m := 200) (Nat.le_refl _) hb c hf hl hlo hcp hrd ht (Nat.le_refl _))
  have HT := Lib.hid (fun W r => text_any w.heap.size a cap l 200 0 W r)
  have HA := Lib.hid (fun W j s d r => atEnd_any w.heap.size a cap l 200 j s d W r)
  clear hl hlo hrd ht hcp
  go_enter Tryd.func9, Tryd.ntmps9
  go_wp2_with fail
  have hb1 : Below w.heap.size w (w.alloc (.cells #[.slice a l.length cap, .int .i64 0, .int .u64 0, .int .u64 0, .int .u64 0, .int .u64 0, .int .i64 0, .int .i64 200, .bool false] 42)) := (Below.refl _ _).alloc (Nat.le_refl _) _
  have hv1 := HV.out _ hb1 (fun j v hj => by rw [World.cell?_alloc_mark]; exact hj) (fun j => by simp)
  refine (HT.out _ hv1).mono ?_
  rintro e w1 ⟨r, j, s, htx, hs6, rfl, hb, hg⟩
  have H1 := Lib.hid hb
  have B1 : Hid (Below w.heap.size w w1) := Lib.hid (hb1.trans (gb_below hg hb1.size (Nat.le_refl _)))
  have HX := Lib.hid htx
  have HA1 := Lib.hid (fun n => HA.out (w1.drewN n) j s _ (hb.dN n))
  clear hb1 hv1 htx hs6 hb hg HA HV HT
  by_cases hr : r = 6
  · have hd : decide (r = 6) = true := decide_eq_true hr
    rw [hd]
    have HR : Hid (decide (j = l.length) = decide (r = 6 ∧ j = l.length)) := Lib.hid (by simp [hr])
    clear hd hr
    have HA2 : Hid (Calls Tryd.prog 12 #[.pointer (some ⟨w.heap.size, 0, none⟩)] w1 fun e w' => e = .returned (.bool (decide (j = l.length))) ∧ ∃ n, w' = w1.drewN n) := Lib.hid (HA1.out 0)
    go_wp2_with (refine HA2.out.mono ?_; rintro e w2 ⟨rfl, n, rfl⟩)
    go_ret
    exact ⟨r, j, HX.out, by rw [← HR.out]; rfl, bdN B1.out _⟩
  · have hd : decide (r = 6) = false := decide_eq_false hr
    rw [hd]
    have HR : Hid (false = decide (r = 6 ∧ j = l.length)) := Lib.hid (by simp [hr])
    clear hd hr
    go_wp2
    go_ret
    exact ⟨r, j, HX.out, by rw [← HR.out]; rfl, B1.out⟩
end Go.Proofs.YtefaieglhllioaaDoor
