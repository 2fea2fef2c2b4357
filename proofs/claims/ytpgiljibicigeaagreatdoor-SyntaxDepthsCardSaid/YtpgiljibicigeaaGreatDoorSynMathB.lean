/- syntax: what is read lies further on, is no deeper than four times its tokens, of right kinds; faults lie within the text. Nothing of the program. -/
import Derived.Test.YtpgiljibicigeaaGreatDoorSynMaths
set_option linter.unusedVariables false
set_option linter.unusedSimpArgs false
namespace Go.Proofs.YtpgiljibicigeaaGreatDoor.SX

mutual
def rgt : Nd → Bool
  | .mk k _ ks => decide (1 ≤ k) && decide (k ≤ 32) && rgs ks
def rgs : List Nd → Bool
  | [] => true
  | x :: ks => rgt x && rgs ks
end
theorem rgs_app : ∀ (a b : List Nd), rgs (a ++ b) = (rgs a && rgs b)
  | [], b => by simp [rgs]
  | x :: a, b => by simp only [List.cons_append, rgs]; rw [rgs_app a b, Bool.and_assoc]
theorem dps_append : ∀ (a b : List Nd), dps (a ++ b) = max (dps a) (dps b)
  | [], b => by simp [dps]
  | x :: a, b => by simp only [List.cons_append, dps]; rw [dps_append a b]; omega
section
variable {v : Ev}
def Qe (v : Ev) (a e : Nat) : Prop := a ≤ v.E ∧ e ≠ 0 ∧ (e = 5 → a = v.E)
structure EvQ (v : Ev) : Prop where
  at_ : ∀ t ∈ v.L, t.2.2 ≤ v.E
  num : ∀ s, v.num s ≠ 5
def P1 (v : Ev) (c i : Nat) (x : Nd) (j : Nat) : Prop := i < j ∧ j ≤ v.L.length ∧ dpt x + 4 * i ≤ 4 * j + c ∧ rgt x = true
def P2 (v : Ev) (i : Nat) (ks : List Nd) (j : Nat) : Prop := i < j ∧ j ≤ v.L.length ∧ dps ks + 4 * i ≤ 4 * j ∧ rgs ks = true
def T1 {α : Type} (v : Ev) (i : Nat) (_ : α) (j : Nat) : Prop := j = i + 1 ∧ j ≤ v.L.length
theorem tkn_lt {i k : Nat} (h : (tkn v i).1 = k) (hk : 1 ≤ k) : i < v.L.length := by
  rcases Nat.lt_or_ge i v.L.length with h' | h'
  · exact h'
  · unfold tkn at h; rw [List.getElem?_eq_none h'] at h
    have : (0 : Nat) = k := h
    omega
theorem isS_lt {i : Nat} {s : ByteArray} (h : isS v i s = true) : i < v.L.length := by
  rcases Nat.lt_or_ge i v.L.length with h' | h'
  · exact h'
  · unfold isS tkn at h; rw [List.getElem?_eq_none h'] at h; simp [isT] at h
theorem plc_le (hq : EvQ v) {i : Nat} (hi : i ≤ v.L.length) : plc v i ≤ v.E := by
  unfold plc; split
  · exact Nat.le_refl _
  · unfold tkn
    rw [List.getElem?_eq_getElem (show i < v.L.length by omega)]
    exact hq.at_ _ (List.getElem_mem ..)
theorem unf_iv {α : Type} (hq : EvQ v) {i : Nat} (hi : i ≤ v.L.length) (P : α → Nat → Prop) : (unf v i : Rs α).all P (Qe v) := by
  refine ⟨plc_le hq hi, ?_, ?_⟩
  · split <;> decide
  · intro h; unfold plc
    split
    · rfl
    · rename_i h'; rw [if_neg h'] at h; cases h
theorem tak_iv (hq : EvQ v) {k i : Nat} (hi : i ≤ v.L.length) (hk : 1 ≤ k) : (tak v k i).all (T1 v i) (Qe v) := by
  unfold tak; split
  · rename_i h; exact ⟨rfl, tkn_lt h hk⟩
  · exact unf_iv hq hi _
theorem ned_iv (hq : EvQ v) {s : ByteArray} {i : Nat} (hi : i ≤ v.L.length) : (ned v s i).all (T1 v i) (Qe v) := by
  unfold ned; split
  · rename_i h; exact ⟨rfl, isS_lt h⟩
  · exact unf_iv hq hi _
theorem qe99 : Qe v 0 99 := ⟨Nat.zero_le _, by decide, fun h => by cases h⟩
structure IvK (v : Ev) (K : Kn) : Prop where
  pipe : ∀ pp i, i ≤ v.L.length → (K.pipe pp i).all (P1 v 0 i) (Qe v)
  climb : ∀ l pp i, i ≤ v.L.length → (K.climb l pp i).all (P1 v 0 i) (Qe v)
  neg : ∀ pp i, i ≤ v.L.length → (K.neg pp i).all (P1 v 0 i) (Qe v)
  post : ∀ pp i, i ≤ v.L.length → (K.post pp i).all (P1 v 0 i) (Qe v)
  pat : ∀ pp i, i ≤ v.L.length → (K.pat pp i).all (P1 v 0 i) (Qe v)
  choice : ∀ pp i, i ≤ v.L.length → (K.choice pp i).all (P1 v 0 i) (Qe v)
theorem rowL_iv (hq : EvQ v) {item : Nat → Rs Nd} (hit : ∀ i, i ≤ v.L.length → (item i).all (P1 v 0 i) (Qe v)) (btw fin : ByteArray) (i0 : Nat) : ∀ (f : Nat) (acc : List Nd) (i : Nat), i0 ≤ i → i ≤ v.L.length → dps acc + 4 * i0 ≤ 4 * i → rgs acc = true → (rowL v item btw fin f acc i).all (P2 v i0) (Qe v)
  | 0, _, _, _, _, _, _ => qe99
  | f + 1, acc, i, h0, hi, hd, hr => by
    unfold rowL; split
    · rename_i h; exact ⟨by omega, isS_lt h, by omega, hr⟩
    · refine all_bind (ned_iv hq hi) fun _ j hj => all_bind (hit j hj.2) fun x k hk => ?_
      obtain ⟨rfl, hj2⟩ := hj
      obtain ⟨h1, h2, h3, h4⟩ := hk
      refine rowL_iv hq hit btw fin i0 f _ k (by omega) h2 ?_ ?_
      · rw [dps_append]; simp only [dps]; omega
      · rw [rgs_app]; simp [rgs, hr, h4]
theorem rowF_iv (hq : EvQ v) {item : Nat → Rs Nd} (hit : ∀ i, i ≤ v.L.length → (item i).all (P1 v 0 i) (Qe v)) (btw fin : ByteArray) {i : Nat} (hi : i ≤ v.L.length) : (rowF v item btw fin i).all (P2 v i) (Qe v) := by
  unfold rowF
  refine all_bind (hit i hi) fun x j hx => ?_
  obtain ⟨h1, h2, h3, h4⟩ := hx
  exact rowL_iv hq hit btw fin i _ _ j (by omega) h2 (by simp only [dps]; omega) (by simp [rgs, h4])
variable {K : Kn}
theorem textL_iv (hq : EvQ v) (hK : IvK v K) (pp i0 : Nat) : ∀ (f : Nat) (acc : List Nd) (i : Nat), i0 ≤ i → i ≤ v.L.length → dps acc + 4 * i0 ≤ 4 * i → rgs acc = true → (textL v K pp f acc i).all (fun ks j => i < j ∧ j ≤ v.L.length ∧ dps ks + 4 * i0 + 4 ≤ 4 * j ∧ rgs ks = true) (Qe v)
  | 0, _, _, _, _, _, _ => qe99
  | f + 1, acc, i, h0, hi, hd, hr => by
    unfold textL; split
    · rename_i h
      have := tkn_lt h (by decide)
      refine all_mono (textL_iv hq hK pp i0 f _ (i + 1) (by omega) (by omega) ?_ ?_) fun ks j h => ⟨by omega, h.2⟩
      · rw [dps_append]; simp only [dps, dpt]; omega
      · rw [rgs_app]; simp [rgs, rgt, hr]
    split
    · rename_i h
      have := tkn_lt h (by decide)
      refine all_bind (hK.pipe pp (i + 1) (by omega)) fun x j hx => all_bind (tak_iv hq hx.2.1 (by decide)) fun _ k hk => ?_
      obtain ⟨h1, h2, h3, h4⟩ := hx
      obtain ⟨rfl, hk2⟩ := hk
      refine all_mono (textL_iv hq hK pp i0 f _ (j + 1) (by omega) (by omega) ?_ ?_) fun ks j h => ⟨by omega, h.2⟩
      · rw [dps_append]; simp only [dps]; omega
      · rw [rgs_app]; simp [rgs, hr, h4]
    · refine all_bind (tak_iv hq hi (by decide)) fun _ j hj => ?_
      obtain ⟨rfl, hj⟩ := hj
      exact ⟨by omega, hj, by omega, hr⟩
def P4 (v : Ev) (i : Nat) (x : Nd) (j : Nat) : Prop := i < j ∧ j ≤ v.L.length ∧ dpt x + 4 * i + 3 ≤ 4 * j ∧ rgt x = true
theorem textF_iv (hq : EvQ v) (hK : IvK v K) (pp : Nat) (fmt : ByteArray) {i : Nat} (hi : i ≤ v.L.length) : (textF v K pp fmt i).all (P4 v i) (Qe v) := by
  unfold textF
  refine all_bind (tak_iv hq hi (by decide)) fun _ j hj => ?_
  obtain ⟨rfl, hj⟩ := hj
  refine all_bind (textL_iv hq hK pp (i + 1) _ [] (i + 1) (Nat.le_refl _) hj (by simp [dps]) rfl) fun ks k hk => ?_
  obtain ⟨h1, h2, h3, h4⟩ := hk
  exact ⟨by omega, h2, by simp only [dpt]; omega, by simp [rgt, h4]⟩
theorem P4.p1 {i j c : Nat} {x : Nd} (h : P4 v i x j) : P1 v c i x j := ⟨h.1, h.2.1, by have := h.2.2.1; omega, h.2.2.2⟩
theorem numberF_iv (hq : EvQ v) {i : Nat} (hi : i ≤ v.L.length) : (numberF v i).all (P1 v 0 i) (Qe v) := by
  unfold numberF; split
  · refine all_bind (tak_iv hq hi (by decide)) fun _ j hj => ?_
    obtain ⟨rfl, hj⟩ := hj
    exact ⟨by omega, hj, by simp only [dpt, dps]; omega, by simp [rgt, rgs]⟩
  · rename_i h; exact ⟨plc_le hq hi, h, fun h => absurd h (hq.num _)⟩
theorem formatF_iv (hq : EvQ v) (hK : IvK v K) (pp : Nat) {i : Nat} (hi : i ≤ v.L.length) : (formatF v K pp i).all (P1 v 0 i) (Qe v) := by
  unfold formatF
  refine all_bind (tak_iv hq hi (by decide)) fun s j hj => ?_
  obtain ⟨rfl, hj⟩ := hj
  split
  · exact all_mono (textF_iv hq hK pp s hj) fun x k h => ⟨by have := h.1; omega, h.2.1, by have := h.2.2.1; omega, h.2.2.2⟩
  · exact ⟨by omega, hj, by simp only [dpt, dps]; omega, by simp [rgt, rgs]⟩
theorem ownF_iv (hq : EvQ v) {i : Nat} (hi : i ≤ v.L.length) : (ownF v i).all (T1 v i) (Qe v) := by
  unfold ownF; split
  · exact unf_iv hq hi _
  · exact tak_iv hq hi (by decide)
theorem litKeyF_iv (hq : EvQ v) {i : Nat} (hi : i ≤ v.L.length) : (litKeyF v i).all (fun _ j => i < j ∧ j ≤ v.L.length) (Qe v) := by
  unfold litKeyF; split
  · refine all_bind (tak_iv hq hi (by decide)) fun _ j hj => ?_
    obtain ⟨rfl, hj⟩ := hj
    split
    · refine all_bind (tak_iv hq hj (by decide)) fun _ k hk => all_bind (tak_iv hq hk.2 (by decide)) fun _ l hl => ⟨by have := hk.1; have := hl.1; omega, hl.2⟩
    · exact all_bind (tak_iv hq hj (by decide)) fun _ l hl => ⟨by have := hl.1; omega, hl.2⟩
  · exact all_mono (tak_iv hq hi (by decide)) fun _ j hj => ⟨by have := hj.1; omega, hj.2⟩
theorem patKeyF_iv (hq : EvQ v) (hK : IvK v K) (pp : Nat) {i : Nat} (hi : i ≤ v.L.length) : (patKeyF v K pp i).all (P1 v 0 i) (Qe v) := by
  unfold patKeyF; split
  · refine all_bind (tak_iv hq hi (by decide)) fun _ j hj => ?_
    obtain ⟨rfl, hj⟩ := hj
    exact ⟨by omega, hj, by simp only [dpt, dps]; omega, by simp [rgt, rgs]⟩
  · refine all_bind (litKeyF_iv hq hi) fun _ j hj => all_bind (ned_iv hq hj.2) fun _ k hk => all_bind (hK.pat pp k hk.2) fun p l hl => ?_
    obtain ⟨rfl, hk⟩ := hk
    obtain ⟨h1, h2, h3, h4⟩ := hl
    exact ⟨by omega, h2, by simp only [dpt, dps]; omega, by simp [rgt, rgs, h4]⟩
theorem patternF_iv (hq : EvQ v) (hK : IvK v K) (pp : Nat) {i : Nat} (hi : i ≤ v.L.length) : (patternF v K pp i).all (P1 v 0 i) (Qe v) := by
  unfold patternF; split
  · rename_i h; have := isS_lt h
    refine all_bind (rowF_iv hq (fun i hi => hK.pat pp i hi) _ _ (by omega)) fun ks j hj => ?_
    obtain ⟨h1, h2, h3, h4⟩ := hj
    exact ⟨by omega, h2, by simp only [dpt]; omega, by simp [rgt, h4]⟩
  split
  · rename_i h; have := isS_lt h
    refine all_bind (rowF_iv hq (fun i hi => patKeyF_iv hq hK pp hi) _ _ (by omega)) fun ks j hj => ?_
    obtain ⟨h1, h2, h3, h4⟩ := hj
    exact ⟨by omega, h2, by simp only [dpt]; omega, by simp [rgt, h4]⟩
  · refine all_bind (tak_iv hq hi (by decide)) fun _ j hj => ?_
    obtain ⟨rfl, hj⟩ := hj
    exact ⟨by omega, hj, by simp only [dpt, dps]; omega, by simp [rgt, rgs]⟩
def KP (v : Ev) (i : Nat) (x : Nd) (j : Nat) : Prop := i < j ∧ j ≤ v.L.length ∧ dpt x + 4 * i + 2 ≤ 4 * j ∧ rgt x = true
theorem keyF_iv (hq : EvQ v) (hK : IvK v K) (pp : Nat) {i : Nat} (hi : i ≤ v.L.length) : (keyF v K pp i).all (fun x j => i < j ∧ j ≤ v.L.length ∧ dpt x + 4 * i + 2 ≤ 4 * j ∧ rgt x = true) (Qe v) := by
  unfold keyF; split
  · exact all_mono (textF_iv hq hK pp nil hi) fun x k h => ⟨h.1, h.2.1, by have := h.2.2.1; omega, h.2.2.2⟩
  · refine all_bind (tak_iv hq hi (by decide)) fun _ j hj => ?_
    obtain ⟨rfl, hj⟩ := hj
    exact ⟨by omega, hj, by simp only [pln, dpt, dps]; omega, by simp [pln, rgt, rgs]⟩
theorem entryF_iv (hq : EvQ v) (hK : IvK v K) (pp : Nat) {i : Nat} (hi : i ≤ v.L.length) : (entryF v K pp i).all (P1 v 0 i) (Qe v) := by
  unfold entryF; split
  · refine all_bind (tak_iv hq hi (by decide)) fun _ j hj => ?_
    obtain ⟨rfl, hj⟩ := hj
    exact ⟨by omega, hj, by simp only [pln, dpt, dps]; omega, by simp [pln, rgt, rgs]⟩
  split
  · rename_i h; have := isS_lt h
    refine all_bind (hK.pipe pp (i + 1) (by omega)) fun x j hx => all_bind (ned_iv hq hx.2.1) fun _ k hk => all_bind (ned_iv hq hk.2) fun _ l hl => all_bind (hK.climb 1 pp l hl.2) fun y m hy => ?_
    obtain ⟨h1, h2, h3, h4⟩ := hx
    obtain ⟨rfl, hk⟩ := hk
    obtain ⟨rfl, hl⟩ := hl
    obtain ⟨g1, g2, g3, g4⟩ := hy
    exact ⟨by omega, g2, by simp only [dpt, dps]; omega, by simp [rgt, rgs, h4, g4]⟩
  · refine all_bind (keyF_iv hq hK pp hi) fun x j hx => ?_
    obtain ⟨h1, h2, h3, h4⟩ := hx
    split
    · rename_i h; have := isS_lt h
      refine all_bind (hK.climb 1 pp (j + 1) (by omega)) fun y m hy => ?_
      obtain ⟨g1, g2, g3, g4⟩ := hy
      exact ⟨by omega, g2, by simp only [dpt, dps]; omega, by simp [rgt, rgs, h4, g4]⟩
    · exact ⟨h1, h2, by simp only [ixN, slf, dpt, dps]; omega, by simp [ixN, slf, rgt, rgs, h4]⟩
theorem signedF_iv (hq : EvQ v) (hK : IvK v K) (pp : Nat) {i : Nat} (hi : i ≤ v.L.length) : (signedF v K pp i).all (P1 v 0 i) (Qe v) := by
  unfold signedF; split
  · rename_i h; have := isS_lt h
    split
    · refine all_bind (textF_iv hq hK pp nil (show i + 1 ≤ v.L.length by omega)) fun x j hx => ?_
      obtain ⟨h1, h2, h3, h4⟩ := hx
      exact ⟨by omega, h2, by simp only [ixN, slf, dpt, dps]; omega, by simp [ixN, slf, rgt, rgs, h4]⟩
    · exact ⟨by omega, by omega, by simp only [slf, dpt, dps]; omega, by simp [slf, rgt, rgs]⟩
  split
  · rename_i h; have := isS_lt h
    exact ⟨by omega, by omega, by simp only [dpt, dps]; omega, by simp [rgt, rgs]⟩
  split
  · rename_i h; have := isS_lt h
    refine all_bind (hK.pipe pp (i + 1) (by omega)) fun x j hx => all_bind (ned_iv hq hx.2.1) fun _ k hk => ?_
    obtain ⟨h1, h2, h3, h4⟩ := hx
    obtain ⟨rfl, hk⟩ := hk
    exact ⟨by omega, hk, by omega, h4⟩
  split
  · rename_i h; have := isS_lt h
    split
    · rename_i h; have := isS_lt h
      exact ⟨by omega, by omega, by simp only [dpt, dps]; omega, by simp [rgt, rgs]⟩
    · refine all_bind (hK.pipe pp (i + 1) (by omega)) fun x j hx => all_bind (ned_iv hq hx.2.1) fun _ k hk => ?_
      obtain ⟨h1, h2, h3, h4⟩ := hx
      obtain ⟨rfl, hk⟩ := hk
      exact ⟨by omega, hk, by simp only [dpt, dps]; omega, by simp [rgt, rgs, h4]⟩
  split
  · rename_i h; have := isS_lt h
    split
    · rename_i h; have := isS_lt h
      exact ⟨by omega, by omega, by simp only [dpt, dps]; omega, by simp [rgt, rgs]⟩
    · refine all_bind (rowF_iv hq (fun i hi => entryF_iv hq hK pp hi) _ _ (show i + 1 ≤ v.L.length by omega)) fun ks j hj => ?_
      obtain ⟨h1, h2, h3, h4⟩ := hj
      exact ⟨by omega, h2, by simp only [dpt]; omega, by simp [rgt, h4]⟩
  · exact unf_iv hq hi _
theorem callF_iv (hq : EvQ v) (hK : IvK v K) (pp : Nat) {i : Nat} (hi : i ≤ v.L.length) : (callF v K pp i).all (P1 v 0 i) (Qe v) := by
  unfold callF
  refine all_bind (ownF_iv hq hi) fun _ j hj => ?_
  obtain ⟨rfl, hj⟩ := hj
  split
  · rename_i h; have := isS_lt h
    refine all_bind (rowF_iv hq (fun i hi => hK.pipe pp i hi) _ _ (show i + 1 + 1 ≤ v.L.length by omega)) fun ks k hk => ?_
    obtain ⟨h1, h2, h3, h4⟩ := hk
    exact ⟨by omega, h2, by simp only [dpt]; omega, by simp [rgt, h4]⟩
  · exact ⟨by omega, hj, by simp only [dpt, dps]; omega, by simp [rgt, rgs]⟩
theorem otherF_iv (hq : EvQ v) (hK : IvK v K) (pp : Nat) {i : Nat} (hi : i ≤ v.L.length) : (otherF v K pp i).all (P1 v 0 i) (Qe v) := by
  unfold otherF; split
  · rename_i h; have := isS_lt h
    exact all_mono (hK.choice pp (i + 1) (by omega)) fun x j h => ⟨by have := h.1; omega, h.2.1, by have := h.2.2.1; omega, h.2.2.2⟩
  split
  · rename_i h; have := isS_lt h
    refine all_bind (hK.pipe pp (i + 1) (by omega)) fun x j hx => all_bind (ned_iv hq hx.2.1) fun _ k hk => ?_
    obtain ⟨h1, h2, h3, h4⟩ := hx
    obtain ⟨rfl, hk⟩ := hk
    exact ⟨by omega, hk, by omega, h4⟩
  · refine all_bind (ned_iv hq hi) fun _ k hk => ?_
    obtain ⟨rfl, hk⟩ := hk
    exact ⟨by omega, hk, by simp only [non, dpt, dps]; omega, by simp [non, rgt, rgs]⟩
theorem choiceF_iv (hq : EvQ v) (hK : IvK v K) (pp : Nat) {i : Nat} (hi : i ≤ v.L.length) : (choiceF v K pp i).all (P1 v 0 i) (Qe v) := by
  unfold choiceF
  refine all_bind (hK.pipe pp i hi) fun x j hx => all_bind (ned_iv hq hx.2.1) fun _ k hk => all_bind (hK.pipe pp k hk.2) fun y l hy => all_bind (otherF_iv hq hK pp hy.2.1) fun z m hz => ?_
  obtain ⟨h1, h2, h3, h4⟩ := hx
  obtain ⟨rfl, hk⟩ := hk
  obtain ⟨g1, g2, g3, g4⟩ := hy
  obtain ⟨f1, f2, f3, f4⟩ := hz
  exact ⟨by omega, f2, by simp only [dpt, dps]; omega, by simp [rgt, rgs, h4, g4, f4]⟩
theorem attemptF_iv (hq : EvQ v) (hK : IvK v K) (pp : Nat) {i : Nat} (hi : i ≤ v.L.length) : (attemptF v K pp i).all (P1 v 1 i) (Qe v) := by
  unfold attemptF
  refine all_bind (hK.post pp i hi) fun x j hx => ?_
  obtain ⟨h1, h2, h3, h4⟩ := hx
  split
  · rename_i h; have := isS_lt h
    refine all_bind (hK.post pp (j + 1) (by omega)) fun y k hy => ?_
    obtain ⟨g1, g2, g3, g4⟩ := hy
    exact ⟨by omega, g2, by simp only [dpt, dps]; omega, by simp [rgt, rgs, h4, g4]⟩
  · exact ⟨h1, h2, by simp only [dpt, dps]; omega, by simp [rgt, rgs, h4]⟩
def SP (v : Ev) (i : Nat) (q : Nd × Nd × Nd) (j : Nat) : Prop := i < j ∧ j ≤ v.L.length ∧ dps [q.1, q.2.1, q.2.2] + 4 * i ≤ 4 * j ∧ rgs [q.1, q.2.1, q.2.2] = true
theorem sourceF_iv (hq : EvQ v) (hK : IvK v K) (pp : Nat) {i : Nat} (hi : i ≤ v.L.length) : (sourceF v K pp i).all (SP v i) (Qe v) := by
  unfold sourceF
  refine all_bind (hK.post pp i hi) fun x j hx => all_bind (ned_iv hq hx.2.1) fun _ k hk => all_bind (hK.pat pp k hk.2) fun y l hy => all_bind (ned_iv hq hy.2.1) fun _ m hm => all_bind (hK.pipe pp m hm.2) fun z n hz => all_bind (ned_iv hq hz.2.1) fun _ o ho => ?_
  obtain ⟨h1, h2, h3, h4⟩ := hx
  obtain ⟨rfl, hk⟩ := hk
  obtain ⟨g1, g2, g3, g4⟩ := hy
  obtain ⟨rfl, hm⟩ := hm
  obtain ⟨f1, f2, f3, f4⟩ := hz
  obtain ⟨rfl, ho⟩ := ho
  exact ⟨by omega, ho, by simp only [dps]; omega, by simp [rgs, h4, g4, f4]⟩
theorem reduceF_iv (hq : EvQ v) (hK : IvK v K) (pp : Nat) {i : Nat} (hi : i ≤ v.L.length) : (reduceF v K pp i).all (P1 v 0 i) (Qe v) := by
  unfold reduceF
  refine all_bind (sourceF_iv hq hK pp hi) fun q j hj => all_bind (hK.pipe pp j hj.2.1) fun y k hy => all_bind (ned_iv hq hy.2.1) fun _ l hl => ?_
  obtain ⟨h1, h2, h3, h4⟩ := hj
  obtain ⟨g1, g2, g3, g4⟩ := hy
  obtain ⟨rfl, hl⟩ := hl
  simp only [dps] at h3
  simp only [rgs, Bool.and_eq_true] at h4
  exact ⟨by omega, hl, by simp only [dpt, dps]; omega, by simp [rgt, rgs, h4, g4]⟩
theorem foreachF_iv (hq : EvQ v) (hK : IvK v K) (pp : Nat) {i : Nat} (hi : i ≤ v.L.length) : (foreachF v K pp i).all (P1 v 0 i) (Qe v) := by
  unfold foreachF
  refine all_bind (sourceF_iv hq hK pp hi) fun q j hj => all_bind (hK.pipe pp j hj.2.1) fun y k hy => ?_
  obtain ⟨h1, h2, h3, h4⟩ := hj
  obtain ⟨g1, g2, g3, g4⟩ := hy
  simp only [dps] at h3
  simp only [rgs, Bool.and_eq_true] at h4
  split
  · rename_i h; have := isS_lt h
    refine all_bind (hK.pipe pp (k + 1) (by omega)) fun z m hz => all_bind (ned_iv hq hz.2.1) fun _ l hl => ?_
    obtain ⟨f1, f2, f3, f4⟩ := hz
    obtain ⟨rfl, hl⟩ := hl
    exact ⟨by omega, hl, by simp only [dpt, dps]; omega, by simp [rgt, rgs, h4, g4, f4]⟩
  · refine all_bind (ned_iv hq g2) fun _ l hl => ?_
    obtain ⟨rfl, hl⟩ := hl
    exact ⟨by omega, hl, by simp only [non, dpt, dps]; omega, by simp [non, rgt, rgs, h4, g4]⟩
theorem P1.up {c i j : Nat} {x : Nd} (h : P1 v c (i + 1) x j) (hc : c ≤ 4) : P1 v 0 i x j := ⟨by have := h.1; omega, h.2.1, by have := h.2.2.1; omega, h.2.2.2⟩
theorem namedF_iv (hq : EvQ v) (hK : IvK v K) (pp : Nat) {i : Nat} (hi : i ≤ v.L.length) : (namedF v K pp i).all (P1 v 0 i) (Qe v) := by
  unfold namedF; split
  · rename_i h; have := isS_lt h
    exact all_mono (choiceF_iv hq hK pp (by omega)) fun x j h => h.up (by decide)
  split
  · rename_i h; have := isS_lt h
    exact all_mono (attemptF_iv hq hK pp (by omega)) fun x j h => h.up (by decide)
  split
  · rename_i h; have := isS_lt h
    exact all_mono (reduceF_iv hq hK pp (by omega)) fun x j h => h.up (by decide)
  split
  · rename_i h; have := isS_lt h
    exact all_mono (foreachF_iv hq hK pp (by omega)) fun x j h => h.up (by decide)
  split
  · rename_i h; have := isS_lt h
    refine all_bind (tak_iv hq (show i + 1 ≤ v.L.length by omega) (by decide)) fun _ j hj => ?_
    obtain ⟨rfl, hj⟩ := hj
    exact ⟨by omega, hj, by simp only [dpt, dps]; omega, by simp [rgt, rgs]⟩
  · exact callF_iv hq hK pp hi
theorem termF_iv (hq : EvQ v) (hK : IvK v K) (pp : Nat) {i : Nat} (hi : i ≤ v.L.length) : (termF v K pp i).all (P1 v 0 i) (Qe v) := by
  unfold termF; split
  · exact numberF_iv hq hi
  split
  · exact namedF_iv hq hK pp hi
  split
  · refine all_bind (tak_iv hq hi (by decide)) fun _ j hj => ?_
    obtain ⟨rfl, hj⟩ := hj
    exact ⟨by omega, hj, by simp only [ixN, slf, pln, dpt, dps]; omega, by simp [ixN, slf, pln, rgt, rgs]⟩
  split
  · refine all_bind (tak_iv hq hi (by decide)) fun _ j hj => ?_
    obtain ⟨rfl, hj⟩ := hj
    exact ⟨by omega, hj, by simp only [dpt, dps]; omega, by simp [rgt, rgs]⟩
  split
  · exact formatF_iv hq hK pp hi
  split
  · exact all_mono (textF_iv hq hK pp nil hi) fun x j h => h.p1
  · exact signedF_iv hq hK pp hi
theorem unlessF_iv (hq : EvQ v) (hK : IvK v K) (pp : Nat) (fin : ByteArray) {i : Nat} (hi : i ≤ v.L.length) : (unlessF v K pp fin i).all (P1 v 0 i) (Qe v) := by
  unfold unlessF; split
  · rename_i h; have := isS_lt h
    exact ⟨by omega, by omega, by simp only [non, dpt, dps]; omega, by simp [non, rgt, rgs]⟩
  · refine all_bind (hK.pipe pp i hi) fun x j hx => all_bind (ned_iv hq hx.2.1) fun _ k hk => ?_
    obtain ⟨h1, h2, h3, h4⟩ := hx
    obtain ⟨rfl, hk⟩ := hk
    exact ⟨by omega, hk, by omega, h4⟩
theorem innerF_iv (hq : EvQ v) (hK : IvK v K) (pp : Nat) (m : Nd) {i i0 : Nat} (hi : i ≤ v.L.length) (h0 : i0 ≤ i) (hm : dpt m + 4 * i0 ≤ 4 * i) (hr : rgt m = true) : (innerF v K pp m i).all (P1 v 0 i0) (Qe v) := by
  unfold innerF; split
  · rename_i h; have := isS_lt h
    exact ⟨by omega, by omega, by simp only [dpt, dps]; omega, by simp [rgt, rgs, hr]⟩
  split
  · rename_i h; have := isS_lt h
    refine all_bind (hK.pipe pp (i + 1) (by omega)) fun x j hx => all_bind (ned_iv hq hx.2.1) fun _ k hk => ?_
    obtain ⟨h1, h2, h3, h4⟩ := hx
    obtain ⟨rfl, hk⟩ := hk
    exact ⟨by omega, hk, by simp only [non, dpt, dps]; omega, by simp [non, rgt, rgs, hr, h4]⟩
  · refine all_bind (hK.pipe pp i hi) fun x j hx => ?_
    obtain ⟨h1, h2, h3, h4⟩ := hx
    split
    · rename_i h; have := isS_lt h
      refine all_bind (unlessF_iv hq hK pp _ (show j + 1 ≤ v.L.length by omega)) fun y k hy => ?_
      obtain ⟨g1, g2, g3, g4⟩ := hy
      exact ⟨by omega, g2, by simp only [dpt, dps]; omega, by simp [rgt, rgs, hr, h4, g4]⟩
    · refine all_bind (ned_iv hq h2) fun _ k hk => ?_
      obtain ⟨rfl, hk⟩ := hk
      exact ⟨by omega, hk, by simp only [ixN, dpt, dps]; omega, by simp [ixN, rgt, rgs, hr, h4]⟩
def IP (v : Ev) (i i0 : Nat) (x : Nd) (j : Nat) : Prop := i < j ∧ j ≤ v.L.length ∧ dpt x + 4 * i0 ≤ 4 * j
theorem innerF_d (hq : EvQ v) (hK : IvK v K) (pp : Nat) (m : Nd) {i i0 : Nat} (hi : i ≤ v.L.length) (hm : dpt m + 4 * i0 ≤ 4 * i) : (innerF v K pp m i).all (IP v i i0) (Qe v) := by
  unfold innerF; split
  · rename_i h; have := isS_lt h
    exact ⟨by omega, by omega, by simp only [dpt, dps]; omega⟩
  split
  · rename_i h; have := isS_lt h
    refine all_bind (hK.pipe pp (i + 1) (by omega)) fun x j hx => all_bind (ned_iv hq hx.2.1) fun _ k hk => ?_
    obtain ⟨h1, h2, h3, h4⟩ := hx
    obtain ⟨rfl, hk⟩ := hk
    exact ⟨by omega, hk, by simp only [non, dpt, dps]; omega⟩
  · refine all_bind (hK.pipe pp i hi) fun x j hx => ?_
    obtain ⟨h1, h2, h3, h4⟩ := hx
    split
    · rename_i h; have := isS_lt h
      refine all_bind (unlessF_iv hq hK pp _ (show j + 1 ≤ v.L.length by omega)) fun y k hy => ?_
      obtain ⟨g1, g2, g3, g4⟩ := hy
      exact ⟨by omega, g2, by simp only [dpt, dps]; omega⟩
    · refine all_bind (ned_iv hq h2) fun _ k hk => ?_
      obtain ⟨rfl, hk⟩ := hk
      exact ⟨by omega, hk, by simp only [ixN, dpt, dps]; omega⟩
theorem postL_iv (hq : EvQ v) (hK : IvK v K) (pp i0 : Nat) : ∀ (f : Nat) (m : Nd) (i : Nat), i0 < i → i ≤ v.L.length → dpt m + 4 * i0 ≤ 4 * i → rgt m = true → (postL v K pp f m i).all (P1 v 0 i0) (Qe v)
  | 0, _, _, _, _, _, _ => qe99
  | f + 1, m, i, h0, hi, hd, hr => by
    unfold postL; split
    · rename_i h; have := tkn_lt h (by decide)
      exact postL_iv hq hK pp i0 f _ (i + 1) (by omega) (by omega) (by simp only [ixN, pln, dpt, dps]; omega) (by simp [ixN, pln, rgt, rgs, hr])
    split
    · rename_i h; have := isS_lt h
      exact postL_iv hq hK pp i0 f _ (i + 1) (by omega) (by omega) (by simp only [dpt, dps]; omega) (by simp [rgt, rgs, hr])
    split
    · rename_i h; have := isS_lt h
      refine all_bind (innerF_iv hq hK pp m (i := i + 1) (i0 := i0) (by omega) (by omega) (by omega) hr) fun x j hx => ?_
      exact postL_iv hq hK pp i0 f x j hx.1 hx.2.1 (by have := hx.2.2.1; omega) hx.2.2.2
    split
    · rename_i h; have := isS_lt h.1
      refine all_bind (textF_iv hq hK pp nil (show i + 1 ≤ v.L.length by omega)) fun x j hx => ?_
      obtain ⟨h1, h2, h3, h4⟩ := hx
      exact postL_iv hq hK pp i0 f _ j (by omega) h2 (by simp only [ixN, dpt, dps]; omega) (by simp [ixN, rgt, rgs, hr, h4])
    split
    · rename_i h; have := isS_lt h.1
      exact postL_iv hq hK pp i0 f m (i + 1) (by omega) (by omega) (by omega) hr
    · exact ⟨h0, hi, by omega, hr⟩
theorem postF_iv (hq : EvQ v) (hK : IvK v K) (pp : Nat) {i : Nat} (hi : i ≤ v.L.length) : (postF v K pp i).all (P1 v 0 i) (Qe v) := by
  unfold postF
  refine all_bind (termF_iv hq hK pp hi) fun x j hx => ?_
  exact postL_iv hq hK pp i _ x j hx.1 hx.2.1 (by have := hx.2.2.1; omega) hx.2.2.2
theorem boundF_iv (hq : EvQ v) (hK : IvK v K) (pp : Nat) {i : Nat} (hi : i ≤ v.L.length) : (boundF v K pp i).all (P1 v 0 i) (Qe v) := by
  unfold boundF
  refine all_bind (postF_iv hq hK pp hi) fun x j hx => ?_
  obtain ⟨h1, h2, h3, h4⟩ := hx
  split
  · rename_i h; have := isS_lt h
    refine all_bind (hK.pat pp (j + 1) (by omega)) fun y k hy => all_bind (ned_iv hq hy.2.1) fun _ l hl => all_bind (hK.pipe pp l hl.2) fun z m hz => ?_
    obtain ⟨g1, g2, g3, g4⟩ := hy
    obtain ⟨rfl, hl⟩ := hl
    obtain ⟨f1, f2, f3, f4⟩ := hz
    exact ⟨by omega, f2, by simp only [dpt, dps]; omega, by simp [rgt, rgs, h4, g4, f4]⟩
  · exact ⟨h1, h2, h3, h4⟩
theorem negF_iv (hq : EvQ v) (hK : IvK v K) (pp : Nat) {i : Nat} (hi : i ≤ v.L.length) : (negF v K pp i).all (P1 v 0 i) (Qe v) := by
  unfold negF; split
  · rename_i h; have := isS_lt h
    refine all_bind (hK.neg pp (i + 1) (by omega)) fun x j hx => ?_
    obtain ⟨h1, h2, h3, h4⟩ := hx
    exact ⟨by omega, h2, by simp only [dpt, dps]; omega, by simp [rgt, rgs, h4]⟩
  · exact boundF_iv hq hK pp hi
theorem twoS_lt {i : Nat} {r : ByteArray × Nat × Nat × Nat} (h : twoS v i = some r) : i < v.L.length := by
  have h2 := List.find?_some (p := fun r : ByteArray × Nat × Nat × Nat => isS v i r.1) h
  exact isS_lt h2
theorem heldN_d (s : ByteArray) (a b : Nd) : dpt (heldN s a b) = max (dpt a) (dpt b) + 1 := by
  unfold heldN; split <;> · simp only [dpt, dps]; omega
theorem heldN_r (s : ByteArray) (a b : Nd) : rgt (heldN s a b) = (rgt a && rgt b) := by
  unfold heldN; split <;> simp [rgt, rgs]
theorem climbL_iv (hq : EvQ v) (hK : IvK v K) (l pp i0 : Nat) : ∀ (f : Nat) (m : Nd) (st i : Nat), i0 < i → i ≤ v.L.length → dpt m + 4 * i0 ≤ 4 * i → rgt m = true → (climbL v K l pp f m st i).all (P1 v 0 i0) (Qe v)
  | 0, _, _, _, _, _, _, _ => qe99
  | f + 1, m, st, i, h0, hi, hd, hr => by
    unfold climbL
    cases ht : twoS v i with
    | none => exact ⟨h0, hi, by omega, hr⟩
    | some r =>
      have := twoS_lt ht
      simp only
      split
      · exact ⟨h0, hi, by omega, hr⟩
      · refine all_bind (hK.climb _ pp (i + 1) (by omega)) fun x j hx => ?_
        obtain ⟨h1, h2, h3, h4⟩ := hx
        exact climbL_iv hq hK l pp i0 f _ _ j (by omega) h2 (by rw [heldN_d]; omega) (by rw [heldN_r, hr, h4]; rfl)
theorem climbF_iv (hq : EvQ v) (hK : IvK v K) (l pp : Nat) {i : Nat} (hi : i ≤ v.L.length) : (climbF v K l pp i).all (P1 v 0 i) (Qe v) := by
  unfold climbF
  refine all_bind (negF_iv hq hK pp hi) fun x j hx => ?_
  exact climbL_iv hq hK l pp i _ x _ j hx.1 hx.2.1 (by have := hx.2.2.1; omega) hx.2.2.2
theorem paramF_iv (hq : EvQ v) {i : Nat} (hi : i ≤ v.L.length) : (paramF v i).all (P1 v 0 i) (Qe v) := by
  unfold paramF; split
  · refine all_bind (tak_iv hq hi (by decide)) fun _ j hj => ?_
    obtain ⟨rfl, hj⟩ := hj
    exact ⟨by omega, hj, by simp only [dpt, dps]; omega, by simp [rgt, rgs]⟩
  · refine all_bind (tak_iv hq hi (by decide)) fun _ j hj => ?_
    obtain ⟨rfl, hj⟩ := hj
    exact ⟨by omega, hj, by simp only [dpt, dps]; omega, by simp [rgt, rgs]⟩
theorem defR_iv (hq : EvQ v) (hK : IvK v K) (pp : Nat) (s : ByteArray) (ks : List Nd) {i i0 : Nat} (hi : i ≤ v.L.length) (h0 : i0 ≤ i) (hd : dps ks + 4 * i0 ≤ 4 * i) (hr : rgs ks = true) : (defR v K pp s ks i).all (P1 v 0 i0) (Qe v) := by
  unfold defR
  refine all_bind (ned_iv hq hi) fun _ j hj => all_bind (hK.pipe pp j hj.2) fun x k hx => all_bind (ned_iv hq hx.2.1) fun _ l hl => all_bind (hK.pipe pp l hl.2) fun y m hy => ?_
  obtain ⟨rfl, hj⟩ := hj
  obtain ⟨h1, h2, h3, h4⟩ := hx
  obtain ⟨rfl, hl⟩ := hl
  obtain ⟨g1, g2, g3, g4⟩ := hy
  exact ⟨by omega, g2, by simp only [dpt]; rw [dps_append]; simp only [dps]; omega, by simp only [rgt]; rw [rgs_app]; simp [rgs, hr, h4, g4]⟩
theorem defF_iv (hq : EvQ v) (hK : IvK v K) (pp : Nat) {i : Nat} (hi : i ≤ v.L.length) : (defF v K pp i).all (P1 v 0 i) (Qe v) := by
  unfold defF
  refine all_bind (tak_iv hq hi (by decide)) fun s j hj => ?_
  obtain ⟨rfl, hj⟩ := hj
  split
  · rename_i h; have := isS_lt h
    refine all_bind (rowF_iv hq (fun i hi => paramF_iv hq hi) _ _ (show i + 1 + 1 ≤ v.L.length by omega)) fun ks k hk => ?_
    obtain ⟨h1, h2, h3, h4⟩ := hk
    exact defR_iv hq hK pp s ks h2 (by omega) (by omega) h4
  · exact defR_iv hq hK pp s [] hj (by omega) (by simp only [dps]; omega) rfl
theorem anyF_iv (hq : EvQ v) (hK : IvK v K) (pp : Nat) {i : Nat} (hi : i ≤ v.L.length) : (anyF v K pp i).all (P1 v 0 i) (Qe v) := by
  unfold anyF; split
  · rename_i h; have := isS_lt h
    exact all_mono (defF_iv hq hK pp (by omega)) fun x j h => h.up (by decide)
  split
  · rename_i h; have := isS_lt h
    refine all_bind (tak_iv hq (show i + 1 ≤ v.L.length by omega) (by decide)) fun _ j hj => all_bind (ned_iv hq hj.2) fun _ k hk => all_bind (hK.pipe pp k hk.2) fun x l hx => ?_
    obtain ⟨rfl, hj⟩ := hj
    obtain ⟨rfl, hk⟩ := hk
    obtain ⟨h1, h2, h3, h4⟩ := hx
    exact ⟨by omega, h2, by simp only [dpt, dps]; omega, by simp [rgt, rgs, h4]⟩
  · refine all_bind (climbF_iv hq hK 0 pp hi) fun x j hx => ?_
    obtain ⟨h1, h2, h3, h4⟩ := hx
    split
    · rename_i h; have := isS_lt h
      refine all_bind (hK.pipe pp (j + 1) (by omega)) fun y k hy => ?_
      obtain ⟨g1, g2, g3, g4⟩ := hy
      exact ⟨by omega, g2, by simp only [dpt, dps]; omega, by simp [rgt, rgs, h4, g4]⟩
    · exact ⟨h1, h2, h3, h4⟩
theorem pipeF_iv (hq : EvQ v) (hK : IvK v K) (pp : Nat) {i : Nat} (hi : i ≤ v.L.length) : (pipeF v K pp i).all (P1 v 0 i) (Qe v) := by
  unfold pipeF; split
  · exact ⟨plc_le hq hi, by decide, fun h => by cases h⟩
  · exact anyF_iv hq hK _ hi
theorem kn_iv (hq : EvQ v) : ∀ f, IvK v (kn v f)
  | 0 => ⟨fun _ _ _ => qe99, fun _ _ _ _ => qe99, fun _ _ _ => qe99, fun _ _ _ => qe99, fun _ _ _ => qe99, fun _ _ _ => qe99⟩
  | f + 1 => ⟨fun pp i hi => pipeF_iv hq (kn_iv hq f) pp hi, fun l pp i hi => climbF_iv hq (kn_iv hq f) l pp hi, fun pp i hi => negF_iv hq (kn_iv hq f) pp hi, fun pp i hi => postF_iv hq (kn_iv hq f) pp hi, fun pp i hi => patternF_iv hq (kn_iv hq f) pp hi, fun pp i hi => choiceF_iv hq (kn_iv hq f) pp hi⟩
theorem allF_iv (hq : EvQ v) : (allF v).all (P1 v 0 0) (Qe v) := by
  unfold allF
  refine all_bind ((kn_iv hq _).pipe 0 0 (Nat.zero_le _)) fun t i ht => ?_
  split
  · exact unf_iv hq (by have := ht.2.1; omega) _
  · exact ht
end
end Go.Proofs.YtpgiljibicigeaaGreatDoor.SX
