/- quote: Is walked. -/
import Derived.Test.YtjjacffacmpopaaDoorQuoPs
namespace Go.Proofs.YtjjacffacmpopaaDoor
open Go.RowKit UM QM

attribute [local go_sem] Oper.semAt_some
theorem RB.gbFar {A B : World} {g r : Nat} {a : Option Addr} {cap : Nat} {l : List Nat} {k err : Nat} (h : RB A g a cap l k err) (hg : A.grownBy B (some r)) (hr : g ≠ r) (ha : 0 < l.length → Apart a r) (hs : ¬ 1 = r) : RB B g a cap l k err := by
  obtain ⟨h0, h1, h2, hf, hrd, hap, hk, hl, hlo, hcp, hsh, hsn⟩ := h
  refine ⟨hg.cell h0 (by simpa using hr), hg.cell h1 (by simpa using hr), hg.cell h2 (by simpa using hr), fun j => ?_, hrd.gbc hg ha, hap, hk, hl, hlo, hcp, hsh.gb hg hs, hsn⟩
  rw [World.frozen?_of_block (w := A) (hg.block g (lt_of_cell h0) (by simpa using hr))]
  exact hf j
theorem Tl.ex (l : List Nat) : ∀ (n j : Nat), l.length + 1 - j ≤ n → ∃ xs e err, Tl l j xs e err := by
  intro n
  induction n with
  | zero =>
    intro j hj
    by_cases h : pk l j = 34
    · exact ⟨_, _, _, Tl.stop h⟩
    · by_cases h2 : (pieceF l j).2.1 = true
      · have := pk_ne h2; omega
      · exact ⟨_, _, _, Tl.bad h (by simpa using h2)⟩
  | succ n ih =>
    intro j hj
    by_cases h : pk l j = 34
    · exact ⟨_, _, _, Tl.stop h⟩
    · by_cases h2 : (pieceF l j).2.1 = true
      · have := piece_adv h2 (pk_ne h2)
        obtain ⟨xs, e, err, t⟩ := ih (pieceF l j).2.2 (by omega)
        exact ⟨_, _, _, Tl.go h h2 t⟩
      · exact ⟨_, _, _, Tl.bad h (by simpa using h2)⟩
/-- what was told before a place is a beginning of all that is told -/
theorem rch_pre {l : List Nat} {pre xs : List Int} {j k err : Nat} (h : Rch l pre j) (hr : RdR l xs k err) : ∃ ys, xs = pre ++ ys := by
  obtain ⟨h0, h1⟩ := Tl.of h
  obtain ⟨ys, e', err', t⟩ := Tl.ex l _ j (Nat.le_refl _)
  have := RdR.det hr (.inr ⟨h0, h1 t⟩)
  exact ⟨ys, this.1⟩
/-- while the key goes along -/
def IIs (w0 : World) (key : ByteArray) (pre : List Int) (W : World) : Prop :=
  (∃ (ps : List Nat) (R : ByteArray), (∀ p ∈ ps, Pt p) ∧ pre = toI ps ∧ bl key = encL ps ++ bl R ∧ W.cell? ⟨w0.heap.size + 2, 0, none⟩ = some (.string R) ∧ W.frozen? ⟨w0.heap.size + 2, 0, none⟩ = false ∧ W.cell? ⟨w0.heap.size, 0, none⟩ = some (.bool false) ∧ W.frozen? ⟨w0.heap.size, 0, none⟩ = false) ∧ Below w0.heap.size w0 W
/-- when it did not -/
def XIs (w0 : World) (key : ByteArray) (pre : List Int) (W : World) : Prop :=
  (∃ (ps : List Nat), (∀ p ∈ ps, Pt p) ∧ pre = toI ps ∧ (∀ t, bl key ≠ encL ps ++ t) ∧ W.cell? ⟨w0.heap.size, 0, none⟩ = some (.bool false) ∧ W.frozen? ⟨w0.heap.size, 0, none⟩ = false) ∧ Below w0.heap.size w0 W
theorem IIs.own (w0 : World) (key : ByteArray) : OwnFrom (w0.heap.size + 3) (IIs w0 key) := by
  refine OwnFrom.and (Own.from ?_ _) (ownFrom_below (Nat.le_refl _) (by omega))
  rintro s A B row ⟨ps, R, h1, h2, h3, h4, h5, h6, h7⟩ hg hr
  exact ⟨ps, R, h1, h2, h3, cell_kept h4 hg hr, (frozen_kept h4 hg hr).trans h5, cell_kept h6 hg hr, (frozen_kept h6 hg hr).trans h7⟩
theorem XIs.own (w0 : World) (key : ByteArray) : OwnFrom (w0.heap.size + 3) (XIs w0 key) := by
  refine OwnFrom.and (Own.from ?_ _) (ownFrom_below (Nat.le_refl _) (by omega))
  rintro s A B row ⟨ps, h1, h2, h3, h6, h7⟩ hg hr
  exact ⟨ps, h1, h2, h3, cell_kept h6 hg hr, (frozen_kept h6 hg hr).trans h7⟩
theorem frz_gb {A B : World} {r : Nat} {p : Addr} {v : Value} (h : A.cell? p = some v) (hf : A.frozen? p = false) (hg : A.grownBy B (some r)) (hne : p.block ≠ r) : B.frozen? p = false := by
  rw [World.frozen?_of_block (w := A) (hg.block p.block (lt_of_cell h) (by simpa using hne))]; exact hf
theorem IIs.gb {w0 : World} {key : ByteArray} {pre : List Int} {A B : World} (h : IIs w0 key pre A) (hg : A.grownBy B (some (w0.heap.size + 1))) : IIs w0 key pre B := by
  obtain ⟨⟨ps, R, h1, h2, h3, h4, h5, h6, h7⟩, hb⟩ := h
  exact ⟨⟨ps, R, h1, h2, h3, hg.cell h4 (by simp), frz_gb h4 h5 hg (by simp), hg.cell h6 (by simp), frz_gb h6 h7 hg (by simp)⟩, hb.grown hg hb.size (fun k e => by cases e; omega)⟩
theorem XIs.gb {w0 : World} {key : ByteArray} {pre : List Int} {A B : World} (h : XIs w0 key pre A) (hg : A.grownBy B (some (w0.heap.size + 1))) : XIs w0 key pre B := by
  obtain ⟨⟨ps, h1, h2, h3, h6, h7⟩, hb⟩ := h
  exact ⟨⟨ps, h1, h2, h3, hg.cell h6 (by simp), frz_gb h6 h7 hg (by simp)⟩, hb.grown hg hb.size (fun k e => by cases e; omega)⟩
/-- a step of the key -/
theorem key_step {key R : ByteArray} {ps : List Nat} {p : Nat} (hp : Pt p) (h : bl key = encL ps ++ bl R) :
    (dcd (bl R) = (p, en p, true) ∧ en p ≤ R.size ∧ bl key = encL (ps ++ [p]) ++ bl (R.extract (en p) R.size)) ∨ (((dcd (bl R)).2.2 = false ∨ (dcd (bl R)).1 ≠ p) ∧ ∀ t, bl key ≠ encL (ps ++ [p]) ++ t) := by
  by_cases e : ∃ t, bl R = enc p ++ t
  · obtain ⟨t, e⟩ := e
    left
    have hl : en p ≤ R.size := by rw [← bl_len, e, List.length_append, enc_len]; omega
    refine ⟨by rw [e]; exact dcd_enc hp t, hl, ?_⟩
    rw [bl_extract, h, encL_append, encL_one, e, ← enc_len]
    simp
  · right
    constructor
    · rcases dcd_cases (bl R) with ⟨q, t, hq, e1, e2⟩ | ⟨_, e2⟩ | ⟨_, e2⟩
      · right
        rw [e2]
        intro e3
        simp only at e3
        subst e3
        exact e ⟨t, e1⟩
      · left; rw [e2]
      · left; rw [e2]
    · intro t ht
      rw [h, encL_append, encL_one, List.append_assoc] at ht
      exact e ⟨t, List.append_cancel_left ht⟩
end Go.Proofs.YtjjacffacmpopaaDoor
