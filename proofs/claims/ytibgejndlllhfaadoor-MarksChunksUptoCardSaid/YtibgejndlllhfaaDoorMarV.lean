/- A slice of pieces that came in. -/
import Derived.Test.YtibgejndlllhfaaDoorMarU
import Derived.Test.YtibgejndlllhfaaDoorMarJ
namespace Go.Proofs.YtibgejndlllhfaaDoor
open Go.ChangeShapes Go.WideShapes Go.ChangeAt Go.RowKit BM

theorem bulk_ge {H : Type} : ∀ m : List (DataW H), m.length ≤ Rows.uptoBulkAll m
  | [] => by simp [Rows.uptoBulkAll]
  | x :: r => by
    have ih := bulk_ge r
    have : 1 ≤ Rows.uptoBulk x := by
      cases x with
      | lit l => cases l <;> simp [Rows.uptoBulk]
      | nil => simp [Rows.uptoBulk]
      | ptr d => simp [Rows.uptoBulk]
      | slice elems spare => simp [Rows.uptoBulk]
      | agg parts => simp [Rows.uptoBulk]
      | iface t d => simp [Rows.uptoBulk]
      | map entries => simp [Rows.uptoBulk]
      | held h => simp [Rows.uptoBulk]
    simp only [Rows.uptoBulkAll, List.length_cons]; omega
theorem bulk_append {H : Type} : ∀ m n : List (DataW H), Rows.uptoBulkAll (m ++ n) = Rows.uptoBulkAll m + Rows.uptoBulkAll n
  | [], n => by simp [Rows.uptoBulkAll]
  | x :: r, n => by
    have ih := bulk_append r n
    simp only [List.cons_append, Rows.uptoBulkAll]; omega
theorem bulk_slice {H : Type} (elems spare : List (DataW H)) : Rows.uptoBulkAll elems ≤ Rows.uptoBulk (DataW.slice elems spare) := by
  simp only [Rows.uptoBulk]; omega
theorem flatb_le {H : Type} (f : Nat → List Nat) (D : Nat → DataW H) : ∀ n, (∀ i, i < n → (f i).length ≤ Rows.uptoBulk (D i)) → ((List.range n).map f).flatten.length ≤ Rows.uptoBulkAll ((List.range n).map D)
  | 0, _ => by simp
  | n + 1, h => by
    have ih := flatb_le f D n (fun i hi => h i (by omega))
    have hn := h n (by omega)
    rw [List.range_succ, List.map_append, List.map_append, List.flatten_append, List.length_append, bulk_append]
    simp only [List.map_cons, List.map_nil, List.flatten_cons, List.flatten_nil, List.append_nil, Rows.uptoBulkAll]
    omega
/-- one piece -/
theorem open_piece {H : Type} {enc : TypeId × Value → H} {w : World} {base : Nat} {held : Bool} {fuel : Nat} {v : Value} {x : DataW H × List MemPlace}
    (h : DataW.trod enc Tryd.prog w base (fun _ => true) held fuel 22 [v] = some x) :
    ∃ p : List Nat, ∃ ap cp, v = .slice ap p.length cp ∧ p.length ≤ cp ∧ Rd w .u8 ap p ∧ (ap = none → p = [] ∧ cp = 0) ∧ p.length ≤ Rows.uptoBulk x.1 := by
  rcases open_ints Tryd.underlying22 Tryd.underlying5 (by kernel_rfl) h with ⟨hcs, _⟩ | ⟨a, l, c, zs, hcs, _, hl, hm, hz, hx, hcell, hwz⟩
  · simp only [List.cons.injEq, and_true] at hcs
    subst hcs
    exact ⟨[], none, 0, rfl, Nat.le_refl _, Rd.nil _ _ _, fun _ => ⟨rfl, rfl⟩, Nat.zero_le _⟩
  · simp only [List.cons.injEq, and_true] at hcs
    subst hcs
    have hz' : zs.length = c := by simpa using hz
    obtain ⟨m, hml, hrd⟩ := bytesOf (c := c) hl hz' hcell hwz
    refine ⟨m, some a, c, by rw [hml], by omega, hrd, (fun e => by cases e), ?_⟩
    rw [hx]
    have h1 := bulk_ge (lits (H := H) .u8 (zs.take l))
    have h2 := bulk_slice (lits (H := H) .u8 (zs.take l)) (lits .u8 (zs.drop l))
    have h3 : (lits (H := H) .u8 (zs.take l)).length = l := by simp [lits]; omega
    show m.length ≤ Rows.uptoBulk (DataW.slice (lits (H := H) .u8 (zs.take l)) (lits .u8 (zs.drop l)))
    omega
/-- all of them -/
theorem open_pieces {H : Type} {enc : TypeId × Value → H} {w : World} {base : Nat} {held : Bool} {fuel : Nat} {v : Value} {x : DataW H × List MemPlace}
    (h : DataW.trod enc Tryd.prog w base (fun _ => true) held fuel 30 [v] = some x) :
    ∃ a c ps, v = .slice a (ps : List (List Nat)).length c ∧ RdQ w a ps ∧ ps.length ≤ Rows.uptoBulk x.1 ∧ ps.flatten.length ≤ Rows.uptoBulk x.1 := by
  rcases Go.Deep.open_slice1 Tryd.underlying30 (by kernel_rfl) h with ⟨hcs, _⟩ | ⟨a, len, cap, m, n, V, D, Pl, hcs, hb, hl, hm, hmm, hx, hel⟩
  · simp only [List.cons.injEq, and_true] at hcs
    subst hcs
    exact ⟨none, 0, [], rfl, fun j p hj => by simp at hj, Nat.zero_le _, Nat.zero_le _⟩
  · simp only [List.cons.injEq, and_true] at hcs
    subst hcs
    have hmc : m = cap := by simpa using hmm
    have each : ∀ i, i < len → ∃ p : List Nat, ∃ ap cp, V i = .slice ap p.length cp ∧ p.length ≤ cp ∧ Rd w .u8 ap p ∧ (ap = none → p = [] ∧ cp = 0) ∧ p.length ≤ Rows.uptoBulk (D i) := fun i hi => open_piece (hel i (by omega)).2
    obtain ⟨f, hf⟩ := Go.Deep.choose_lt each
    have hlen : ((List.range len).map f).length = len := by simp
    have hbs := bulk_slice ((List.range len).map D) ((List.range (m - len)).map fun j => D (len + j))
    have hbg := bulk_ge ((List.range len).map D)
    have hfl := flatb_le f D len (fun i hi => by obtain ⟨_, _, _, _, _, _, h⟩ := hf i hi; exact h)
    refine ⟨some a, cap, (List.range len).map f, by rw [hlen], fun j p hj => ?_, ?_, ?_⟩
    · have hj2 : j < len := by have := (List.getElem?_eq_some_iff.1 hj).1; rwa [hlen] at this
      have hy : f j = p := by simpa [hj2] using hj
      subst hy
      obtain ⟨ap, cp, hv, h1, h2, h3, _⟩ := hf j hj2
      have g0 := (hel 0 (by omega)).1
      obtain ⟨b, off, rfl⟩ := spot_of g0
      have gj := (hel j (by omega)).1
      rw [addP, hv] at gj
      exact ⟨b, off, ap, cp, rfl, gj, h1, h2, h3⟩
    · rw [hlen, hx]
      rw [List.length_map, List.length_range] at hbg
      exact Nat.le_trans hbg hbs
    · rw [hx]
      exact Nat.le_trans hfl hbs
end Go.Proofs.YtibgejndlllhfaaDoor
