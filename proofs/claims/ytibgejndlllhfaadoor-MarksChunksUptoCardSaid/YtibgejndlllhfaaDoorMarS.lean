/- What every law07 row wants: the table, the start, the arguments. -/
import Derived.Test.YtibgejndlllhfaaDoorCards
import Derived.Test.YtibgejndlllhfaaDoorTie
import Derived.Test.YtibgejndlllhfaaDoorBitS
import Derived.Test.YtibgejndlllhfaaDoorMarL
import Derived.Deep.DeepHandedRow
import Derived.Lib.LaidTab
import Derived.Lib.SmallJoins
import Derived.Deep.Slices
import Derived.SizedLaws
namespace Go.Proofs.YtibgejndlllhfaaDoor
open Go.ChangeShapes Go.WideShapes Go.ChangeAt Go.RowKit BM

theorem gTab : Tryd.prog.globalNamed "math/bits.deBruijn64tab" = some 0 := by kernel_rfl
theorem gTabType : (Tryd.prog.globals[0]?).map (·.type) = some 54 := by kernel_rfl
theorem table {W : World} (h : laidMetH Tryd.prog Rows.marksNextsRow.laid W) : Tb W := by
  have h' : laidMet Tryd.prog (("math/bits.deBruijn64tab", Lib.tabData .u8 (Lib.deBruijn64tab.map fun (n : Nat) => (n : Int))) :: []) W := h
  have ht := Lib.tabIs_of_head gTab gTabType Tryd.underlying54 Tryd.underlying5 (by kernel_rfl) (by kernel_rfl) h'
  intro j hj
  have := World.var?_cell gTab ht j
  rw [this]
  obtain ⟨x, hx⟩ : ∃ x, Lib.deBruijn64tab[j]? = some x := ⟨_, List.getElem?_eq_getElem hj⟩
  simp [List.getD, hx]
def setB (h : Array Obj) (g : Nat) (cs : Array Value) : Array Obj := h.modify g fun
  | .cells _ t frozen => .cells cs t frozen
  | o => o
/-- a world for the witness -/
noncomputable def laidWorld (os : Os) : World :=
  { World.holding Tryd.prog os ⟨#[], #[], []⟩ with heap := setB (World.holding Tryd.prog os ⟨#[], #[], []⟩).heap 0 (Lib.deBruijn64tab.map fun (n : Nat) => Value.int .u8 (n : Int)).toArray }
theorem cellsU : Tryd.prog.cellsOf 46 = 1 := by kernel_rfl
theorem cellsMs : Tryd.prog.cellsOf 49 = 7 := by kernel_rfl
theorem spot_of {w : World} {a : Addr} {v : Value} (h : w.cell? (a.add 0) = some v) : ∃ b off, a = ⟨b, off, none⟩ := by
  obtain ⟨b, off, s⟩ := a
  cases s with
  | none => exact ⟨b, off, rfl⟩
  | some s =>
    exfalso
    unfold Addr.add World.cell? at h
    split at h <;> simp_all
theorem fldU {H : Type} {enc : TypeId × Value → H} {w : World} {base : Nat} {sp : Nat → Bool} {held : Bool} {n : Nat} {c : Value} {y : DataW H × List MemPlace}
    (h : DataW.trod enc Tryd.prog w base sp held n 46 [c] = some y) : ∃ z : BitVec 64, c = .int .u64 (val z) := by
  obtain ⟨m, e, _, hwf⟩ := DataW.trod_int Tryd.underlying46 h
  obtain ⟨z, hz⟩ := u64_of hwf
  simp only [List.cons.injEq, and_true] at e
  exact ⟨z, by rw [e, hz]⟩
theorem masks_cells {H : Type} {enc : TypeId × Value → H} {w : World} {base : Nat} {sp : Nat → Bool} {held : Bool} {fuel : Nat} {cs : List Value} {x : DataW H × List MemPlace}
    (h : DataW.trod enc Tryd.prog w base sp held fuel 49 cs = some x) : ∃ m : MS, cs = m.cells := by
  obtain ⟨xs, n, _, _, hl, hlen, hf⟩ := DataW.trod_struct Tryd.underlying49 h
  rw [cellsMs] at hl
  match cs, hl, xs, hlen with
  | [c0, c1, c2, c3, c4, c5, c6], _, [y0, y1, y2, y3, y4, y5, y6], _ =>
    have h0 : DataW.trod enc Tryd.prog w base sp held n 46 [c0] = some y0 := by have := hf 0 _ rfl; simpa [cellsU] using this
    have h1 : DataW.trod enc Tryd.prog w base sp held n 46 [c1] = some y1 := by have := hf 1 _ rfl; simpa [cellsU] using this
    have h2 : DataW.trod enc Tryd.prog w base sp held n 46 [c2] = some y2 := by have := hf 2 _ rfl; simpa [cellsU] using this
    have h3 : DataW.trod enc Tryd.prog w base sp held n 46 [c3] = some y3 := by have := hf 3 _ rfl; simpa [cellsU] using this
    have h4 : DataW.trod enc Tryd.prog w base sp held n 46 [c4] = some y4 := by have := hf 4 _ rfl; simpa [cellsU] using this
    have h5 : DataW.trod enc Tryd.prog w base sp held n 46 [c5] = some y5 := by have := hf 5 _ rfl; simpa [cellsU] using this
    have h6 : DataW.trod enc Tryd.prog w base sp held n 46 [c6] = some y6 := by have := hf 6 _ rfl; simpa [cellsU] using this
    obtain ⟨q, rfl⟩ := fldU (c := c0) h0
    obtain ⟨n, rfl⟩ := fldU (c := c1) h1
    obtain ⟨o, rfl⟩ := fldU (c := c2) h2
    obtain ⟨c, rfl⟩ := fldU (c := c3) h3
    obtain ⟨k, rfl⟩ := fldU (c := c4) h4
    obtain ⟨m, rfl⟩ := fldU (c := c5) h5
    obtain ⟨s, rfl⟩ := fldU (c := c6) h6
    exact ⟨⟨q, n, o, c, k, m, s⟩, rfl⟩
instance : Inhabited MS := ⟨⟨0, 0, 0, 0, 0, 0, 0⟩⟩
/-- a slice of masks that came in -/
theorem open_masks {H : Type} {enc : TypeId × Value → H} {w : World} {base : Nat} {sp : Nat → Bool} {held : Bool} {fuel : Nat} {v : Value} {x : DataW H × List MemPlace}
    (h : DataW.trod enc Tryd.prog w base sp held fuel 25 [v] = some x) : ∃ a c xs, v = .slice a (xs : List MS).length c ∧ RdM w a xs ∧ (xs.length = 0 ∨ ∃ elems spare, x.1 = .slice elems spare ∧ elems.length = xs.length) := by
  rcases Go.Deep.open_slice Tryd.underlying25 h with ⟨hcs, _⟩ | ⟨a, len, cap, m, n, D, Pl, hcs, hb, hl, hm, hmm, hx, hel⟩
  · simp only [List.cons.injEq, and_true] at hcs
    subst hcs
    exact ⟨none, 0, [], rfl, fun j x hj => by simp at hj, .inl rfl⟩
  · simp only [List.cons.injEq, and_true] at hcs
    subst hcs
    have hml : len ≤ m := by rw [hmm]; split <;> omega
    have each : ∀ i, i < len → ∃ y : MS, ∀ k, k < 7 → w.cell? (a.add (i * 7 + k)) = y.cells[k]? := fun i hi => by
      obtain ⟨cs', hc, ht⟩ := hel i (by omega)
      obtain ⟨y, rfl⟩ := masks_cells ht
      rw [cellsMs] at hc
      obtain ⟨_, _, hk⟩ := World.cells?_some hc
      exact ⟨y, fun k hk7 => by have := hk k hk7; rwa [Go.Deep.add_add] at this⟩
    obtain ⟨f, hf⟩ := Go.Deep.choose_lt each
    have hlen : ((List.range len).map f).length = len := by simp
    refine ⟨some a, cap, (List.range len).map f, by rw [hlen], fun j y hj => ?_, .inr ⟨_, _, by rw [hx], by simp⟩⟩
    have hj2 : j < len := by have := (List.getElem?_eq_some_iff.1 hj).1; rwa [hlen] at this
    have hy : f j = y := by simpa [hj2] using hj
    subst hy
    have g := hf j hj2
    have g0 := hf 0 (by omega) 0 (by omega)
    obtain ⟨b, off, rfl⟩ := spot_of (v := .int .u64 (val (f 0).q)) g0
    refine ⟨b, off, rfl, ?_⟩
    have e : ∀ k, k < 7 → ∀ v, (f j).cells[k]? = some v → w.cell? ⟨b, off + j * 7 + k, none⟩ = some v := fun k hk v hv => by
      have := g k hk
      rw [addP, ← Nat.add_assoc, hv] at this
      exact this
    exact ⟨e 0 (by omega) _ rfl, e 1 (by omega) _ rfl, e 2 (by omega) _ rfl, e 3 (by omega) _ rfl, e 4 (by omega) _ rfl, e 5 (by omega) _ rfl, e 6 (by omega) _ rfl⟩
end Go.Proofs.YtibgejndlllhfaaDoor
