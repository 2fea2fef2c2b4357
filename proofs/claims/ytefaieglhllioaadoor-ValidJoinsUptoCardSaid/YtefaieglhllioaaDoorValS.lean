/- What every law09 row wants: the table, the start, the arguments. -/
import Derived.Test.YtefaieglhllioaaDoorCards
import Derived.Test.YtefaieglhllioaaDoorTie
import Derived.Test.YtefaieglhllioaaDoorValL
import Derived.ProofKit
import Derived.OpenShut
import Derived.ShutString
import Derived.ChangeOld
import Derived.Deep.DeepHandedRow
import Derived.Lib.LaidTab
import Derived.Lib.SmallJoins
import Derived.Deep.Strs
import Derived.SizedLaws
namespace Go.Proofs.YtefaieglhllioaaDoor
open Go.ChangeShapes Go.WideShapes Go.ChangeAt Go.RowKit UM

theorem ownK : ownKnob Tryd.prog.godebug = none := by kernel_rfl
theorem laidOut : laidOutB Tryd.prog = true := by kernel_rfl
theorem cellsSh : Tryd.prog.cellsOf 69 = 3 := by kernel_rfl
theorem cellsShs : Tryd.prog.cellsOf 70 = 12 := by kernel_rfl
theorem cellsI : Tryd.prog.cellsOf 3 = 1 := by kernel_rfl
theorem cellsB : Tryd.prog.cellsOf 5 = 1 := by kernel_rfl
theorem gTab : Tryd.prog.globalNamed "lorgnette/utf.shapes" = some 0 := by kernel_rfl
theorem gTabType : (Tryd.prog.globals[0]?).map (·.type) = some 70 := by kernel_rfl

theorem shape_cells {H : Type} {enc : TypeId × Value → H} {w : World} {base : Nat} {sp : Nat → Bool} {held : Bool} {fuel : Nat} {cs : List Value} {A B C : Int} {p : List MemPlace}
    (h : DataW.trod enc Tryd.prog w base sp held fuel 69 cs = some (.agg [.lit (.int .i64 A), .lit (.int .u8 B), .lit (.int .u8 C)], p)) : cs = [.int .i64 A, .int .u8 B, .int .u8 C] := by
  obtain ⟨y0, y1, y2, n, hx, hl, h0, h1, h2⟩ := Go.Deep.trod_struct3 Tryd.underlying69 h
  rw [cellsSh] at hl
  match cs, hl with
  | [c0, c1, c2], _ =>
    simp only [cellsI, cellsB, List.drop_zero, List.drop_succ_cons, List.take_succ_cons, List.take_zero] at h0 h1 h2
    obtain ⟨n0, e0, f0, _⟩ := DataW.trod_int Tryd.underlying3 h0
    obtain ⟨n1, e1, f1, _⟩ := DataW.trod_int Tryd.underlying5 h1
    obtain ⟨n2, e2, f2, _⟩ := DataW.trod_int Tryd.underlying5 h2
    subst f0 f1 f2
    simp only [Prod.mk.injEq, DataW.agg.injEq, List.cons.injEq, DataW.lit.injEq, Lit.int.injEq, true_and, and_true] at hx
    simp only [List.cons.injEq, and_true] at e0 e1 e2
    obtain ⟨⟨r0, r1, r2⟩, _⟩ := hx
    rw [e0, e1, e2, r0, r1, r2]
theorem shapes_cells {H : Type} {enc : TypeId × Value → H} {w : World} {base : Nat} {sp : Nat → Bool} {held : Bool} {fuel : Nat} {cs : List Value} {p : List MemPlace}
    (h : DataW.trod enc Tryd.prog w base sp held fuel 70 cs = some (Rows.laid_lorgnette_utf_shapes, p)) :
    (cs.drop 0).take 3 = [.int .i64 127, .int .u8 0, .int .u8 127] ∧ (cs.drop 3).take 3 = [.int .i64 2047, .int .u8 192, .int .u8 31] ∧ (cs.drop 6).take 3 = [.int .i64 65535, .int .u8 224, .int .u8 15] ∧ (cs.drop 9).take 3 = [.int .i64 1114111, .int .u8 240, .int .u8 7] := by
  cases fuel with
  | zero => simp [DataW.trod] at h
  | succ fuel =>
    simp only [DataW.trod, Tryd.underlying70, cellsSh, cellsShs] at h
    split at h
    · obtain ⟨xs, hm, hx⟩ := Option.map_eq_some_iff.1 h
      have hxs := congrArg Prod.fst hx
      unfold Rows.laid_lorgnette_utf_shapes at hxs
      simp only [DataW.agg.injEq] at hxs
      obtain ⟨b0, hb0, f0⟩ := Lib.mapM_at hm 0 0 (by simp)
      obtain ⟨b1, hb1, f1⟩ := Lib.mapM_at hm 1 1 (by simp)
      obtain ⟨b2, hb2, f2⟩ := Lib.mapM_at hm 2 2 (by simp)
      obtain ⟨b3, hb3, f3⟩ := Lib.mapM_at hm 3 3 (by simp)
      have g0 := congrArg (·[0]?) hxs
      have g1 := congrArg (·[1]?) hxs
      have g2 := congrArg (·[2]?) hxs
      have g3 := congrArg (·[3]?) hxs
      simp [hb0] at g0
      simp [hb1] at g1
      simp [hb2] at g2
      simp [hb3] at g3
      obtain ⟨d0, q0⟩ := b0; obtain ⟨d1, q1⟩ := b1; obtain ⟨d2, q2⟩ := b2; obtain ⟨d3, q3⟩ := b3
      simp only at g0 g1 g2 g3
      subst g0 g1 g2 g3
      exact ⟨shape_cells f0, shape_cells f1, shape_cells f2, shape_cells f3⟩
    · cases h
theorem cellAt {cs : List Value} {j : Nat} {x y z : Value} (h : (cs.drop j).take 3 = [x, y, z]) : cs[j]? = some x ∧ cs[j + 1]? = some y ∧ cs[j + 2]? = some z := by
  have h0 := congrArg (·[0]?) h
  have h1 := congrArg (·[1]?) h
  have h2 := congrArg (·[2]?) h
  simp [List.getElem?_take, List.getElem?_drop] at h0 h1 h2
  exact ⟨h0, h1, h2⟩
theorem table {W : World} (h : laidMetH Tryd.prog Rows.validSpansRow.laid W) : Sh W := by
  have h' : laidMet Tryd.prog [("lorgnette/utf.shapes", Rows.laid_lorgnette_utf_shapes)] W := h
  obtain ⟨ps, ⟨g', t', cs, fuel, p, q, hg', ht', hvar, hd, _, _⟩, _⟩ := h'
  obtain rfl := Option.some.inj (gTab.symm.trans hg')
  obtain rfl := Option.some.inj (gTabType.symm.trans ht')
  obtain ⟨c0, c1, c2, c3⟩ := shapes_cells hd
  obtain ⟨k0, k1, k2⟩ := cellAt c0
  obtain ⟨k3, k4, k5⟩ := cellAt c1
  obtain ⟨k6, k7, k8⟩ := cellAt c2
  obtain ⟨k9, k10, k11⟩ := cellAt c3
  have key : ∀ (i : Nat) (v : Value), cs.toList[i]? = some v → W.cell? ⟨0, i, none⟩ = some v := fun i v hv => by
    have := World.var?_cell gTab hvar i
    rw [this, ← Array.getElem?_toList]
    exact hv
  exact ⟨key _ _ k0, key _ _ k1, key _ _ k2, key _ _ k3, key _ _ k4, key _ _ k5, key _ _ k6, key _ _ k7, key _ _ k8, key _ _ k9, key _ _ k10, key _ _ k11⟩

/-- a slice of bytes that came in -/
def IsBytes (w : World) (a : Option Addr) (len cap : Nat) : Prop := ∃ l : List Nat, l.length = len ∧ Rd w .u8 a l ∧ LM.Lo 256 l ∧ len ≤ cap ∧ (a = none → len = 0 ∧ cap = 0)
theorem bytesNil (w : World) : IsBytes w none 0 0 := ⟨[], rfl, Rd.nil _ _ _, fun x h => (by cases h), Nat.le_refl _, fun _ => ⟨rfl, rfl⟩⟩
theorem bytesOf {w : World} {x : Addr} {l c : Nat} {zs : List Int} (hl : l ≤ c) (hz : zs.length = c) (hcell : ∀ i, i < zs.length → w.cell? (x.add i) = some (.int .u8 (zs.getD i 0))) (hwz : ∀ n ∈ zs, (Lit.int .u8 n).wf = true) : IsBytes w (some x) l c := by
  have hlen : ((zs.take l).map Int.toNat).length = l := by simp; omega
  refine ⟨(zs.take l).map Int.toNat, hlen, ?_, ?_, hl, fun h => by cases h⟩
  · rcases Nat.eq_zero_or_pos zs.length with h0 | h0
    · intro j hj; rw [hlen] at hj; omega
    · obtain ⟨b, off, rfl, hc⟩ := ints_at hcell h0
      refine Rd.mk fun j hj => ?_
      rw [hlen] at hj
      rw [hc j (by omega)]
      have h1 := bounds_u8 (hwz (zs[j]'(by omega)) (List.getElem_mem _))
      have e1 : zs.getD j 0 = zs[j]'(by omega) := by simp [List.getD, show j < zs.length by omega]
      rw [e1]
      have e2 : (((zs.take l).map Int.toNat)[j]?.getD 0 : Nat) = (zs[j]'(by omega)).toNat := by
        simp [hj, show j < zs.length by omega]
      rw [e2]
      congr 2
      omega
  · intro y hy
    obtain ⟨z, hz', rfl⟩ := List.mem_map.1 hy
    have h1 := bounds_u8 (hwz z (List.mem_of_mem_take hz'))
    omega
def setB (h : Array Obj) (g : Nat) (cs : Array Value) : Array Obj := h.modify g fun
  | .cells _ t frozen => .cells cs t frozen
  | o => o
/-- a world for the witness -/
noncomputable def laidWorld (os : Os) : World :=
  { World.holding Tryd.prog os ⟨#[], #[], []⟩ with heap := setB (World.holding Tryd.prog os ⟨#[], #[], []⟩).heap 0 #[.int .i64 127, .int .u8 0, .int .u8 127, .int .i64 2047, .int .u8 192, .int .u8 31, .int .i64 65535, .int .u8 224, .int .u8 15, .int .i64 1114111, .int .u8 240, .int .u8 7] }
/-- the bound of the second form -/
theorem part_le {H : Type} {d : DataW H} {l : List (DataW H)} (h : d ∈ l) : Rows.uptoBulk d ≤ Rows.uptoBulkAll l := by
  induction l with
  | nil => cases h
  | cons x r ih =>
    simp only [Rows.uptoBulkAll]
    cases List.mem_cons.1 h with
    | inl e => subst e; omega
    | inr e => have := ih e; omega
theorem slice_le {H : Type} {l : List (DataW H)} {elems spare : List (DataW H)} (hk : Rows.uptoSmall H l = true) (h : DataW.slice elems spare ∈ l) : elems.length ≤ 1048576 := by
  have h1 := part_le h
  have h2 : Rows.uptoBulkAll l ≤ 1048576 := of_decide_eq_true hk
  have h3 : ∀ m : List (DataW H), m.length ≤ Rows.uptoBulkAll m := by
    intro m
    induction m with
    | nil => simp [Rows.uptoBulkAll]
    | cons x r ih =>
      have : 1 ≤ Rows.uptoBulk x := by
        cases x with
        | lit l => cases l <;> simp [Rows.uptoBulk]
        | nil => simp [Rows.uptoBulk]
        | ptr d => simp [Rows.uptoBulk]
        | slice elems spare => simp [Rows.uptoBulk]
        | agg parts => simp [Rows.uptoBulk]
        | iface t d => simp [Rows.uptoBulk]
        | map entries => simp [Rows.uptoBulk]
        | held h => simp [Rows.uptoBulk]
      simp only [Rows.uptoBulkAll, List.length_cons]; omega
  have h4 := h3 elems
  simp only [Rows.uptoBulk] at h1
  omega
theorem text_le {H : Type} {l : List (DataW H)} {bytes : List UInt8} (hk : Rows.uptoSmall H l = true) (h : DataW.lit (.string bytes) ∈ l) : bytes.length ≤ 1048576 := by
  have h1 := part_le h
  have h2 : Rows.uptoBulkAll l ≤ 1048576 := of_decide_eq_true hk
  simp only [Rows.uptoBulk] at h1
  omega
end Go.Proofs.YtefaieglhllioaaDoor
