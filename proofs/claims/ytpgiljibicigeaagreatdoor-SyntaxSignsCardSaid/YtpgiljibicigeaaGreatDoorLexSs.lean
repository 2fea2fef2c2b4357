/- What every law14 row wants: the tables, the start, the arguments. -/
import Derived.Test.YtpgiljibicigeaaGreatDoorCards
import Derived.Test.YtpgiljibicigeaaGreatDoorTie
import Derived.Test.YtpgiljibicigeaaGreatDoorSynPas
import Derived.ProofKit
import Derived.OpenShut
import Derived.ShutString
import Derived.ChangeOld
import Derived.Deep.DeepHandedRow
import Derived.Lib.LaidTab
import Derived.Lib.SmallJoins
import Derived.Deep.Strs
import Derived.SizedLaws
import Derived.LaidSub
import Derived.Test.YtpgiljibicigeaaGreatDoorLexRisesMs
set_option linter.unusedVariables false
set_option linter.unusedSimpArgs false
namespace Go.Proofs.YtpgiljibicigeaaGreatDoor
open Go.ChangeShapes Go.WideShapes Go.ChangeAt Go.RowKit UM LX

theorem ownK : ownKnob Tryz.prog.godebug = none := by kernel_rfl
theorem laidOut : laidOutB Tryz.prog = true := by kernel_rfl
theorem cellsSh : Tryz.prog.cellsOf 67 = 3 := by kernel_rfl
theorem cellsShs : Tryz.prog.cellsOf 68 = 12 := by kernel_rfl
theorem cellsI : Tryz.prog.cellsOf 3 = 1 := by kernel_rfl
theorem cellsB : Tryz.prog.cellsOf 5 = 1 := by kernel_rfl
theorem gTab : Tryz.prog.globalNamed "lorgnette/utf.shapes" = some 0 := by kernel_rfl
theorem gTabType : (Tryz.prog.globals[0]?).map (·.type) = some 68 := by kernel_rfl

theorem three_of {cs : List Value} (h : cs.length = 3) : ∃ a b c, cs = [a, b, c] := by
  match cs, h with
  | [a, b, c], _ => exact ⟨a, b, c, rfl⟩
theorem shape_cells {H : Type} {enc : TypeId × Value → H} {w : World} {base : Nat} {sp : Nat → Bool} {held : Bool} {fuel : Nat} {cs : List Value} {A B C : Int} {p : List MemPlace}
    (h : DataW.trod enc Tryz.prog w base sp held fuel 67 cs = some (.agg [.lit (.int .i64 A), .lit (.int .u8 B), .lit (.int .u8 C)], p)) : cs = [.int .i64 A, .int .u8 B, .int .u8 C] := by
  obtain ⟨y0, y1, y2, n, hx, hl, h0, h1, h2⟩ := Go.Deep.trod_struct3 Tryz.underlying67 h
  rw [cellsSh] at hl
  obtain ⟨c0, c1, c2, rfl⟩ := three_of hl
  · simp only [cellsI, cellsB, List.drop_zero, List.drop_succ_cons, List.take_succ_cons, List.take_zero] at h0 h1 h2
    obtain ⟨n0, e0, f0, _⟩ := DataW.trod_int Tryz.underlying3 h0
    obtain ⟨n1, e1, f1, _⟩ := DataW.trod_int Tryz.underlying5 h1
    obtain ⟨n2, e2, f2, _⟩ := DataW.trod_int Tryz.underlying5 h2
    subst f0 f1 f2
    simp only [Prod.mk.injEq, DataW.agg.injEq, List.cons.injEq, DataW.lit.injEq, Lit.int.injEq, true_and, and_true] at hx
    simp only [List.cons.injEq, and_true] at e0 e1 e2
    obtain ⟨⟨r0, r1, r2⟩, _⟩ := hx
    rw [e0, e1, e2, r0, r1, r2]
theorem shapes_cells {H : Type} {enc : TypeId × Value → H} {w : World} {base : Nat} {sp : Nat → Bool} {held : Bool} {fuel : Nat} {cs : List Value} {p : List MemPlace}
    (h : DataW.trod enc Tryz.prog w base sp held fuel 68 cs = some (Rows.laid_lorgnette_utf_shapes, p)) :
    (cs.drop 0).take 3 = [.int .i64 127, .int .u8 0, .int .u8 127] ∧ (cs.drop 3).take 3 = [.int .i64 2047, .int .u8 192, .int .u8 31] ∧ (cs.drop 6).take 3 = [.int .i64 65535, .int .u8 224, .int .u8 15] ∧ (cs.drop 9).take 3 = [.int .i64 1114111, .int .u8 240, .int .u8 7] := by
  cases fuel with
  | zero => simp [DataW.trod] at h
  | succ fuel =>
    simp only [DataW.trod, Tryz.underlying68, cellsSh, cellsShs] at h
    split at h
    · obtain ⟨xs, hm, hx⟩ := Option.map_eq_some_iff.1 h
      have hxs := congrArg Prod.fst hx
      unfold Rows.laid_lorgnette_utf_shapes at hxs
      simp only [DataW.agg.injEq] at hxs
      obtain ⟨b0, hb0, f0⟩ := Lib.mapM_at hm 0 0 (by simp)
      obtain ⟨b1, hb1, f1⟩ := Lib.mapM_at hm 1 1 (by simp)
      obtain ⟨b2, hb2, f2⟩ := Lib.mapM_at hm 2 2 (by simp)
      obtain ⟨b3, hb3, f3⟩ := Lib.mapM_at hm 3 3 (by simp)
      have g0 := congrArg (·[0]?) hxs
      have g1 := congrArg (·[1]?) hxs
      have g2 := congrArg (·[2]?) hxs
      have g3 := congrArg (·[3]?) hxs
      simp [hb0] at g0
      simp [hb1] at g1
      simp [hb2] at g2
      simp [hb3] at g3
      obtain ⟨d0, q0⟩ := b0; obtain ⟨d1, q1⟩ := b1; obtain ⟨d2, q2⟩ := b2; obtain ⟨d3, q3⟩ := b3
      simp only at g0 g1 g2 g3
      subst g0 g1 g2 g3
      exact ⟨shape_cells f0, shape_cells f1, shape_cells f2, shape_cells f3⟩
    · cases h
theorem cellAt {cs : List Value} {j : Nat} {x y z : Value} (h : (cs.drop j).take 3 = [x, y, z]) : cs[j]? = some x ∧ cs[j + 1]? = some y ∧ cs[j + 2]? = some z := by
  have h0 := congrArg (·[0]?) h
  have h1 := congrArg (·[1]?) h
  have h2 := congrArg (·[2]?) h
  simp [List.getElem?_drop] at h0 h1 h2
  exact ⟨h0, h1, h2⟩
theorem cellsS : Tryz.prog.cellsOf 9 = 1 := by kernel_rfl
theorem cells33 : Tryz.prog.cellsOf 116 = 33 := by kernel_rfl
theorem cells15 : Tryz.prog.cellsOf 150 = 15 := by kernel_rfl
/-- one cell of a table of texts -/
theorem str_cell {H : Type} {enc : TypeId × Value → H} {w : World} {base : Nat} {sp : Nat → Bool} {held : Bool} {fuel i : Nat} {cs : List Value} {L : List (List Nat)} {xs : List (DataW H × List MemPlace)} {b : DataW H × List MemPlace} {l : List Nat}
    (hxs : xs.map (·.1) = L.map (fun l => .lit (.string (l.map UInt8.ofNat)))) (hb : xs[i]? = some b) (hl : L[i]? = some l) (f : DataW.trod enc Tryz.prog w base sp held fuel 9 ((cs.drop (i * 1)).take 1) = some b) : cs[i]? = some (.string (tx l)) := by
  obtain ⟨s, h1, h2, _⟩ := DataW.trod_string Tryz.underlying9 f
  have g := congrArg (·[i]?) hxs
  simp only [List.getElem?_map, hb, hl, Option.map_some, Option.some.injEq] at g
  rw [h2] at g
  simp only [DataW.lit.injEq, Lit.string.injEq] at g
  have h3 := congrArg (·[0]?) h1
  simp only [Nat.mul_one, List.getElem?_take, List.getElem?_drop, Nat.add_zero, List.getElem?_cons_zero] at h3
  rw [if_pos (by decide)] at h3
  rw [h3]
  congr 2
  unfold tx
  rcases s with ⟨⟨d⟩⟩
  simp only at g
  rw [g]
theorem signs_cells {H : Type} {enc : TypeId × Value → H} {w : World} {base : Nat} {sp : Nat → Bool} {held : Bool} {fuel : Nat} {cs : List Value} {p : List MemPlace}
    (h : DataW.trod enc Tryz.prog w base sp held fuel 116 cs = some (Rows.laid_lorgnette_lex_signs, p)) : ∀ i, i < 33 → cs[i]? = some (.string (sgT i)) := by
  cases fuel with
  | zero => simp [DataW.trod] at h
  | succ fuel =>
    simp only [DataW.trod, Tryz.underlying116, cellsS, cells33] at h
    split at h
    · obtain ⟨xs, hm, hx⟩ := Option.map_eq_some_iff.1 h
      have hxs := congrArg Prod.fst hx
      have hsp : (Rows.laid_lorgnette_lex_signs : DataW H) = .agg (sgL.map (fun l => .lit (.string (l.map UInt8.ofNat)))) := rfl
      rw [hsp] at hxs
      simp only [DataW.agg.injEq] at hxs
      intro i hi
      obtain ⟨b, hb, f⟩ := Lib.mapM_at hm i i (by simp [hi])
      have h33 : i < sgL.length := hi
      have hl : sgL[i]? = some sgL[i] := List.getElem?_eq_getElem h33
      have := str_cell hxs hb hl f
      rw [this]; unfold sgT; rw [hl]; rfl
    · cases h
theorem words_cells {H : Type} {enc : TypeId × Value → H} {w : World} {base : Nat} {sp : Nat → Bool} {held : Bool} {fuel : Nat} {cs : List Value} {p : List MemPlace}
    (h : DataW.trod enc Tryz.prog w base sp held fuel 150 cs = some (Rows.laid_lorgnette_lex_words, p)) : ∀ i, i < 15 → cs[i]? = some (.string (wdT i)) := by
  cases fuel with
  | zero => simp [DataW.trod] at h
  | succ fuel =>
    simp only [DataW.trod, Tryz.underlying150, cellsS, cells15] at h
    split at h
    · obtain ⟨xs, hm, hx⟩ := Option.map_eq_some_iff.1 h
      have hxs := congrArg Prod.fst hx
      have hsp : (Rows.laid_lorgnette_lex_words : DataW H) = .agg (wdL.map (fun l => .lit (.string (l.map UInt8.ofNat)))) := rfl
      rw [hsp] at hxs
      simp only [DataW.agg.injEq] at hxs
      intro i hi
      obtain ⟨b, hb, f⟩ := Lib.mapM_at hm i i (by simp [hi])
      have h15 : i < wdL.length := hi
      have hl : wdL[i]? = some wdL[i] := List.getElem?_eq_getElem h15
      have := str_cell hxs hb hl f
      rw [this]; unfold wdT; rw [hl]; rfl
    · cases h
theorem one_of {L : List (String × DataW Unit)} {W : World} (h : laidMetH Tryz.prog L W) (n : String) {d : DataW Unit} (he : (L.filter fun x => x.2.handleName?.isNone).filter (fun x => x.1 == n) = [(n, d)]) : laidMet Tryz.prog [(n, d)] W := by
  have h1 := (laidMetH_iff.1 h).1
  have h2 := laidMet.filter (fun x => x.1 == n) h1
  rw [he] at h2
  exact h2
theorem gSg : Tryz.prog.globalNamed "lorgnette/lex.signs" = some 2 := by kernel_rfl
theorem gSgType : (Tryz.prog.globals[2]?).map (·.type) = some 116 := by kernel_rfl
theorem gWd : Tryz.prog.globalNamed "lorgnette/lex.words" = some 4 := by kernel_rfl
theorem gWdType : (Tryz.prog.globals[4]?).map (·.type) = some 150 := by kernel_rfl
theorem sh_of {W : World} (h' : laidMet Tryz.prog [("lorgnette/utf.shapes", Rows.laid_lorgnette_utf_shapes)] W) : Sh W := by
  obtain ⟨ps, ⟨g', t', cs, fuel, p, q, hg', ht', hvar, hd, _, _⟩, _⟩ := h'
  obtain rfl := Option.some.inj (gTab.symm.trans hg')
  obtain rfl := Option.some.inj (gTabType.symm.trans ht')
  obtain ⟨c0, c1, c2, c3⟩ := shapes_cells hd
  obtain ⟨k0, k1, k2⟩ := cellAt c0
  obtain ⟨k3, k4, k5⟩ := cellAt c1
  obtain ⟨k6, k7, k8⟩ := cellAt c2
  obtain ⟨k9, k10, k11⟩ := cellAt c3
  have key : ∀ (i : Nat) (v : Value), cs.toList[i]? = some v → W.cell? ⟨0, i, none⟩ = some v := fun i v hv => by
    have := World.var?_cell gTab hvar i
    rw [this, ← Array.getElem?_toList]
    exact hv
  exact ⟨key _ _ k0, key _ _ k1, key _ _ k2, key _ _ k3, key _ _ k4, key _ _ k5, key _ _ k6, key _ _ k7, key _ _ k8, key _ _ k9, key _ _ k10, key _ _ k11⟩
theorem sg_of {W : World} (h' : laidMet Tryz.prog [("lorgnette/lex.signs", Rows.laid_lorgnette_lex_signs)] W) : Sg W := by
  obtain ⟨ps, ⟨g', t', cs, fuel, p, q, hg', ht', hvar, hd, _, _⟩, _⟩ := h'
  obtain rfl := Option.some.inj (gSg.symm.trans hg')
  obtain rfl := Option.some.inj (gSgType.symm.trans ht')
  have hc := signs_cells hd
  intro i hi
  have := World.var?_cell gSg hvar i
  rw [this, ← Array.getElem?_toList]
  exact hc i hi
theorem wd_of {W : World} (h' : laidMet Tryz.prog [("lorgnette/lex.words", Rows.laid_lorgnette_lex_words)] W) : Wd W := by
  obtain ⟨ps, ⟨g', t', cs, fuel, p, q, hg', ht', hvar, hd, _, _⟩, _⟩ := h'
  obtain rfl := Option.some.inj (gWd.symm.trans hg')
  obtain rfl := Option.some.inj (gWdType.symm.trans ht')
  have hc := words_cells hd
  intro i hi
  have := World.var?_cell gWd hvar i
  rw [this, ← Array.getElem?_toList]
  exact hc i hi
def tabs3 : List (String × DataW Unit) := [("lorgnette/utf.shapes", Rows.laid_lorgnette_utf_shapes), ("lorgnette/lex.signs", Rows.laid_lorgnette_lex_signs), ("lorgnette/lex.words", Rows.laid_lorgnette_lex_words)]
def tabs2 : List (String × DataW Unit) := [("lorgnette/utf.shapes", Rows.laid_lorgnette_utf_shapes), ("lorgnette/lex.signs", Rows.laid_lorgnette_lex_signs)]
theorem table3 {W : World} (h : laidMetH Tryz.prog tabs3 W) : Sh W ∧ Sg W ∧ Wd W :=
  ⟨sh_of (one_of h "lorgnette/utf.shapes" (d := Rows.laid_lorgnette_utf_shapes) (by kernel_rfl)), sg_of (one_of h "lorgnette/lex.signs" (d := Rows.laid_lorgnette_lex_signs) (by kernel_rfl)), wd_of (one_of h "lorgnette/lex.words" (d := Rows.laid_lorgnette_lex_words) (by kernel_rfl))⟩
theorem table2 {W : World} (h : laidMetH Tryz.prog tabs2 W) : Sh W ∧ Sg W :=
  ⟨sh_of (one_of h "lorgnette/utf.shapes" (d := Rows.laid_lorgnette_utf_shapes) (by kernel_rfl)), sg_of (one_of h "lorgnette/lex.signs" (d := Rows.laid_lorgnette_lex_signs) (by kernel_rfl))⟩
def setB (h : Array Obj) (g : Nat) (cs : Array Value) : Array Obj := h.modify g fun
  | .cells _ t frozen => .cells cs t frozen
  | o => o
/-- the cells of a table's data -/
def flatD : Nat → DataW Unit → List Value
  | 0, _ => []
  | _ + 1, .lit (.int k z) => [.int k z]
  | _ + 1, .lit (.string l) => [.string ⟨l.toArray⟩]
  | n + 1, .agg l => l.flatMap (flatD n)
  | _ + 1, _ => []
/-- a world for the witness -/
noncomputable def laidWorld (os : Os) : World :=
  { World.holding Tryz.prog os ⟨#[], #[], []⟩ with heap := setB (setB (setB (World.holding Tryz.prog os ⟨#[], #[], []⟩).heap 0 (flatD 4 Rows.laid_lorgnette_utf_shapes).toArray) 2 (flatD 4 Rows.laid_lorgnette_lex_signs).toArray) 4 (flatD 4 Rows.laid_lorgnette_lex_words).toArray }
/-- the bound of the second form -/
theorem part_le {H : Type} {d : DataW H} {l : List (DataW H)} (h : d ∈ l) : Rows.uptoBulk d ≤ Rows.uptoBulkAll l := by
  induction l with
  | nil => cases h
  | cons x r ih =>
    simp only [Rows.uptoBulkAll]
    cases List.mem_cons.1 h with
    | inl e => subst e; omega
    | inr e => have := ih e; omega
theorem text_le {H : Type} {l : List (DataW H)} {bytes : List UInt8} (hk : Rows.uptoSmall H l = true) (h : DataW.lit (.string bytes) ∈ l) : bytes.length ≤ 1048576 := by
  have h1 := part_le h
  have h2 : Rows.uptoBulkAll l ≤ 1048576 := of_decide_eq_true hk
  simp only [Rows.uptoBulk] at h1
  omega
end Go.Proofs.YtpgiljibicigeaaGreatDoor

/- What every law15 row wants: the tables, the start, the arguments. -/
namespace Go.Proofs.YtpgiljibicigeaaGreatDoor
open Go.ChangeShapes Go.WideShapes Go.ChangeAt Go.RowKit UM LX SX

theorem cells4 : Tryz.prog.cellsOf 97 = 4 := by kernel_rfl
theorem cells92 : Tryz.prog.cellsOf 109 = 92 := by kernel_rfl
theorem four_of {cs : List Value} (h : cs.length = 4) : ∃ a b c d, cs = [a, b, c, d] := by
  match cs, h with
  | [a, b, c, d], _ => exact ⟨a, b, c, d, rfl⟩
theorem two_cells {H : Type} {enc : TypeId × Value → H} {w : World} {base : Nat} {sp : Nat → Bool} {held : Bool} {fuel : Nat} {cs : List Value} {l : List UInt8} {B C D : Int} {p : List MemPlace}
    (h : DataW.trod enc Tryz.prog w base sp held fuel 97 cs = some (.agg [.lit (.string l), .lit (.int .i64 B), .lit (.int .i64 C), .lit (.int .i64 D)], p)) : cs = [.string ⟨l.toArray⟩, .int .i64 B, .int .i64 C, .int .i64 D] := by
  obtain ⟨y0, y1, y2, y3, n, hx, hl, h0, h1, h2, h3⟩ := Go.Joins.trod_struct4 Tryz.underlying97 h
  rw [cells4] at hl
  obtain ⟨c0, c1, c2, c3, rfl⟩ := four_of hl
  simp only [cellsI, cellsS, List.drop_zero, List.drop_succ_cons, List.take_succ_cons, List.take_zero] at h0 h1 h2 h3
  obtain ⟨s, e0, f0, _⟩ := DataW.trod_string Tryz.underlying9 h0
  obtain ⟨n1, e1, f1, _⟩ := DataW.trod_int Tryz.underlying3 h1
  obtain ⟨n2, e2, f2, _⟩ := DataW.trod_int Tryz.underlying3 h2
  obtain ⟨n3, e3, f3, _⟩ := DataW.trod_int Tryz.underlying3 h3
  simp only [Prod.mk.injEq, DataW.agg.injEq, List.cons.injEq, and_true] at hx
  obtain ⟨⟨r0, r1, r2, r3⟩, _⟩ := hx
  rw [f0] at r0
  subst f1 f2 f3
  simp only [DataW.lit.injEq, Lit.int.injEq, Lit.string.injEq, true_and] at r0 r1 r2 r3
  simp only [List.cons.injEq, and_true] at e0 e1 e2 e3
  rw [e0, e1, e2, e3, r0, r1, r2, r3]
theorem sign_cells {H : Type} {enc : TypeId × Value → H} {w : World} {base : Nat} {sp : Nat → Bool} {held : Bool} {fuel : Nat} {cs : List Value} {p : List MemPlace}
    (h : DataW.trod enc Tryz.prog w base sp held fuel 109 cs = some (Rows.laid_lorgnette_syntax_signs, p)) : ∀ (i : Nat) r, sgs[i]? = some r → (cs.drop (i * 4)).take 4 = [.string r.1, .int .i64 (r.2.1 : Int), .int .i64 (r.2.2.1 : Int), .int .i64 (r.2.2.2 : Int)] := by
  cases fuel with
  | zero => simp [DataW.trod] at h
  | succ fuel =>
    simp only [DataW.trod, Tryz.underlying109, cells4, cells92] at h
    split at h
    · obtain ⟨xs, hm, hx⟩ := Option.map_eq_some_iff.1 h
      have hxs := congrArg Prod.fst hx
      have hsp : (Rows.laid_lorgnette_syntax_signs : DataW H) = .agg (sgs.map (fun r => .agg [.lit (.string r.1.data.toList), .lit (.int .i64 (r.2.1 : Int)), .lit (.int .i64 (r.2.2.1 : Int)), .lit (.int .i64 (r.2.2.2 : Int))])) := rfl
      rw [hsp] at hxs
      simp only [DataW.agg.injEq] at hxs
      intro i r hr
      have hi : i < 23 := (List.getElem?_eq_some_iff.1 hr).1
      obtain ⟨b, hb, f⟩ := Lib.mapM_at hm i i (by simp [hi])
      have g := congrArg (·[i]?) hxs
      simp only [List.getElem?_map, hb, hr, Option.map_some, Option.some.injEq] at g
      obtain ⟨b1, b2⟩ := b
      simp only at g
      subst g
      rw [two_cells f]
    · cases h
theorem gSs : Tryz.prog.globalNamed "lorgnette/syntax.signs" = some 1 := by kernel_rfl
theorem gSsType : (Tryz.prog.globals[1]?).map (·.type) = some 109 := by kernel_rfl
theorem ssT_len92 : ssT.length = 92 := by kernel_rfl
theorem ss_of {W : World} (h' : laidMet Tryz.prog [("lorgnette/syntax.signs", Rows.laid_lorgnette_syntax_signs)] W) : Ss W := by
  obtain ⟨ps, ⟨g', t', cs, fuel, p, q, hg', ht', hvar, hd, _, _⟩, _⟩ := h'
  obtain rfl := Option.some.inj (gSs.symm.trans hg')
  obtain rfl := Option.some.inj (gSsType.symm.trans ht')
  have hc := sign_cells hd
  intro j u hj
  have := World.var?_cell gSs hvar j
  rw [this, ← Array.getElem?_toList]
  have hlt : j < 92 := by rw [← ssT_len92]; exact (List.getElem?_eq_some_iff.1 hj).1
  obtain ⟨r, hr⟩ : ∃ r, sgs[j / 4]? = some r := ⟨_, List.getElem?_eq_getElem (show j / 4 < sgs.length by show j / 4 < 23; omega)⟩
  have h4 := hc _ _ hr
  obtain ⟨t0, t1, t2, t3⟩ := ssT_at hr
  have hat : ∀ k, k < 4 → cs.toList[j / 4 * 4 + k]? = [Value.string r.1, .int .i64 (r.2.1 : Int), .int .i64 (r.2.2.1 : Int), .int .i64 (r.2.2.2 : Int)][k]? := fun k hk => by
    rw [← h4, List.getElem?_take, if_pos hk, List.getElem?_drop]
  have hk : j % 4 = 0 ∨ j % 4 = 1 ∨ j % 4 = 2 ∨ j % 4 = 3 := by omega
  rcases hk with e | e | e | e
  · have ej : j = j / 4 * 4 + 0 := by omega
    rw [ej, hat 0 (by decide)]
    rw [Nat.add_zero] at ej
    rw [ej, t0] at hj
    exact hj
  · have ej : j = j / 4 * 4 + 1 := by omega
    rw [ej, t1] at hj
    rw [ej, hat 1 (by decide)]
    exact hj
  · have ej : j = j / 4 * 4 + 2 := by omega
    rw [ej, t2] at hj
    rw [ej, hat 2 (by decide)]
    exact hj
  · have ej : j = j / 4 * 4 + 3 := by omega
    rw [ej, t3] at hj
    rw [ej, hat 3 (by decide)]
    exact hj
theorem gTab15 : Tryz.prog.globalNamed "internal/strconv.uint64pow10" = some 5 := by kernel_rfl
theorem gTabType15 : (Tryz.prog.globals[5]?).map (·.type) = some 158 := by kernel_rfl
/-- the tables that the rows list -/
def tabs7 : List (String × DataW Unit) := [("lorgnette/utf.shapes", Rows.laid_lorgnette_utf_shapes), ("math/bits.deBruijn32tab", Rows.laid_math_bits_deBruijn32tab), ("math/bits.deBruijn64tab", Rows.laid_math_bits_deBruijn64tab), ("internal/strconv.uint64pow10", Rows.laid_internal_strconv_uint64pow10), ("lorgnette/lex.signs", Rows.laid_lorgnette_lex_signs), ("lorgnette/lex.words", Rows.laid_lorgnette_lex_words), ("lorgnette/syntax.signs", Rows.laid_lorgnette_syntax_signs)]
theorem tab_of {W : World} (h : laidMetH Tryz.prog tabs7 W) : Tab W := by
  have h' : laidMet Tryz.prog (("internal/strconv.uint64pow10", Lib.tabData .u64 Lib.pow10Tab) :: []) W := one_of h "internal/strconv.uint64pow10" (d := Rows.laid_internal_strconv_uint64pow10) (by kernel_rfl)
  exact Lib.tabIs_of_head gTab15 gTabType15 Tryz.underlying158 Tryz.underlying149 (by kernel_rfl) (by kernel_rfl) h'
theorem table7 {W : World} (h : laidMetH Tryz.prog tabs7 W) : Sh W ∧ Sg W ∧ TBs W :=
  ⟨sh_of (one_of h "lorgnette/utf.shapes" (d := Rows.laid_lorgnette_utf_shapes) (by kernel_rfl)), sg_of (one_of h "lorgnette/lex.signs" (d := Rows.laid_lorgnette_lex_signs) (by kernel_rfl)), tab_of h, wd_of (one_of h "lorgnette/lex.words" (d := Rows.laid_lorgnette_lex_words) (by kernel_rfl)), ss_of (one_of h "lorgnette/syntax.signs" (d := Rows.laid_lorgnette_syntax_signs) (by kernel_rfl))⟩
/-- a world for the witness -/
noncomputable def laidWorld15 (os : Os) : World :=
  { World.holding Tryz.prog os ⟨#[], #[], []⟩ with heap := setB (setB (setB (setB (setB (setB (setB (World.holding Tryz.prog os ⟨#[], #[], []⟩).heap 0 (flatD 4 Rows.laid_lorgnette_utf_shapes).toArray) 6 (flatD 4 Rows.laid_math_bits_deBruijn32tab).toArray) 7 (flatD 4 Rows.laid_math_bits_deBruijn64tab).toArray) 5 (flatD 4 Rows.laid_internal_strconv_uint64pow10).toArray) 2 (flatD 4 Rows.laid_lorgnette_lex_signs).toArray) 4 (flatD 4 Rows.laid_lorgnette_lex_words).toArray) 1 (flatD 4 Rows.laid_lorgnette_syntax_signs).toArray }
end Go.Proofs.YtpgiljibicigeaaGreatDoor
