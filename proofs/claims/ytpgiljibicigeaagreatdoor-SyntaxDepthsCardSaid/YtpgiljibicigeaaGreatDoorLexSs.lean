/- What every law14 row wants: the tables, the start, the arguments. -/
import Derived.Test.YtpgiljibicigeaaGreatDoorCards
import Derived.Test.YtpgiljibicigeaaGreatDoorTie
import Derived.Test.YtpgiljibicigeaaGreatDoorSynPas
import Derived.ProofKit
import Derived.OpenShut
import Derived.ShutString
import Derived.ChangeOld
import Derived.Deep.DeepHandedRow
import Derived.Lib.LaidTab
import Derived.Lib.SmallJoins
import Derived.Deep.Strs
import Derived.SizedLaws
import Derived.LaidSub
import Derived.Test.YtpgiljibicigeaaGreatDoorLexRisesMs
import Derived.Deep.Slices
import Derived.Deep.RegionHeld3
set_option linter.unusedVariables false
set_option linter.unusedSimpArgs false
namespace Go.Proofs.YtpgiljibicigeaaGreatDoor
open Go.ChangeShapes Go.WideShapes Go.ChangeAt Go.RowKit UM LX

theorem ownK : ownKnob Tryz.prog.godebug = none := by kernel_rfl
theorem laidOut : laidOutB Tryz.prog = true := by kernel_rfl
theorem cellsSh : Tryz.prog.cellsOf 67 = 3 := by kernel_rfl
theorem cellsShs : Tryz.prog.cellsOf 68 = 12 := by kernel_rfl
theorem cellsI : Tryz.prog.cellsOf 3 = 1 := by kernel_rfl
theorem cellsB : Tryz.prog.cellsOf 5 = 1 := by kernel_rfl
theorem gTab : Tryz.prog.globalNamed "lorgnette/utf.shapes" = some 0 := by kernel_rfl
theorem gTabType : (Tryz.prog.globals[0]?).map (·.type) = some 68 := by kernel_rfl

theorem three_of {cs : List Value} (h : cs.length = 3) : ∃ a b c, cs = [a, b, c] := by
  match cs, h with
  | [a, b, c], _ => exact ⟨a, b, c, rfl⟩
theorem shape_cells {H : Type} {enc : TypeId × Value → H} {w : World} {base : Nat} {sp : Nat → Bool} {held : Bool} {fuel : Nat} {cs : List Value} {A B C : Int} {p : List MemPlace}
    (h : DataW.trod enc Tryz.prog w base sp held fuel 67 cs = some (.agg [.lit (.int .i64 A), .lit (.int .u8 B), .lit (.int .u8 C)], p)) : cs = [.int .i64 A, .int .u8 B, .int .u8 C] := by
  obtain ⟨y0, y1, y2, n, hx, hl, h0, h1, h2⟩ := Go.Deep.trod_struct3 Tryz.underlying67 h
  rw [cellsSh] at hl
  obtain ⟨c0, c1, c2, rfl⟩ := three_of hl
  · simp only [cellsI, cellsB, List.drop_zero, List.drop_succ_cons, List.take_succ_cons, List.take_zero] at h0 h1 h2
    obtain ⟨n0, e0, f0, _⟩ := DataW.trod_int Tryz.underlying3 h0
    obtain ⟨n1, e1, f1, _⟩ := DataW.trod_int Tryz.underlying5 h1
    obtain ⟨n2, e2, f2, _⟩ := DataW.trod_int Tryz.underlying5 h2
    subst f0 f1 f2
    simp only [Prod.mk.injEq, DataW.agg.injEq, List.cons.injEq, DataW.lit.injEq, Lit.int.injEq, true_and, and_true] at hx
    simp only [List.cons.injEq, and_true] at e0 e1 e2
    obtain ⟨⟨r0, r1, r2⟩, _⟩ := hx
    rw [e0, e1, e2, r0, r1, r2]
theorem shapes_cells {H : Type} {enc : TypeId × Value → H} {w : World} {base : Nat} {sp : Nat → Bool} {held : Bool} {fuel : Nat} {cs : List Value} {p : List MemPlace}
    (h : DataW.trod enc Tryz.prog w base sp held fuel 68 cs = some (Rows.laid_lorgnette_utf_shapes, p)) :
    (cs.drop 0).take 3 = [.int .i64 127, .int .u8 0, .int .u8 127] ∧ (cs.drop 3).take 3 = [.int .i64 2047, .int .u8 192, .int .u8 31] ∧ (cs.drop 6).take 3 = [.int .i64 65535, .int .u8 224, .int .u8 15] ∧ (cs.drop 9).take 3 = [.int .i64 1114111, .int .u8 240, .int .u8 7] := by
  cases fuel with
  | zero => simp [DataW.trod] at h
  | succ fuel =>
    simp only [DataW.trod, Tryz.underlying68, cellsSh, cellsShs] at h
    split at h
    · obtain ⟨xs, hm, hx⟩ := Option.map_eq_some_iff.1 h
      have hxs := congrArg Prod.fst hx
      unfold Rows.laid_lorgnette_utf_shapes at hxs
      simp only [DataW.agg.injEq] at hxs
      obtain ⟨b0, hb0, f0⟩ := Lib.mapM_at hm 0 0 (by simp)
      obtain ⟨b1, hb1, f1⟩ := Lib.mapM_at hm 1 1 (by simp)
      obtain ⟨b2, hb2, f2⟩ := Lib.mapM_at hm 2 2 (by simp)
      obtain ⟨b3, hb3, f3⟩ := Lib.mapM_at hm 3 3 (by simp)
      have g0 := congrArg (·[0]?) hxs
      have g1 := congrArg (·[1]?) hxs
      have g2 := congrArg (·[2]?) hxs
      have g3 := congrArg (·[3]?) hxs
      simp [hb0] at g0
      simp [hb1] at g1
      simp [hb2] at g2
      simp [hb3] at g3
      obtain ⟨d0, q0⟩ := b0; obtain ⟨d1, q1⟩ := b1; obtain ⟨d2, q2⟩ := b2; obtain ⟨d3, q3⟩ := b3
      simp only at g0 g1 g2 g3
      subst g0 g1 g2 g3
      exact ⟨shape_cells f0, shape_cells f1, shape_cells f2, shape_cells f3⟩
    · cases h
theorem cellAt {cs : List Value} {j : Nat} {x y z : Value} (h : (cs.drop j).take 3 = [x, y, z]) : cs[j]? = some x ∧ cs[j + 1]? = some y ∧ cs[j + 2]? = some z := by
  have h0 := congrArg (·[0]?) h
  have h1 := congrArg (·[1]?) h
  have h2 := congrArg (·[2]?) h
  simp [List.getElem?_drop] at h0 h1 h2
  exact ⟨h0, h1, h2⟩
theorem cellsS : Tryz.prog.cellsOf 9 = 1 := by kernel_rfl
theorem cells33 : Tryz.prog.cellsOf 116 = 33 := by kernel_rfl
theorem cells15 : Tryz.prog.cellsOf 150 = 15 := by kernel_rfl
/-- one cell of a table of texts -/
theorem str_cell {H : Type} {enc : TypeId × Value → H} {w : World} {base : Nat} {sp : Nat → Bool} {held : Bool} {fuel i : Nat} {cs : List Value} {L : List (List Nat)} {xs : List (DataW H × List MemPlace)} {b : DataW H × List MemPlace} {l : List Nat}
    (hxs : xs.map (·.1) = L.map (fun l => .lit (.string (l.map UInt8.ofNat)))) (hb : xs[i]? = some b) (hl : L[i]? = some l) (f : DataW.trod enc Tryz.prog w base sp held fuel 9 ((cs.drop (i * 1)).take 1) = some b) : cs[i]? = some (.string (tx l)) := by
  obtain ⟨s, h1, h2, _⟩ := DataW.trod_string Tryz.underlying9 f
  have g := congrArg (·[i]?) hxs
  simp only [List.getElem?_map, hb, hl, Option.map_some, Option.some.injEq] at g
  rw [h2] at g
  simp only [DataW.lit.injEq, Lit.string.injEq] at g
  have h3 := congrArg (·[0]?) h1
  simp only [Nat.mul_one, List.getElem?_take, List.getElem?_drop, Nat.add_zero, List.getElem?_cons_zero] at h3
  rw [if_pos (by decide)] at h3
  rw [h3]
  congr 2
  unfold tx
  rcases s with ⟨⟨d⟩⟩
  simp only at g
  rw [g]
theorem signs_cells {H : Type} {enc : TypeId × Value → H} {w : World} {base : Nat} {sp : Nat → Bool} {held : Bool} {fuel : Nat} {cs : List Value} {p : List MemPlace}
    (h : DataW.trod enc Tryz.prog w base sp held fuel 116 cs = some (Rows.laid_lorgnette_lex_signs, p)) : ∀ i, i < 33 → cs[i]? = some (.string (sgT i)) := by
  cases fuel with
  | zero => simp [DataW.trod] at h
  | succ fuel =>
    simp only [DataW.trod, Tryz.underlying116, cellsS, cells33] at h
    split at h
    · obtain ⟨xs, hm, hx⟩ := Option.map_eq_some_iff.1 h
      have hxs := congrArg Prod.fst hx
      have hsp : (Rows.laid_lorgnette_lex_signs : DataW H) = .agg (sgL.map (fun l => .lit (.string (l.map UInt8.ofNat)))) := rfl
      rw [hsp] at hxs
      simp only [DataW.agg.injEq] at hxs
      intro i hi
      obtain ⟨b, hb, f⟩ := Lib.mapM_at hm i i (by simp [hi])
      have h33 : i < sgL.length := hi
      have hl : sgL[i]? = some sgL[i] := List.getElem?_eq_getElem h33
      have := str_cell hxs hb hl f
      rw [this]; unfold sgT; rw [hl]; rfl
    · cases h
theorem words_cells {H : Type} {enc : TypeId × Value → H} {w : World} {base : Nat} {sp : Nat → Bool} {held : Bool} {fuel : Nat} {cs : List Value} {p : List MemPlace}
    (h : DataW.trod enc Tryz.prog w base sp held fuel 150 cs = some (Rows.laid_lorgnette_lex_words, p)) : ∀ i, i < 15 → cs[i]? = some (.string (wdT i)) := by
  cases fuel with
  | zero => simp [DataW.trod] at h
  | succ fuel =>
    simp only [DataW.trod, Tryz.underlying150, cellsS, cells15] at h
    split at h
    · obtain ⟨xs, hm, hx⟩ := Option.map_eq_some_iff.1 h
      have hxs := congrArg Prod.fst hx
      have hsp : (Rows.laid_lorgnette_lex_words : DataW H) = .agg (wdL.map (fun l => .lit (.string (l.map UInt8.ofNat)))) := rfl
      rw [hsp] at hxs
      simp only [DataW.agg.injEq] at hxs
      intro i hi
      obtain ⟨b, hb, f⟩ := Lib.mapM_at hm i i (by simp [hi])
      have h15 : i < wdL.length := hi
      have hl : wdL[i]? = some wdL[i] := List.getElem?_eq_getElem h15
      have := str_cell hxs hb hl f
      rw [this]; unfold wdT; rw [hl]; rfl
    · cases h
theorem one_of {L : List (String × DataW Unit)} {W : World} (h : laidMetH Tryz.prog L W) (n : String) {d : DataW Unit} (he : (L.filter fun x => x.2.handleName?.isNone).filter (fun x => x.1 == n) = [(n, d)]) : laidMet Tryz.prog [(n, d)] W := by
  have h1 := (laidMetH_iff.1 h).1
  have h2 := laidMet.filter (fun x => x.1 == n) h1
  rw [he] at h2
  exact h2
theorem gSg : Tryz.prog.globalNamed "lorgnette/lex.signs" = some 2 := by kernel_rfl
theorem gSgType : (Tryz.prog.globals[2]?).map (·.type) = some 116 := by kernel_rfl
theorem gWd : Tryz.prog.globalNamed "lorgnette/lex.words" = some 4 := by kernel_rfl
theorem gWdType : (Tryz.prog.globals[4]?).map (·.type) = some 150 := by kernel_rfl
theorem sh_of {W : World} (h' : laidMet Tryz.prog [("lorgnette/utf.shapes", Rows.laid_lorgnette_utf_shapes)] W) : Sh W := by
  obtain ⟨ps, ⟨g', t', cs, fuel, p, q, hg', ht', hvar, hd, _, _⟩, _⟩ := h'
  obtain rfl := Option.some.inj (gTab.symm.trans hg')
  obtain rfl := Option.some.inj (gTabType.symm.trans ht')
  obtain ⟨c0, c1, c2, c3⟩ := shapes_cells hd
  obtain ⟨k0, k1, k2⟩ := cellAt c0
  obtain ⟨k3, k4, k5⟩ := cellAt c1
  obtain ⟨k6, k7, k8⟩ := cellAt c2
  obtain ⟨k9, k10, k11⟩ := cellAt c3
  have key : ∀ (i : Nat) (v : Value), cs.toList[i]? = some v → W.cell? ⟨0, i, none⟩ = some v := fun i v hv => by
    have := World.var?_cell gTab hvar i
    rw [this, ← Array.getElem?_toList]
    exact hv
  exact ⟨key _ _ k0, key _ _ k1, key _ _ k2, key _ _ k3, key _ _ k4, key _ _ k5, key _ _ k6, key _ _ k7, key _ _ k8, key _ _ k9, key _ _ k10, key _ _ k11⟩
theorem sg_of {W : World} (h' : laidMet Tryz.prog [("lorgnette/lex.signs", Rows.laid_lorgnette_lex_signs)] W) : Sg W := by
  obtain ⟨ps, ⟨g', t', cs, fuel, p, q, hg', ht', hvar, hd, _, _⟩, _⟩ := h'
  obtain rfl := Option.some.inj (gSg.symm.trans hg')
  obtain rfl := Option.some.inj (gSgType.symm.trans ht')
  have hc := signs_cells hd
  intro i hi
  have := World.var?_cell gSg hvar i
  rw [this, ← Array.getElem?_toList]
  exact hc i hi
theorem wd_of {W : World} (h' : laidMet Tryz.prog [("lorgnette/lex.words", Rows.laid_lorgnette_lex_words)] W) : Wd W := by
  obtain ⟨ps, ⟨g', t', cs, fuel, p, q, hg', ht', hvar, hd, _, _⟩, _⟩ := h'
  obtain rfl := Option.some.inj (gWd.symm.trans hg')
  obtain rfl := Option.some.inj (gWdType.symm.trans ht')
  have hc := words_cells hd
  intro i hi
  have := World.var?_cell gWd hvar i
  rw [this, ← Array.getElem?_toList]
  exact hc i hi
def setB (h : Array Obj) (g : Nat) (cs : Array Value) : Array Obj := h.modify g fun
  | .cells _ t frozen => .cells cs t frozen
  | o => o
/-- the cells of a table's data -/
def flatD : Nat → DataW Unit → List Value
  | 0, _ => []
  | _ + 1, .lit (.int k z) => [.int k z]
  | _ + 1, .lit (.string l) => [.string ⟨l.toArray⟩]
  | n + 1, .agg l => l.flatMap (flatD n)
  | _ + 1, _ => []
end Go.Proofs.YtpgiljibicigeaaGreatDoor

/- What every law15 row wants: the tables, the start, the arguments. -/
namespace Go.Proofs.YtpgiljibicigeaaGreatDoor
open Go.ChangeShapes Go.WideShapes Go.ChangeAt Go.RowKit UM LX SX

theorem cells4 : Tryz.prog.cellsOf 97 = 4 := by kernel_rfl
theorem cells92 : Tryz.prog.cellsOf 109 = 92 := by kernel_rfl
theorem four_of {cs : List Value} (h : cs.length = 4) : ∃ a b c d, cs = [a, b, c, d] := by
  match cs, h with
  | [a, b, c, d], _ => exact ⟨a, b, c, d, rfl⟩
theorem two_cells {H : Type} {enc : TypeId × Value → H} {w : World} {base : Nat} {sp : Nat → Bool} {held : Bool} {fuel : Nat} {cs : List Value} {l : List UInt8} {B C D : Int} {p : List MemPlace}
    (h : DataW.trod enc Tryz.prog w base sp held fuel 97 cs = some (.agg [.lit (.string l), .lit (.int .i64 B), .lit (.int .i64 C), .lit (.int .i64 D)], p)) : cs = [.string ⟨l.toArray⟩, .int .i64 B, .int .i64 C, .int .i64 D] := by
  obtain ⟨y0, y1, y2, y3, n, hx, hl, h0, h1, h2, h3⟩ := Go.Joins.trod_struct4 Tryz.underlying97 h
  rw [cells4] at hl
  obtain ⟨c0, c1, c2, c3, rfl⟩ := four_of hl
  simp only [cellsI, cellsS, List.drop_zero, List.drop_succ_cons, List.take_succ_cons, List.take_zero] at h0 h1 h2 h3
  obtain ⟨s, e0, f0, _⟩ := DataW.trod_string Tryz.underlying9 h0
  obtain ⟨n1, e1, f1, _⟩ := DataW.trod_int Tryz.underlying3 h1
  obtain ⟨n2, e2, f2, _⟩ := DataW.trod_int Tryz.underlying3 h2
  obtain ⟨n3, e3, f3, _⟩ := DataW.trod_int Tryz.underlying3 h3
  simp only [Prod.mk.injEq, DataW.agg.injEq, List.cons.injEq, and_true] at hx
  obtain ⟨⟨r0, r1, r2, r3⟩, _⟩ := hx
  rw [f0] at r0
  subst f1 f2 f3
  simp only [DataW.lit.injEq, Lit.int.injEq, Lit.string.injEq, true_and] at r0 r1 r2 r3
  simp only [List.cons.injEq, and_true] at e0 e1 e2 e3
  rw [e0, e1, e2, e3, r0, r1, r2, r3]
theorem sign_cells {H : Type} {enc : TypeId × Value → H} {w : World} {base : Nat} {sp : Nat → Bool} {held : Bool} {fuel : Nat} {cs : List Value} {p : List MemPlace}
    (h : DataW.trod enc Tryz.prog w base sp held fuel 109 cs = some (Rows.laid_lorgnette_syntax_signs, p)) : ∀ (i : Nat) r, sgs[i]? = some r → (cs.drop (i * 4)).take 4 = [.string r.1, .int .i64 (r.2.1 : Int), .int .i64 (r.2.2.1 : Int), .int .i64 (r.2.2.2 : Int)] := by
  cases fuel with
  | zero => simp [DataW.trod] at h
  | succ fuel =>
    simp only [DataW.trod, Tryz.underlying109, cells4, cells92] at h
    split at h
    · obtain ⟨xs, hm, hx⟩ := Option.map_eq_some_iff.1 h
      have hxs := congrArg Prod.fst hx
      have hsp : (Rows.laid_lorgnette_syntax_signs : DataW H) = .agg (sgs.map (fun r => .agg [.lit (.string r.1.data.toList), .lit (.int .i64 (r.2.1 : Int)), .lit (.int .i64 (r.2.2.1 : Int)), .lit (.int .i64 (r.2.2.2 : Int))])) := rfl
      rw [hsp] at hxs
      simp only [DataW.agg.injEq] at hxs
      intro i r hr
      have hi : i < 23 := (List.getElem?_eq_some_iff.1 hr).1
      obtain ⟨b, hb, f⟩ := Lib.mapM_at hm i i (by simp [hi])
      have g := congrArg (·[i]?) hxs
      simp only [List.getElem?_map, hb, hr, Option.map_some, Option.some.injEq] at g
      obtain ⟨b1, b2⟩ := b
      simp only at g
      subst g
      rw [two_cells f]
    · cases h
theorem gSs : Tryz.prog.globalNamed "lorgnette/syntax.signs" = some 1 := by kernel_rfl
theorem gSsType : (Tryz.prog.globals[1]?).map (·.type) = some 109 := by kernel_rfl
theorem ssT_len92 : ssT.length = 92 := by kernel_rfl
theorem ss_of {W : World} (h' : laidMet Tryz.prog [("lorgnette/syntax.signs", Rows.laid_lorgnette_syntax_signs)] W) : Ss W := by
  obtain ⟨ps, ⟨g', t', cs, fuel, p, q, hg', ht', hvar, hd, _, _⟩, _⟩ := h'
  obtain rfl := Option.some.inj (gSs.symm.trans hg')
  obtain rfl := Option.some.inj (gSsType.symm.trans ht')
  have hc := sign_cells hd
  intro j u hj
  have := World.var?_cell gSs hvar j
  rw [this, ← Array.getElem?_toList]
  have hlt : j < 92 := by rw [← ssT_len92]; exact (List.getElem?_eq_some_iff.1 hj).1
  obtain ⟨r, hr⟩ : ∃ r, sgs[j / 4]? = some r := ⟨_, List.getElem?_eq_getElem (show j / 4 < sgs.length by show j / 4 < 23; omega)⟩
  have h4 := hc _ _ hr
  obtain ⟨t0, t1, t2, t3⟩ := ssT_at hr
  have hat : ∀ k, k < 4 → cs.toList[j / 4 * 4 + k]? = [Value.string r.1, .int .i64 (r.2.1 : Int), .int .i64 (r.2.2.1 : Int), .int .i64 (r.2.2.2 : Int)][k]? := fun k hk => by
    rw [← h4, List.getElem?_take, if_pos hk, List.getElem?_drop]
  have hk : j % 4 = 0 ∨ j % 4 = 1 ∨ j % 4 = 2 ∨ j % 4 = 3 := by omega
  rcases hk with e | e | e | e
  · have ej : j = j / 4 * 4 + 0 := by omega
    rw [ej, hat 0 (by decide)]
    rw [Nat.add_zero] at ej
    rw [ej, t0] at hj
    exact hj
  · have ej : j = j / 4 * 4 + 1 := by omega
    rw [ej, t1] at hj
    rw [ej, hat 1 (by decide)]
    exact hj
  · have ej : j = j / 4 * 4 + 2 := by omega
    rw [ej, t2] at hj
    rw [ej, hat 2 (by decide)]
    exact hj
  · have ej : j = j / 4 * 4 + 3 := by omega
    rw [ej, t3] at hj
    rw [ej, hat 3 (by decide)]
    exact hj
theorem gTab15 : Tryz.prog.globalNamed "internal/strconv.uint64pow10" = some 5 := by kernel_rfl
theorem gTabType15 : (Tryz.prog.globals[5]?).map (·.type) = some 158 := by kernel_rfl
/-- the tables that the rows list -/
def tabs7 : List (String × DataW Unit) := [("lorgnette/utf.shapes", Rows.laid_lorgnette_utf_shapes), ("math/bits.deBruijn32tab", Rows.laid_math_bits_deBruijn32tab), ("math/bits.deBruijn64tab", Rows.laid_math_bits_deBruijn64tab), ("internal/strconv.uint64pow10", Rows.laid_internal_strconv_uint64pow10), ("lorgnette/lex.signs", Rows.laid_lorgnette_lex_signs), ("lorgnette/lex.words", Rows.laid_lorgnette_lex_words), ("lorgnette/syntax.signs", Rows.laid_lorgnette_syntax_signs)]
theorem tab_of {W : World} (h : laidMetH Tryz.prog tabs7 W) : Tab W := by
  have h' : laidMet Tryz.prog (("internal/strconv.uint64pow10", Lib.tabData .u64 Lib.pow10Tab) :: []) W := one_of h "internal/strconv.uint64pow10" (d := Rows.laid_internal_strconv_uint64pow10) (by kernel_rfl)
  exact Lib.tabIs_of_head gTab15 gTabType15 Tryz.underlying158 Tryz.underlying149 (by kernel_rfl) (by kernel_rfl) h'
theorem table7 {W : World} (h : laidMetH Tryz.prog tabs7 W) : Sh W ∧ Sg W ∧ TBs W :=
  ⟨sh_of (one_of h "lorgnette/utf.shapes" (d := Rows.laid_lorgnette_utf_shapes) (by kernel_rfl)), sg_of (one_of h "lorgnette/lex.signs" (d := Rows.laid_lorgnette_lex_signs) (by kernel_rfl)), tab_of h, wd_of (one_of h "lorgnette/lex.words" (d := Rows.laid_lorgnette_lex_words) (by kernel_rfl)), ss_of (one_of h "lorgnette/syntax.signs" (d := Rows.laid_lorgnette_syntax_signs) (by kernel_rfl))⟩
/-- a world for the witness -/
noncomputable def laidWorld15 (os : Os) : World :=
  { World.holding Tryz.prog os ⟨#[], #[], []⟩ with heap := setB (setB (setB (setB (setB (setB (setB (World.holding Tryz.prog os ⟨#[], #[], []⟩).heap 0 (flatD 4 Rows.laid_lorgnette_utf_shapes).toArray) 6 (flatD 4 Rows.laid_math_bits_deBruijn32tab).toArray) 7 (flatD 4 Rows.laid_math_bits_deBruijn64tab).toArray) 5 (flatD 4 Rows.laid_internal_strconv_uint64pow10).toArray) 2 (flatD 4 Rows.laid_lorgnette_lex_signs).toArray) 4 (flatD 4 Rows.laid_lorgnette_lex_words).toArray) 1 (flatD 4 Rows.laid_lorgnette_syntax_signs).toArray }
end Go.Proofs.YtpgiljibicigeaaGreatDoor

/- syntax: nodes that came in, as trees; how deep they are, as a function. -/
namespace Go.Proofs.YtpgiljibicigeaaGreatDoor
open Go.ChangeShapes Go.WideShapes Go.ChangeAt Go.RowKit SX

/-- a tree that came in: its kind may be any number -/
inductive An where | mk (kind : Int) (text : ByteArray) (kids : List An)
instance : Inhabited An := ⟨.mk 0 ⟨#[]⟩ []⟩
mutual
/-- the value u is the node that stands for a tree -/
def AN (w : World) : An → Value → Prop
  | .mk k s ks, u => ∃ ao cap, u = .agg #[.int .i64 k, .string s, .slice ao ks.length cap] ∧ ks.length ≤ maxLen ∧ ANs w ks ao 0
def ANs (w : World) : List An → Option Addr → Nat → Prop
  | [], _, _ => True
  | x :: ks, ao, j => (∃ q o c0 c1 c2, ao = some ⟨q, o, none⟩ ∧ w.cell? ⟨q, o + j * 3, none⟩ = some c0 ∧ w.cell? ⟨q, o + j * 3 + 1, none⟩ = some c1 ∧ w.cell? ⟨q, o + j * 3 + 2, none⟩ = some c2 ∧ AN w x (.agg #[c0, c1, c2])) ∧ ANs w ks ao (j + 1)
end
mutual
theorem AN.to {w w' : World} (h : ∀ k, k < w.heap.size → w'.heap[k]? = w.heap[k]?) : ∀ {x : An} {u : Value}, AN w x u → AN w' x u
  | .mk k s ks, u, hp => by
    unfold AN at hp ⊢
    obtain ⟨ao, cap, e, hl, hs⟩ := hp
    exact ⟨ao, cap, e, hl, ANs.to h hs⟩
theorem ANs.to {w w' : World} (h : ∀ k, k < w.heap.size → w'.heap[k]? = w.heap[k]?) : ∀ {ks : List An} {ao : Option Addr} {j : Nat}, ANs w ks ao j → ANs w' ks ao j
  | [], _, _, _ => by unfold ANs; trivial
  | x :: ks, ao, j, hp => by
    unfold ANs at hp ⊢
    obtain ⟨⟨q, o, c0, c1, c2, e, h0, h1, h2, hx⟩, hr⟩ := hp
    have hc : ∀ j, w'.cell? ⟨q, j, none⟩ = w.cell? ⟨q, j, none⟩ := fun j => World.cell?_of_block (w := w) (h q (lt_of_cell h0))
    exact ⟨⟨q, o, c0, c1, c2, e, (hc _).trans h0, (hc _).trans h1, (hc _).trans h2, AN.to h hx⟩, ANs.to h hr⟩
end
theorem AN.be {w w' : World} (hb : Below w.heap.size w w') {x : An} {u : Value} (h : AN w x u) : AN w' x u := AN.to (fun k hk => hb.block k hk) h
theorem ans_mk {w : World} {q o : Nat} : ∀ (ks : List An) (j : Nat), (∀ (i : Nat) (x : An), ks[i]? = some x → ∃ c0 c1 c2, w.cell? ⟨q, o + (j + i) * 3, none⟩ = some c0 ∧ w.cell? ⟨q, o + (j + i) * 3 + 1, none⟩ = some c1 ∧ w.cell? ⟨q, o + (j + i) * 3 + 2, none⟩ = some c2 ∧ AN w x (.agg #[c0, c1, c2])) → ANs w ks (some ⟨q, o, none⟩) j
  | [], _, _ => by unfold ANs; trivial
  | x :: ks, j, h => by
    unfold ANs
    obtain ⟨c0, c1, c2, h0, h1, h2, hx⟩ := h 0 x rfl
    refine ⟨⟨q, o, c0, c1, c2, rfl, h0, h1, h2, hx⟩, ans_mk ks (j + 1) fun i y hy => ?_⟩
    have := h (i + 1) y (by simpa using hy)
    rwa [show j + (i + 1) = j + 1 + i by omega] at this
theorem ANs.get {w : World} {ao : Option Addr} : ∀ {ks : List An} {j i : Nat} {x : An}, ANs w ks ao j → ks[i]? = some x → ∃ q o c0 c1 c2, ao = some ⟨q, o, none⟩ ∧ w.cell? ⟨q, o + (j + i) * 3, none⟩ = some c0 ∧ w.cell? ⟨q, o + (j + i) * 3 + 1, none⟩ = some c1 ∧ w.cell? ⟨q, o + (j + i) * 3 + 2, none⟩ = some c2 ∧ AN w x (.agg #[c0, c1, c2])
  | [], _, _, _, _, h => by simp at h
  | y :: ks, j, 0, x, hp, h => by
    unfold ANs at hp
    obtain rfl : y = x := by simpa using h
    exact hp.1
  | y :: ks, j, i + 1, x, hp, h => by
    unfold ANs at hp
    have := ANs.get hp.2 (i := i) (x := x) (by simpa using h)
    rwa [show j + 1 + i = j + (i + 1) by omega] at this
/-! A tree that the parser told is such a tree. -/
mutual
def toA : Nd → An
  | .mk k s ks => .mk (k : Int) s (toAs ks)
def toAs : List Nd → List An
  | [] => []
  | x :: ks => toA x :: toAs ks
end
theorem toAs_len : ∀ ks : List Nd, (toAs ks).length = ks.length
  | [] => by simp [toAs]
  | x :: ks => by simp [toAs, toAs_len ks]
/-! How deep a tree is, m levels and one at most. -/
def dA : Nat → An → Nat
  | 0, _ => 1
  | m + 1, .mk _ _ ks => ks.foldl (fun d x => max d (dA m x)) 0 + 1
def dAs (m : Nat) (ks : List An) (d : Nat) : Nat := ks.foldl (fun d x => max d (dA m x)) d
theorem dA_succ (m : Nat) (k : Int) (s : ByteArray) (ks : List An) : dA (m + 1) (.mk k s ks) = dAs m ks 0 + 1 := rfl
theorem dAs_cons (m : Nat) (x : An) (ks : List An) (d : Nat) : dAs m (x :: ks) d = dAs m ks (max d (dA m x)) := rfl
theorem dAs_ge (m : Nat) : ∀ (ks : List An) (d : Nat), d ≤ dAs m ks d
  | [], d => Nat.le_refl _
  | x :: ks, d => by rw [dAs_cons]; exact Nat.le_trans (Nat.le_max_left _ _) (dAs_ge m ks _)
theorem dAs_le {m b : Nat} : ∀ {ks : List An} {d : Nat}, d ≤ b → (∀ x ∈ ks, dA m x ≤ b) → dAs m ks d ≤ b
  | [], d, h, _ => h
  | x :: ks, d, h, hx => by
    rw [dAs_cons]
    exact dAs_le (Nat.max_le.2 ⟨h, hx x (by simp)⟩) fun y hy => hx y (by simp [hy])
theorem dA_le : ∀ (m : Nat) (x : An), dA m x ≤ m + 1
  | 0, x => by cases x; exact Nat.le_refl _
  | m + 1, .mk k s ks => by
    rw [dA_succ]
    have := dAs_le (d := 0) (b := m + 1) (ks := ks) (Nat.zero_le _) fun x _ => dA_le m x
    omega
/-- nothing is deeper than may be asked -/
theorem dAs_full {m : Nat} (ks : List An) : dAs m ks (m + 1) = m + 1 :=
  Nat.le_antisymm (dAs_le (Nat.le_refl _) fun x _ => dA_le m x) (dAs_ge m ks _)
mutual
theorem dA_toA : ∀ (m : Nat) (x : Nd), dA m (toA x) ≤ dpt x
  | 0, .mk k s ks => by simp only [dA, dpt]; omega
  | m + 1, .mk k s ks => by
    simp only [toA, dpt]
    rw [dA_succ]
    have := dAs_toA m ks 0
    omega
theorem dAs_toA : ∀ (m : Nat) (ks : List Nd) (d : Nat), dAs m (toAs ks) d ≤ max d (dps ks)
  | m, [], d => by simp only [toAs, dps]; exact Nat.le_max_left _ _
  | m, x :: ks, d => by
    simp only [toAs, dps, dAs_cons]
    have h1 := dA_toA m x
    have h2 := dAs_toA m ks (max d (dA m (toA x)))
    omega
end
/-! What came in is opened. -/
theorem cellsND : Tryz.prog.cellsOf 24 = 3 := by kernel_rfl
theorem cellsSN : Tryz.prog.cellsOf 22 = 1 := by kernel_rfl
theorem spotN {w : World} {a : Addr} {v : Value} (h : w.cell? (a.add 0) = some v) : ∃ b off, a = ⟨b, off, none⟩ := by
  obtain ⟨b, off, s⟩ := a
  cases s with
  | none => exact ⟨b, off, rfl⟩
  | some s =>
    exfalso
    unfold Addr.add World.cell? at h
    split at h <;> simp_all
theorem threeA_of {α : Type} {cs : List α} (h : cs.length = 3) : ∃ a b c, cs = [a, b, c] := by
  match cs, h with
  | [a, b, c], _ => exact ⟨a, b, c, rfl⟩
theorem open_node {H : Type} {enc : TypeId × Value → H} {w : World} {base : Nat} {held : Bool} : ∀ (m fuel : Nat), fuel ≤ m → ∀ {cs : List Value} {x : DataW H × List MemPlace},
    DataW.trod enc Tryz.prog w base (fun _ => true) held fuel 24 cs = some x → ∃ c0 c1 c2 T, cs = [c0, c1, c2] ∧ AN w T (.agg #[c0, c1, c2])
  | 0, fuel, hfu, cs, x, h => by
    obtain rfl : fuel = 0 := by omega
    simp [DataW.trod] at h
  | m + 1, fuel, hfu, cs, x, h => by
    obtain ⟨xs, n, rfl, _, hl, hlen, hf⟩ := DataW.trod_struct Tryz.underlying24 h
    rw [cellsND] at hl
    obtain ⟨c0, c1, c2, rfl⟩ := threeA_of hl
    obtain ⟨y0, y1, y2, rfl⟩ := threeA_of (α := DataW H × List MemPlace) (show xs.length = 3 from hlen)
    clear hl hlen
    · -- one
      have h0 : DataW.trod enc Tryz.prog w base (fun _ => true) held n 3 [c0] = some y0 := by have := hf 0 _ rfl; simpa [cellsI] using this
      have h1 : DataW.trod enc Tryz.prog w base (fun _ => true) held n 9 [c1] = some y1 := by have := hf 1 _ rfl; simpa [cellsS] using this
      have h2 : DataW.trod enc Tryz.prog w base (fun _ => true) held n 22 [c2] = some y2 := by have := hf 2 _ rfl; simpa [cellsSN] using this
      obtain ⟨k, e0, _, _⟩ := DataW.trod_int Tryz.underlying3 h0
      obtain ⟨s, e1, _, _⟩ := DataW.trod_string Tryz.underlying9 h1
      simp only [List.cons.injEq, and_true] at e0 e1
      subst e0 e1
      rcases DataW.trod_slice Tryz.underlying22 h2 with ⟨e2, _⟩ | ⟨a, len, cap, elems, rest, n2, hn, e2, _, _, hlc, hcm, hel, hat, _, _⟩
      · simp only [List.cons.injEq, and_true] at e2
        subst e2
        refine ⟨_, _, _, .mk k s [], rfl, ?_⟩
        unfold AN
        exact ⟨none, 0, rfl, Nat.zero_le _, by unfold ANs; trivial⟩
      · simp only [List.cons.injEq, and_true] at e2
        subst e2
        have each : ∀ i, i < len → ∃ T : An, ∃ c0 c1 c2, w.cell? (a.add (i * 3)) = some c0 ∧ w.cell? (a.add (i * 3 + 1)) = some c1 ∧ w.cell? (a.add (i * 3 + 2)) = some c2 ∧ AN w T (.agg #[c0, c1, c2]) := fun i hi => by
          have g := hat i hi
          rw [List.getElem?_eq_getElem (by omega), cellsND] at g
          obtain ⟨cs', hc, ht⟩ := Option.bind_eq_some_iff.1 g
          obtain ⟨d0, d1, d2, T, rfl, hT⟩ := open_node m n2 (by omega) ht
          obtain ⟨_, _, hk⟩ := World.cells?_some hc
          have k0 := hk 0 (by omega)
          have k1 := hk 1 (by omega)
          have k2 := hk 2 (by omega)
          rw [Go.Deep.add_add] at k0 k1 k2
          exact ⟨T, d0, d1, d2, k0, k1, k2, hT⟩
        obtain ⟨f, hfT⟩ := Go.Deep.choose_lt each
        have hlen2 : ((List.range len).map f).length = len := by simp
        refine ⟨_, _, _, .mk k s ((List.range len).map f), rfl, ?_⟩
        unfold AN
        refine ⟨some a, cap, by rw [hlen2], by omega, ?_⟩
        by_cases h0l : len = 0
        · subst h0l; simp only [List.range_zero, List.map_nil]; unfold ANs; trivial
        · obtain ⟨_, _, _, g0, _⟩ := hfT 0 (by omega)
          obtain ⟨b, off, rfl⟩ := spotN (by simpa using g0)
          refine ans_mk _ 0 fun i x hx => ?_
          have hi : i < len := by have := (List.getElem?_eq_some_iff.1 hx).1; rwa [hlen2] at this
          have hy : f i = x := by simpa [hi] using hx
          subst hy
          obtain ⟨d0, d1, d2, k0, k1, k2, hT⟩ := hfT i hi
          have e : ∀ n, (⟨b, off, none⟩ : Addr).add n = ⟨b, off + n, none⟩ := fun n => by unfold Addr.add; split <;> simp_all
          rw [e] at k0 k1 k2
          rw [Nat.zero_add]
          exact ⟨d0, d1, d2, k0, k1, k2, hT⟩
set_option maxRecDepth 100000 in
theorem open_nodeT {H : Type} {enc : TypeId × Value → H} {W : World} {base : Nat} {v : Value} {d : DataW H} {p : List MemPlace} (hv : Value.okWide Tryz.prog W .any base 24 v)
    (h : DataW.Trod enc Tryz.prog W 0 (fun _ => true) true 24 v d p) : ∃ T, AN W T v := by
  obtain ⟨cs, rfl, hsz⟩ := okWide_struct Tryz.underlying24 hv
  obtain ⟨fuel, hf⟩ := h
  obtain ⟨c0, c1, c2, T, hcs, hT⟩ := open_node fuel fuel (Nat.le_refl _) hf
  have e : cs.toList = [c0, c1, c2] := by simpa [Value.cells] using hcs
  obtain rfl : cs = #[c0, c1, c2] := by cases cs; simpa using e
  exact ⟨T, hT⟩
mutual
theorem ND.an {w : World} {A : Nat → Prop} : ∀ {x : Nd} {u : Value}, siz x ≤ 100000000 → ND w A x u → AN w (toA x) u
  | .mk k s ks, u, h, hn => by
    unfold ND at hn
    obtain ⟨ao, cap, rfl, hs⟩ := hn
    have hl := len_szs ks
    simp only [siz] at h
    simp only [toA]
    unfold AN
    exact ⟨ao, cap, by rw [toAs_len], by rw [toAs_len]; unfold maxLen; omega, NDs.an (by omega) hs⟩
theorem NDs.an {w : World} {A : Nat → Prop} : ∀ {ks : List Nd} {ao : Option Addr} {j : Nat}, szs ks ≤ 100000000 → NDs w A ks ao j → ANs w (toAs ks) ao j
  | [], _, _, _, _ => by simp only [toAs]; unfold ANs; trivial
  | x :: ks, ao, j, h, hn => by
    unfold NDs at hn
    obtain ⟨⟨q, c0, c1, c2, e, _, h0, h1, h2, hx⟩, hr⟩ := hn
    simp only [szs] at h
    simp only [toAs]
    unfold ANs
    exact ⟨⟨q, 0, c0, c1, c2, e, by rw [Nat.zero_add]; exact h0, by rw [Nat.zero_add]; exact h1, by rw [Nat.zero_add]; exact h2, ND.an (by omega) hx⟩, NDs.an (by omega) hr⟩
end
end Go.Proofs.YtpgiljibicigeaaGreatDoor

/- syntax: depthUpTo walked. -/
namespace Go.Proofs.YtpgiljibicigeaaGreatDoor
open Go.RowKit SX

/-- the greatest of the kids' depths, m levels being asked at most -/
def gA : Nat → List An → Nat → Nat
  | 0, _, d => d
  | m + 1, ks, d => dAs m ks d
theorem dA_gA (m : Nat) (k : Int) (s : ByteArray) (ks : List An) : dA m (.mk k s ks) = gA m ks 0 + 1 := by
  cases m <;> rfl
theorem gA_nil (m d : Nat) : gA m [] d = d := by cases m <;> rfl
theorem gA_full (m : Nat) (ks : List An) : gA m ks m = m := by
  cases m with
  | zero => rfl
  | succ m => exact dAs_full ks
theorem gA_cons (m : Nat) (x : An) (ks : List An) (d : Nat) : gA (m + 1) (x :: ks) d = gA (m + 1) ks (max d (dA m x)) := rfl

set_option maxRecDepth 100000 in
set_option maxHeartbeats 8000000 in
theorem depthD (m : Nat) (hm : m ≤ 1000) (IH : Hid (∀ m', m = m' + 1 → ∀ (x : An) (w : World) (u : Value), AN w x u → Calls Tryz.prog 17 #[u, .int .i64 (m : Int)] w fun e w' => e = .returned (.int .i64 (dA m' x : Int)) ∧ Below w.heap.size w w')) (k : Int) (s : ByteArray) (ks : List An) (w : World) (u : Value) (hn : AN w (.mk k s ks) u) :
    Calls Tryz.prog 17 #[u, .int .i64 ((m : Int) + 1)] w fun e w' => e = .returned (.int .i64 ((gA m ks 0 : Int) + 1)) ∧ Below w.heap.size w w' := by
  unfold AN at hn
  obtain ⟨ao, cap, rfl, hkl, hs⟩ := hn
  obtain ⟨nb, hnb⟩ : ∃ n, w.heap.size = n := ⟨_, rfl⟩
  obtain ⟨w1, hw1⟩ : ∃ W, w.alloc (.cells #[.int .i64 k, .string s, .slice ao ks.length cap] 24) = W := ⟨_, rfl⟩
  have hb1 : Below nb w w1 := by rw [← hw1]; exact (Below.refl _ _).alloc (by omega) _
  have k2 : w1.cell? ⟨nb, 2, none⟩ = some (.slice ao ks.length cap) := by rw [← hw1]; exact cell_new hnb.symm
  have HB1 : Hid (Below nb w w1 ∧ w1.heap.size = nb + 1) := Lib.hid ⟨hb1, by rw [← hw1, ← hnb]; simp⟩
  have HKL := Lib.hid hkl
  have HM := Lib.hid hm
  have HS := Lib.hid hs; have HW1 := Lib.hid hw1; have HNB := Lib.hid hnb
  have e0 : wrap64 (m : Int) = (m : Int) := by rw [← IntWalk.i64_left]; exact IntWalk.i64_in _ (by omega)
  clear hs hw1 hnb hb1 hkl hm
  go_enter Tryz.func17, Tryz.ntmps17
  go_wp2_with fail
  rw [HW1.out, HNB.out]
  go_wp2_with fail
  go_loopg [5, 11] ks.length (fun gk s5 s11 wr => ∃ (i d : Nat), i + gk = ks.length ∧ s5 = .int .i64 (d : Int) ∧ s11 = .int .i64 (i : Int) ∧ Hid (d ≤ m ∧ gA m (ks.drop i) d = gA m ks 0) ∧ Hid (Below (nb + 1) w1 wr))
  case atStart => exact ⟨0, 0, by omega, rfl, rfl, Lib.hid ⟨Nat.zero_le _, by rw [List.drop_zero]⟩, Lib.hid (Below.refl _ _)⟩
  case round =>
    obtain ⟨i, d, hi, rfl, rfl, HD, HB⟩ := hrel
    have e1 : wrap64 ((d : Int) + 1) = (d : Int) + 1 := by have := HD.out.1; have := HM.out; rw [← IntWalk.i64_left]; exact IntWalk.i64_in _ (by omega)
    by_cases hlt : i < ks.length
    · obtain ⟨f, rfl⟩ : ∃ f, gk = f + 1 := ⟨gk - 1, by omega⟩
      have hltI : (i : Int) < (ks.length : Int) := by omega
      have hib : (i : Int) ≤ 9223372036854775806 := by have := HKL.out; unfold maxLen at this; omega
      obtain ⟨x, hx⟩ : ∃ x, ks[i]? = some x := ⟨_, List.getElem?_eq_getElem hlt⟩
      obtain ⟨q, o, c0, c1, c2, rfl, h0, h1, h2, hnx⟩ := HS.out.get hx
      rw [Nat.zero_add] at h0 h1 h2
      have hnx2 := hnx
      obtain ⟨kx, sx, jx⟩ := x
      unfold AN at hnx2
      obtain ⟨ax, cx, ex, _⟩ := hnx2
      simp only [Value.agg.injEq, Array.mk.injEq, List.cons.injEq, and_true] at ex
      obtain ⟨rfl, rfl, rfl⟩ := ex
      have hql := lt_of_cell h0
      simp only [HNB.out] at hql
      have hbw : Below nb w wr := HB1.out.1.trans (HB.out.mono (by omega))
      have j0 : wr.cell? ⟨q, o + i * 3, none⟩ = some (.int .i64 kx) := (hbw.cell (p := ⟨q, o + i * 3, none⟩) hql).trans h0
      have j1 : wr.cell? ⟨q, o + i * 3 + 1, none⟩ = some (.string sx) := (hbw.cell (p := ⟨q, o + i * 3 + 1, none⟩) hql).trans h1
      have j2 : wr.cell? ⟨q, o + i * 3 + 2, none⟩ = some (.slice ax jx.length cx) := (hbw.cell (p := ⟨q, o + i * 3 + 2, none⟩) hql).trans h2
      have hdr : ks.drop i = .mk kx sx jx :: ks.drop (i + 1) := (List.drop_eq_getElem_cons hlt).trans (by rw [(List.getElem?_eq_some_iff.1 hx).2])
      by_cases hdm : d = m
      · have hdI : ((d : Int) == (m : Int)) = true := by rw [beq_iff_eq]; omega
        have HDM := Lib.hid hdm
        clear hdm h0 h1 h2 hnx hx hql hbw hlt hi hdr
        have HGM : Hid (gA m ks 0 = m) := Lib.hid (by rw [← HD.out.2, HDM.out, gA_full])
        have HBE : Hid (Below w.heap.size w wr) := Lib.hid (by rw [HNB.out]; exact HB1.out.1.trans (HB.out.mono (by omega)))
        go_wp2
        go_ret
        exact ⟨by show Ending.returned (Value.int .i64 (wrap64 ((d : Int) + 1))) = _; rw [e1, HGM.out, HDM.out], HBE.out.trans ((Below.refl _ _).alloc HBE.out.size _)⟩
      · obtain ⟨m', hm'⟩ : ∃ m', m = m' + 1 := ⟨m - 1, by have := HD.out.1; omega⟩
        have hdI : ((d : Int) == (m : Int)) = false := by rw [beq_eq_false_iff_ne]; omega
        have HC := Lib.hid (fun W (hb : Below wr.heap.size wr W) => IH.out m' hm' (.mk kx sx jx) W _ (AN.be hb (AN.to (fun k hk => hbw.block k (by rw [← HNB.out]; exact hk)) hnx)))
        have HX := Lib.hid hx; have HI := Lib.hid hi; have HMM := Lib.hid hm'; have HDR := Lib.hid hdr
        have HWS : Hid (nb + 1 ≤ wr.heap.size) := Lib.hid (by have := HB.out.size; have := HB1.out.2; omega)
        clear hdm h0 h1 h2 hnx hx hql hbw hlt hi hdr hm'
        go_wp2_with fail
        obtain ⟨W, hW⟩ : ∃ W, wr.alloc (.cells #[.int .i64 kx, .string sx, .slice ax jx.length cx] 24) = W := ⟨_, rfl⟩
        have hbW : Below wr.heap.size wr W := by rw [← hW]; exact (Below.refl _ _).alloc (Nat.le_refl _) _
        rw [hW]
        refine (HC.out W hbW).mono ?_
        rintro e w4 ⟨rfl, hb⟩
        have HB4 : Hid (Below (nb + 1) w1 w4) := Lib.hid (HB.out.trans ((hbW.trans (hb.mono hbW.size)).mono HWS.out))
        have HY := Lib.hid (dA_le m' (.mk kx sx jx))
        have HN : Hid (gA m (ks.drop (i + 1)) (max d (dA m' (.mk kx sx jx))) = gA m ks 0) := Lib.hid (by rw [← HD.out.2, HDR.out, HMM.out, gA_cons])
        generalize dA m' (.mk kx sx jx) = y at *
        clear hb hbW hW HC
        go_wp2
        go_roundg f
        case measure => omega
        case rel => exact ⟨i + 1, max d y, by have := HI.out; omega, by rw [show ((max d y : Nat) : Int) = max (d : Int) (y : Int) by omega], rfl, Lib.hid ⟨by have := HY.out; have := HMM.out; have := HD.out.1; omega, HN.out⟩, HB4⟩
    · have hltI : ¬ (i : Int) < (ks.length : Int) := by omega
      have HI : Hid (i = ks.length) := Lib.hid (by omega)
      have HG : Hid (gA m ks 0 = d) := Lib.hid (by rw [← HD.out.2, HI.out, List.drop_length, gA_nil])
      clear hlt
      go_wp2
      go_ret
      exact ⟨by rw [HG.out]; rfl, by rw [HNB.out]; exact HB1.out.1.trans (HB.out.mono (by omega))⟩
theorem depthUpTo_any : ∀ (m : Nat), m ≤ 1000 → ∀ (x : An) (w : World) (u : Value), AN w x u → Calls Tryz.prog 17 #[u, .int .i64 ((m : Int) + 1)] w fun e w' => e = .returned (.int .i64 (dA m x : Int)) ∧ Below w.heap.size w w'
  | 0, hm, .mk k s ks, w, u, hn => by
    refine (depthD 0 hm (Lib.hid (fun m' h => by omega)) k s ks w u hn).mono fun e w' h => ?_
    rw [dA_gA]
    exact ⟨h.1.trans (by rw [show ((gA 0 ks 0 + 1 : Nat) : Int) = (gA 0 ks 0 : Int) + 1 by omega]), h.2⟩
  | m + 1, hm, .mk k s ks, w, u, hn => by
    refine (depthD (m + 1) hm (Lib.hid (fun m' h x w u hn => ?_)) k s ks w u hn).mono fun e w' h => ?_
    · obtain rfl : m = m' := by omega
      have := depthUpTo_any m (by omega) x w u hn
      rwa [show ((m + 1 : Nat) : Int) = (m : Int) + 1 by omega]
    · rw [dA_gA]
      exact ⟨h.1.trans (by rw [show ((gA (m + 1) ks 0 + 1 : Nat) : Int) = (gA (m + 1) ks 0 : Int) + 1 by omega]), h.2⟩
/-- syntax.Depth -/
theorem Depth_any (x : An) (w : World) (u : Value) (hn : AN w x u) : Calls Tryz.prog 10 #[u] w fun e w' => e = .returned (.int .i64 (dA 200 x : Int)) ∧ Below w.heap.size w w' := by
  have HN := Lib.hid hn
  obtain ⟨k, s, ks⟩ := x
  unfold AN at hn
  obtain ⟨ao, cap, rfl, hkl, hs⟩ := hn
  obtain ⟨w1, hw1⟩ : ∃ W, w.alloc (.cells #[.int .i64 k, .string s, .slice ao ks.length cap] 24) = W := ⟨_, rfl⟩
  have hb1 : Below w.heap.size w w1 := by rw [← hw1]; exact (Below.refl _ _).alloc (Nat.le_refl _) _
  have k0 : w1.cell? ⟨w.heap.size, 0, none⟩ = some (.int .i64 k) := by rw [← hw1]; exact cell_new (W := w) rfl
  have k1 : w1.cell? ⟨w.heap.size, 1, none⟩ = some (.string s) := by rw [← hw1]; exact cell_new (W := w) rfl
  have k2 : w1.cell? ⟨w.heap.size, 2, none⟩ = some (.slice ao ks.length cap) := by rw [← hw1]; exact cell_new (W := w) rfl
  have HC := Lib.hid (depthUpTo_any 200 (by omega) (.mk k s ks) w1 _ (AN.be hb1 HN.out))
  have HW1 := Lib.hid hw1; have HB1 := Lib.hid hb1
  clear hs hkl hw1 hb1 HN
  go_enter Tryz.func10, Tryz.ntmps10
  go_wp2_with fail
  rw [HW1.out]
  go_wp2_with fail
  refine HC.out.mono ?_
  rintro e w4 ⟨rfl, hb⟩
  have HB4 := Lib.hid (HB1.out.trans (hb.mono HB1.out.size))
  clear hb HC
  go_wp2
  go_ret
  exact ⟨rfl, HB4.out⟩
end Go.Proofs.YtpgiljibicigeaaGreatDoor

/- syntax: the document's Depth walked. -/
namespace Go.Proofs.YtpgiljibicigeaaGreatDoor
open Go.RowKit SX

set_option maxRecDepth 100000 in
set_option maxHeartbeats 8000000 in
theorem rdepthD (m : Nat) (hm : m ≤ 1000) (IH : Hid (∀ (x : An) (w : World) (u : Value), AN w x u → Calls Tryz.prog 11 #[u, .int .i64 (m : Int)] w fun e w' => e = .returned (.int .i64 (dA m x : Int)) ∧ Below w.heap.size w w')) (k : Int) (s : ByteArray) (ks : List An) (w : World) (u : Value) (hn : AN w (.mk k s ks) u) :
    Calls Tryz.prog 11 #[u, .int .i64 ((m : Int) + 1)] w fun e w' => e = .returned (.int .i64 ((dAs m ks 0 : Int) + 1)) ∧ Below w.heap.size w w' := by
  unfold AN at hn
  obtain ⟨ao, cap, rfl, hkl, hs⟩ := hn
  obtain ⟨nb, hnb⟩ : ∃ n, w.heap.size = n := ⟨_, rfl⟩
  obtain ⟨w1, hw1⟩ : ∃ W, w.alloc (.cells #[.int .i64 k, .string s, .slice ao ks.length cap] 24) = W := ⟨_, rfl⟩
  have hb1 : Below nb w w1 := by rw [← hw1]; exact (Below.refl _ _).alloc (by omega) _
  have k2 : w1.cell? ⟨nb, 2, none⟩ = some (.slice ao ks.length cap) := by rw [← hw1]; exact cell_new hnb.symm
  have HB1 : Hid (Below nb w w1 ∧ w1.heap.size = nb + 1) := Lib.hid ⟨hb1, by rw [← hw1, ← hnb]; simp⟩
  have HK2 := Lib.hid k2
  have HKL := Lib.hid hkl
  have HM := Lib.hid hm
  have HS := Lib.hid hs; have HW1 := Lib.hid hw1; have HNB := Lib.hid hnb
  have e0 : wrap64 (m : Int) = (m : Int) := by rw [← IntWalk.i64_left]; exact IntWalk.i64_in _ (by omega)
  have en : ((m : Int) + 1 == 0) = false := by rw [beq_eq_false_iff_ne]; omega
  clear hs hw1 hnb hb1 hkl hm
  go_enter Tryz.func11, Tryz.ntmps11
  go_wp2_with fail
  rw [HW1.out, HNB.out]
  go_wp2_with fail
  go_loopg [5, 6] ks.length (fun gk s5 s6 wr => ∃ (i d : Nat), i + gk = ks.length ∧ s5 = .int .i64 (d : Int) ∧ s6 = .int .i64 (i : Int) ∧ Hid (d ≤ m + 1 ∧ dAs m (ks.drop i) d = dAs m ks 0) ∧ Hid (Below (nb + 1) w1 wr))
  case atStart => exact ⟨0, 0, by omega, rfl, rfl, Lib.hid ⟨Nat.zero_le _, by rw [List.drop_zero]⟩, Lib.hid (Below.refl _ _)⟩
  case round =>
    obtain ⟨i, d, hi, rfl, rfl, HD, HB⟩ := hrel
    have m2 : wr.cell? ⟨nb, 2, none⟩ = some (.slice ao ks.length cap) := (HB.out.cell (p := ⟨nb, 2, none⟩) (Nat.lt_succ_self _)).trans HK2.out
    have e1 : wrap64 ((d : Int) + 1) = (d : Int) + 1 := by have := HD.out.1; have := HM.out; rw [← IntWalk.i64_left]; exact IntWalk.i64_in _ (by omega)
    by_cases hlt : i < ks.length
    · obtain ⟨f, rfl⟩ : ∃ f, gk = f + 1 := ⟨gk - 1, by omega⟩
      have hltI : (i : Int) < (ks.length : Int) := by omega
      have hib : (i : Int) ≤ 9223372036854775806 := by have := HKL.out; unfold maxLen at this; omega
      obtain ⟨x, hx⟩ : ∃ x, ks[i]? = some x := ⟨_, List.getElem?_eq_getElem hlt⟩
      obtain ⟨q, o, c0, c1, c2, rfl, h0, h1, h2, hnx⟩ := HS.out.get hx
      rw [Nat.zero_add] at h0 h1 h2
      have hql := lt_of_cell h0
      simp only [HNB.out] at hql
      have hbw : Below nb w wr := HB1.out.1.trans (HB.out.mono (by omega))
      have j0 : wr.cell? ⟨q, o + i * 3, none⟩ = some c0 := (hbw.cell (p := ⟨q, o + i * 3, none⟩) hql).trans h0
      have j1 : wr.cell? ⟨q, o + i * 3 + 1, none⟩ = some c1 := (hbw.cell (p := ⟨q, o + i * 3 + 1, none⟩) hql).trans h1
      have j2 : wr.cell? ⟨q, o + i * 3 + 2, none⟩ = some c2 := (hbw.cell (p := ⟨q, o + i * 3 + 2, none⟩) hql).trans h2
      have hdr : ks.drop i = x :: ks.drop (i + 1) := (List.drop_eq_getElem_cons hlt).trans (by rw [(List.getElem?_eq_some_iff.1 hx).2])
      have HC := Lib.hid (IH.out x wr (.agg #[c0, c1, c2]) (AN.to (fun k hk => hbw.block k (by rw [← HNB.out]; exact hk)) hnx))
      have HI := Lib.hid hi; have HDR := Lib.hid hdr
      have HWS : Hid (nb + 1 ≤ wr.heap.size) := Lib.hid (by have := HB.out.size; have := HB1.out.2; omega)
      clear h0 h1 h2 hnx hx hql hbw hlt hi hdr
      go_wp2_with fail
      refine HC.out.mono ?_
      rintro e w4 ⟨rfl, hb⟩
      have HB4 : Hid (Below (nb + 1) w1 w4) := Lib.hid (HB.out.trans (hb.mono HWS.out))
      have HY := Lib.hid (dA_le m x)
      have HN : Hid (dAs m (ks.drop (i + 1)) (max d (dA m x)) = dAs m ks 0) := Lib.hid (by rw [← HD.out.2, HDR.out, dAs_cons])
      generalize dA m x = y at *
      clear hb HC
      by_cases hyd : d < y
      · have h1 : (d : Int) < (y : Int) := by omega
        have HYD := Lib.hid hyd
        clear hyd
        go_wp2
        go_roundg f
        case measure => omega
        case rel => exact ⟨i + 1, y, by have := HI.out; omega, rfl, rfl, Lib.hid ⟨HY.out, by have := HN.out; rwa [Nat.max_eq_right (Nat.le_of_lt HYD.out)] at this⟩, HB4⟩
      · have h1 : ¬ (d : Int) < (y : Int) := by omega
        have HYD := Lib.hid hyd
        clear hyd
        go_wp2
        go_roundg f
        case measure => omega
        case rel => exact ⟨i + 1, d, by have := HI.out; omega, rfl, rfl, Lib.hid ⟨HD.out.1, by have := HN.out; rwa [Nat.max_eq_left (by have := HYD.out; omega)] at this⟩, HB4⟩
    · have hltI : ¬ (i : Int) < (ks.length : Int) := by omega
      have HI : Hid (i = ks.length) := Lib.hid (by omega)
      have HG : Hid (dAs m ks 0 = d) := Lib.hid (by rw [← HD.out.2, HI.out, List.drop_length]; rfl)
      clear hlt
      go_wp2
      go_ret
      exact ⟨by rw [HG.out]; rfl, by rw [HNB.out]; exact HB1.out.1.trans (HB.out.mono (by omega))⟩
set_option maxRecDepth 100000 in
theorem rdepth0 (k : Int) (s : ByteArray) (ks : List An) (w : World) (u : Value) (hn : AN w (.mk k s ks) u) :
    Calls Tryz.prog 11 #[u, .int .i64 0] w fun e w' => e = .returned (.int .i64 1) ∧ Below w.heap.size w w' := by
  unfold AN at hn
  obtain ⟨ao, cap, rfl, hkl, hs⟩ := hn
  clear hkl hs
  go_enter Tryz.func11, Tryz.ntmps11
  go_wp2
  go_ret
  exact ⟨rfl, (Below.refl _ _).alloc (Nat.le_refl _) _⟩
theorem rDepth_any : ∀ (m : Nat), m ≤ 1000 → ∀ (x : An) (w : World) (u : Value), AN w x u → Calls Tryz.prog 11 #[u, .int .i64 (m : Int)] w fun e w' => e = .returned (.int .i64 (dA m x : Int)) ∧ Below w.heap.size w w'
  | 0, _, .mk k s ks, w, u, hn => rdepth0 k s ks w u hn
  | m + 1, hm, .mk k s ks, w, u, hn => by
    have := rdepthD m (by omega) (Lib.hid (rDepth_any m (by omega))) k s ks w u hn
    rw [show ((m + 1 : Nat) : Int) = (m : Int) + 1 by omega]
    refine this.mono fun e w' h => ⟨h.1.trans ?_, h.2⟩
    rw [dA_succ, show ((dAs m ks 0 + 1 : Nat) : Int) = (dAs m ks 0 : Int) + 1 by omega]
end Go.Proofs.YtpgiljibicigeaaGreatDoor

/- the law SyntaxPlaces walked. -/
namespace Go.Proofs.YtpgiljibicigeaaGreatDoor
open Go.RowKit UM QM LX SX

theorem parF_ok {s : ByteArray} {x : Nd} {j : Nat} (h : parF s = .ok x j) : dpt x ≤ 200 ∧ siz x ≤ 44739242 ∧ rgt x = true := by
  unfold parF at h
  split at h
  · rename_i h0
    have hq := allF_iv (evS_ok s h0).q
    cases hR : allF (evS s) with
    | err a e => rw [hR] at h; simp [Rs.bind] at h
    | ok y k =>
      rw [hR] at h hq
      simp only [Rs.bind] at h
      split at h
      · cases h
      split at h
      · cases h
      injection h with h1 h2
      subst h1
      have hp : P1 (evS s) 0 0 y k := hq
      exact ⟨by omega, by omega, hp.2.2.2⟩
  · cases h
theorem parF_err {s : ByteArray} {a er : Nat} (h : parF s = .err a er) : a ≤ s.size ∧ er ≠ 0 ∧ (er = 5 → a = s.size) := by
  unfold parF at h
  split at h
  · rename_i h0
    have hq := allF_iv (evS_ok s h0).q
    cases hR : allF (evS s) with
    | err b e =>
      rw [hR] at h hq
      simp only [Rs.bind] at h
      injection h with h1 h2
      subst h1 h2
      exact hq
    | ok y k =>
      rw [hR] at h
      simp only [Rs.bind] at h
      split at h
      · injection h with h1 h2; subst h1 h2; exact ⟨Nat.zero_le _, by decide, fun h => by cases h⟩
      split at h
      · injection h with h1 h2; subst h1 h2; exact ⟨Nat.zero_le _, by decide, fun h => by cases h⟩
      cases h
  · rename_i h0
    injection h with h1 h2
    subst h1 h2
    have hb := bl_len s
    have := ((tkF_ck (bl s)).2 h0).2
    exact ⟨by omega, h0, fun h5 => by rw [tk_5 _ h5, hb]⟩
set_option maxRecDepth 100000 in
set_option maxHeartbeats 1000000 in
theorem great15_any (s : ByteArray) (w : World) : Calls Tryz.prog 8 #[.string s] w fun e w' => e = .returned (.bool (gre s.size)) ∧ w = w' := by
  unfold gre
  by_cases h1 : 3000 < s.size
  · by_cases h2 : s.size ≤ 100000
    · have h1' : (3000 : Int) < (s.size : Int) := by omega
      have h2' : (s.size : Int) ≤ 100000 := by omega
      rw [decide_eq_true h1, decide_eq_true h2]
      go_enter Tryz.func8, Tryz.ntmps8
      go_wp2
      go_ret
      exact ⟨rfl, rfl⟩
    · have h1' : (3000 : Int) < (s.size : Int) := by omega
      have h2' : ¬ (s.size : Int) ≤ 100000 := by omega
      rw [decide_eq_true h1, decide_eq_false h2]
      go_enter Tryz.func8, Tryz.ntmps8
      go_wp2
      go_ret
      exact ⟨rfl, rfl⟩
  · have h1' : ¬ (3000 : Int) < (s.size : Int) := by omega
    rw [decide_eq_false h1, Bool.false_and]
    go_enter Tryz.func8, Tryz.ntmps8
    go_wp2
    go_ret
    exact ⟨rfl, rfl⟩
end Go.Proofs.YtpgiljibicigeaaGreatDoor
