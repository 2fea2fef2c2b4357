/- What every law08 row wants: the table, the start, the words that came in. -/
import Derived.Test.YtelagemniheeoaaDoorCards
import Derived.Test.YtelagemniheeoaaDoorTie
import Derived.Test.YtelagemniheeoaaDoorBitS
import Derived.Test.YtelagemniheeoaaDoorParU
import Derived.Deep.DeepHandedRow
import Derived.Lib.LaidTab
import Derived.Lib.SmallJoins
import Derived.Deep.Slices
import Derived.SizedLaws
namespace Go.Proofs.YtelagemniheeoaaDoor
open Go.ChangeShapes Go.WideShapes Go.ChangeAt Go.RowKit BM

theorem gTab8 : Tryd.prog.globalNamed "math/bits.deBruijn64tab" = some 0 := by kernel_rfl
theorem gTabType8 : (Tryd.prog.globals[0]?).map (·.type) = some 59 := by kernel_rfl
theorem table8 {W : World} (h : laidMetH Tryd.prog Rows.parensRanksRow.laid W) : Tb W := by
  have h' : laidMet Tryd.prog (("math/bits.deBruijn64tab", Lib.tabData .u8 (Lib.deBruijn64tab.map fun (n : Nat) => (n : Int))) :: []) W := h
  have ht := Lib.tabIs_of_head gTab8 gTabType8 Tryd.underlying59 Tryd.underlying5 (by kernel_rfl) (by kernel_rfl) h'
  intro j hj
  have := World.var?_cell gTab8 ht j
  rw [this]
  obtain ⟨x, hx⟩ : ∃ x, Lib.deBruijn64tab[j]? = some x := ⟨_, List.getElem?_eq_getElem hj⟩
  simp [List.getD, hx]
def setB8 (h : Array Obj) (g : Nat) (cs : Array Value) : Array Obj := h.modify g fun
  | .cells _ t frozen => .cells cs t frozen
  | o => o
/-- a world for the witness -/
noncomputable def laidWorld (os : Os) : World :=
  { World.holding Tryd.prog os ⟨#[], #[], []⟩ with heap := setB8 (World.holding Tryd.prog os ⟨#[], #[], []⟩).heap 0 (Lib.deBruijn64tab.map fun (n : Nat) => Value.int .u8 (n : Int)).toArray }
theorem wordsOf {w : World} {x : Addr} {l c : Nat} {zs : List Int} (hl : l ≤ c) (hz : zs.length = c) (hcell : ∀ i, i < zs.length → w.cell? (x.add i) = some (.int .u64 (zs.getD i 0))) (hwz : ∀ n ∈ zs, (Lit.int .u64 n).wf = true) :
    ∃ m : List (BitVec 64), m.length = l ∧ RdV w (some x) (wv8 m) := by
  have hlen : ((zs.take l).map (fun z => BitVec.ofNat 64 z.toNat)).length = l := by simp; omega
  refine ⟨(zs.take l).map (fun z => BitVec.ofNat 64 z.toNat), hlen, ?_⟩
  rcases Nat.eq_zero_or_pos zs.length with h0 | h0
  · intro j u hj
    have := (List.getElem?_eq_some_iff.1 hj).1
    rw [wv8, List.length_map, hlen] at this; omega
  · obtain ⟨b, off, rfl, hc⟩ := ints_at hcell h0
    intro j u hj
    have hjl : j < l := by
      have := (List.getElem?_eq_some_iff.1 hj).1
      rwa [wv8, List.length_map, hlen] at this
    refine ⟨b, off, rfl, ?_⟩
    rw [hc j (by omega)]
    have hb : 0 ≤ zs[j]'(by omega) ∧ zs[j]'(by omega) < 18446744073709551616 := by
      have := bounds_u64 (hwz (zs[j]'(by omega)) (List.getElem_mem _))
      omega
    have e1 : zs.getD j 0 = zs[j]'(by omega) := by simp [List.getD, show j < zs.length by omega]
    rw [e1]
    have e2 : (wv8 ((zs.take l).map (fun z => BitVec.ofNat 64 z.toNat)))[j]? = some (.int .u64 (val (BitVec.ofNat 64 (zs[j]'(by omega)).toNat))) := by
      apply wv8_get
      simp [hjl, show j < zs.length by omega]
    rw [e2] at hj
    rw [← hj]
    congr 2
    unfold val
    rw [BitVec.toNat_ofNat]
    omega
end Go.Proofs.YtelagemniheeoaaDoor
