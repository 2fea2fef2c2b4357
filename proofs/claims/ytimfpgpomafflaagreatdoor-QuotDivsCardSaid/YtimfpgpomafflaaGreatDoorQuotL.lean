/- What every law03 row wants: the table, the start, the arguments as lists (as LimbS does for law01). -/
import Derived.Test.YtimfpgpomafflaaGreatDoorCards
import Derived.Test.YtimfpgpomafflaaGreatDoorTie
import Derived.Test.YtimfpgpomafflaaGreatDoorQuotK
import Derived.ProofKit
import Derived.OpenShut
import Derived.ShutString
import Derived.ChangeOld
import Derived.Deep.DeepHandedRow
import Derived.Lib.LaidTab
namespace Go.Proofs.YtimfpgpomafflaaGreatDoor
open Go.ChangeShapes Go.WideShapes Go.ChangeAt Go.RowKit LM

theorem own : ownKnob Tryz.prog.godebug = none := by kernel_rfl
theorem laidOut : laidOutB Tryz.prog = true := by kernel_rfl

theorem tab_third {P : Program} {W : World} {x y : String × DataW Unit} {name : String} {k : IntKind} {zs : List Int} {rest : List (String × DataW Unit)} {g : Nat} {t e : TypeId} {n : Nat}
    (hg : P.globalNamed name = some g) (hty : (P.globals[g]?).map (·.type) = some t) (ht : P.underlying t = some (.array n e)) (he : P.underlying e = some (.int k)) (hce : P.cellsOf e = 1) (hct : P.cellsOf t = n)
    (h : laidMet P (x :: y :: (name, Lib.tabData k zs) :: rest) W) : Lib.TabIs P W name k zs := by
  obtain ⟨ps, ⟨_, _, _, _, _, _, _, _, _, _, h1, _⟩, _⟩ := h
  obtain ⟨_, _, _, _, _, _, _, _, _, _, h2, _⟩ := h1
  obtain ⟨g', t', cs, fuel, p, q, hg', ht', hvar, hd, _, _⟩ := h2
  obtain rfl := Option.some.inj (hg.symm.trans hg')
  obtain rfl := Option.some.inj (hty.symm.trans ht')
  unfold Lib.TabIs
  rw [hvar, ← Lib.cells_of_tab ht he hce hct hd]

theorem gTab : Tryz.prog.globalNamed "internal/strconv.uint64pow10" = some 2 := by kernel_rfl
theorem gTabType : (Tryz.prog.globals[2]?).map (·.type) = some 157 := by kernel_rfl
theorem cellsTab : Tryz.prog.cellsOf 157 = 20 := by kernel_rfl
theorem cellsU64 : Tryz.prog.cellsOf 74 = 1 := by kernel_rfl

theorem table {W : World} (h : laidMetH Tryz.prog Rows.quotDivsRow.laid W) : Tab W :=
  tab_third gTab gTabType Tryz.underlying157 Tryz.underlying74 cellsU64 cellsTab h

/-- a slice of limbs that came in -/
def IsRow (w : World) (a : Option Addr) (len cap : Nat) : Prop := ∃ l : List Nat, l.length = len ∧ Lo 4294967296 l ∧ Rd w .u32 a l ∧ len ≤ maxLen

theorem rowNil (w : World) : IsRow w none 0 0 := ⟨[], rfl, Lo_nil _, Rd.nil _ _ _, Nat.zero_le _⟩
theorem rowOf {w : World} {x : Addr} {l c : Nat} {zs : List Int} (hl : l ≤ c) (hm : c ≤ maxLen) (hz : zs.length = c) (hcell : ∀ i, i < zs.length → w.cell? (x.add i) = some (.int .u32 (zs.getD i 0))) (hwz : ∀ n ∈ zs, (Lit.int .u32 n).wf = true) : IsRow w (some x) l c := by
  have hb : ∀ z ∈ zs, 0 ≤ z ∧ z < 4294967296 := by
    intro z hz'; have := bounds_u32 (hwz z hz'); omega
  have hlen : ((zs.take l).map Int.toNat).length = l := by simp; omega
  refine ⟨(zs.take l).map Int.toNat, hlen, ?_, ?_, by omega⟩
  · intro y hy
    obtain ⟨z, hz', rfl⟩ := List.mem_map.1 hy
    have := hb z (List.mem_of_mem_take hz')
    omega
  · rcases Nat.eq_zero_or_pos zs.length with h0 | h0
    · intro j hj; rw [hlen] at hj; omega
    · obtain ⟨b, off, rfl, hc⟩ := ints_at hcell h0
      refine Rd.mk fun j hj => ?_
      rw [hlen] at hj
      rw [hc j (by omega)]
      have h1 := hb (zs[j]'(by omega)) (List.getElem_mem _)
      have e1 : zs.getD j 0 = zs[j]'(by omega) := by simp [List.getD, show j < zs.length by omega]
      rw [e1]
      have e2 : (((zs.take l).map Int.toNat)[j]?.getD 0 : Nat) = (zs[j]'(by omega)).toNat := by
        simp [List.getElem?_take, hj, show j < zs.length by omega]
      rw [e2]
      congr 2
      omega

def cellsU (k : IntKind) (l : List Int) : Array Value := (l.map (Value.int k)).toArray
def setB (h : Array Obj) (g : Nat) (cs : Array Value) : Array Obj := h.modify g fun
  | .cells _ t frozen => .cells cs t frozen
  | o => o
def tab32 : List Int := [0, 1, 28, 2, 29, 14, 24, 3, 30, 22, 20, 15, 25, 17, 4, 8, 31, 27, 13, 23, 21, 19, 16, 7, 26, 12, 18, 6, 11, 5, 10, 9]
def tab64 : List Int := [0, 1, 56, 2, 57, 49, 28, 3, 61, 58, 42, 50, 38, 29, 17, 4, 62, 47, 59, 36, 45, 43, 51, 22, 53, 39, 33, 30, 24, 18, 12, 5, 63, 55, 48, 27, 60, 41, 37, 16, 46, 35, 44, 21, 52, 32, 23, 11, 54, 26, 40, 15, 34, 20, 31, 10, 25, 14, 19, 9, 13, 8, 7, 6]
/-- a world for the witness -/
noncomputable def laidWorld (os : Os) : World :=
  { World.holding Tryz.prog os ⟨#[], #[], []⟩ with heap := setB (setB (setB (World.holding Tryz.prog os ⟨#[], #[], []⟩).heap 2 (cellsU .u64 Lib.pow10Tab)) 4 (cellsU .u8 tab32)) 5 (cellsU .u8 tab64) }
end Go.Proofs.YtimfpgpomafflaaGreatDoor
