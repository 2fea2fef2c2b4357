/- Scan walked. -/
import Derived.Test.YtelagemniheeoaaDoorBitB
import Derived.Test.YtelagemniheeoaaDoorLimbLaw
import Derived.Deep.QuietTactic
import Derived.BigQuiet
import Derived.Laws.ResultCell
namespace Go.Proofs.YtelagemniheeoaaDoor
open Go.RowKit BM

abbrev opens : ByteArray := ⟨#[91, 123]⟩
abbrev shuts : ByteArray := ⟨#[93, 125]⟩
abbrev blanks : ByteArray := ⟨#[32, 9, 10, 13]⟩
def sQ (l : List Nat) (o : Bool) : BitVec 64 := andNot (bm l 34) (escM (bm l 92) o)
def sI (l : List Nat) (o i : Bool) : BitVec 64 := ins (sQ l o) i
def mOpen (l : List Nat) (o i : Bool) : BitVec 64 := andNot (orTo l opens 2) (sI l o i)
def mClose (l : List Nat) (o i : Bool) : BitVec 64 := andNot (orTo l shuts 2) (sI l o i)
def mColon (l : List Nat) (o i : Bool) : BitVec 64 := andNot (bm l 58) (sI l o i)
def mComma (l : List Nat) (o i : Bool) : BitVec 64 := andNot (bm l 44) (sI l o i)
def mSpace (l : List Nat) (o i : Bool) : BitVec 64 := andNot (orTo l blanks 4) (sI l o i)
def mIn (l : List Nat) (o i : Bool) : BitVec 64 := sI l o i &&& ones l.length
def cOdd (l : List Nat) (o : Bool) : Bool := if l.length < 64 then bitAt (escM (bm l 92) o) l.length else escC (bm l 92) o
def cIn (l : List Nat) (o i : Bool) : Bool := if l.length < 64 then bitAt (sI l o i) l.length else bitAt (sI l o i) 63

/-- what Scan answers -/
def ResS (l : List Nat) (o i : Bool) (w : World) (e : Ending) (w' : World) : Prop :=
  e = .returned (.tuple #[masksV (sQ l o) (mIn l o i) (mOpen l o i) (mClose l o i) (mColon l o i) (mComma l o i) (mSpace l o i), .agg #[.bool (cOdd l o), .bool (cIn l o i)]]) ∧ Below w.heap.size w w'

theorem resS_of {l : List Nat} {o i c d : Bool} {w W : World} {B B' : Nat} {u1 u2 u3 u4 u5 u6 u7 u8 u9 : Value} (hc : cOdd l o = c) (hd : cIn l o i = d) (h : Below w.heap.size w W) (hB : w.heap.size ≤ B := by omega) (hB' : w.heap.size ≤ B' := by omega) :
    ResS l o i w (.returned (.tuple #[.agg #[.int .u64 (bits .andNot .u64 (val (bm l 34)) (val (escM (bm l 92) o))), .int .u64 (bits .and .u64 (val (ins (sQ l o) i)) (val (ones l.length))), .int .u64 (bits .andNot .u64 (val (orTo l opens 2)) (val (ins (sQ l o) i))), .int .u64 (bits .andNot .u64 (val (orTo l shuts 2)) (val (ins (sQ l o) i))), .int .u64 (bits .andNot .u64 (val (bm l 58)) (val (ins (sQ l o) i))), .int .u64 (bits .andNot .u64 (val (bm l 44)) (val (ins (sQ l o) i))), .int .u64 (bits .andNot .u64 (val (orTo l blanks 4)) (val (ins (sQ l o) i)))], .agg #[.bool c, .bool d]]))
      (((((((((W.setCell ⟨B, 0, none⟩ u1).setCell ⟨B, 1, none⟩ u2).setCell ⟨B, 2, none⟩ u3).setCell ⟨B, 3, none⟩ u4).setCell ⟨B, 4, none⟩ u5).setCell ⟨B, 5, none⟩ u6).setCell ⟨B, 6, none⟩ u7).setCell ⟨B', 0, none⟩ u8).setCell ⟨B', 1, none⟩ u9) := by
  subst hc hd
  refine ⟨?_, (((((((((h.setCell hB _).setCell hB _).setCell hB _).setCell hB _).setCell hB _).setCell hB _).setCell hB _).setCell hB' _).setCell hB' _)⟩
  simp only [u_andNot, u_and]; rfl
end Go.Proofs.YtelagemniheeoaaDoor
