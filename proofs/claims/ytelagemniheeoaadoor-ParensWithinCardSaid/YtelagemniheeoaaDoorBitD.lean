/- The document's Step walked. -/
import Derived.Test.YtelagemniheeoaaDoorBitB
import Derived.Test.YtelagemniheeoaaDoorLimbLaw
import Derived.Deep.QuietTactic
import Derived.BigQuiet
import Derived.BigRegion
import Derived.Laws.ResultCell
namespace Go.Proofs.YtelagemniheeoaaDoor
open Go.RowKit BM

/-- a quote that isn't escaped -/
def isQ (c : Nat) (o : Bool) : Bool := decide (c = 34) && !o
/-- what a byte is -/
def what (c : Nat) (o i : Bool) : Nat :=
  if isQ c o then 113 else if i then 0 else
  if c = 91 ∨ c = 123 then 111 else if c = 93 ∨ c = 125 then 99 else if c = 58 ∨ c = 44 then c else
  if c = 32 ∨ c = 9 ∨ c = 10 ∨ c = 13 then 32 else 0
def nextIn (c : Nat) (o i : Bool) : Bool := if isQ c o then !i else i
def nextOdd (c : Nat) (o : Bool) : Bool := !o && decide (c = 92)
def ResStep (c : Nat) (o i : Bool) (w : World) (e : Ending) (w' : World) : Prop :=
  e = .returned (.tuple #[.int .u8 (what c o i), .bool (nextIn c o i), .agg #[.bool (nextOdd c o), .bool (nextIn c o i)]]) ∧ Below w.heap.size w w'

end Go.Proofs.YtelagemniheeoaaDoor
