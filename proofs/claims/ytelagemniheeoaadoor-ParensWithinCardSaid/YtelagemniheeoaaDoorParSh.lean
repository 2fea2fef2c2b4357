/- parens: the library's sort.Search in this program: laid once. -/
import Derived.Test.YtelagemniheeoaaDoorParA
import Derived.Shelf.SlSorted.Search
namespace Go.Proofs
open Go.RowKit
def Tryd.laysSearch_ren : Go.Shelf.Ren := ⟨fun | 16 => 40 | n => n, fun | 3 => 3 | 35 => 31 | 4 => 4 | 38 => 58 | n => n, fun | n => n⟩
theorem Tryd.laysSearch : Go.Proofs.SlLaysO.n16 Tryd.prog Tryd.laysSearch_ren := {
  mixed := by kernel_rfl
  f16 := Tryd.func40.trans (congrArg some (by kernel_rfl))
  t3 := Tryd.underlying3
  a3 := Tryd.isAgg3
  z3 := Tryd.sizeOf3
  v3 := Tryd.zeroValue3
  t4 := Tryd.underlying4
  a4 := Tryd.isAgg4
  z4 := Tryd.sizeOf4
  v4 := Tryd.zeroValue4
  t35 := Tryd.underlying31
  a35 := Tryd.isAgg31
  z35 := Tryd.sizeOf31
  v35 := Tryd.zeroValue31
  t38 := Tryd.underlying58
  a38 := Tryd.isAgg58
  z38 := Tryd.sizeOf58
  v38 := Tryd.zeroValue58 }
end Go.Proofs
