/-
  NARROWER THAN 'FOR EVERY INPUT', by the rows' own cells (each row's printed sentence says how): ParensRanks: laid · ParensCloses: laid · ParensWithin: laid · ParensBack: laid · ParensChildren: laid · ParensDirectory: laid.
  DERIVED. THE GIVEN ROWS OF THIS SEAT. 6 by the template 'for every input the law returns true; each argument reads behind the call as it read before'; 0 by the template 'total and deterministic' (their statements: YtelagemniheeoaaDoorTotals.lean).
  GIVEN WITH THE SEED: the statements are not yours to turn. If you find one false, say at which input.
  Laid BY PROGRAM, IN A SANDBOX (cutbox-rows.mjs): the forced cells as the released guide's own fill.sh prints them over the translation 392672f89ac5900c… (all of the seat's roots in one cut). By AI agents, Wed Nov 11 2026. No macro, syntax, notation, axiom, sorry.
-/
import Derived.Test.YtelagemniheeoaaDoorChecked
import GoSem.Claim
import GoSem.ClaimJoined
import GoSem.ClaimMapViews
import Derived.JoinedTies
import Derived.KernelRfl
namespace Go.Proofs.YtelagemniheeoaaDoor
/- THE CELL 'sum', in the pinned program and in every row, IS THE sha256 OF THE DUMP (.gsa) THAT YtelagemniheeoaaDoorProg.lean LOADS. Nothing in Lean hashes anything: it is a label: what it is worth is what the hold of that sum in a sandbox is worth. -/
noncomputable def Tryd.pinned : Pinned := { name := "ytelagemniheeoaadoor", sum := "392672f89ac5900cd9c452e61857d03e7c5877732ff9a07acf7a6b803fa65930", checked := Tryd.checked }
namespace Rows
def none {H : Type} : Left H := { results := [], args := [] }

/- WHAT THE LISTED PACKAGE-LEVEL VARIABLES READ AS WHEN THE CALL BEGINS. Each datum BY PROGRAM (the guide's laid-datum.mjs) off the statement by which the dump's own 'gosem.cut.vars' lays the variable. In a bare row this is a premise. The card (YtelagemniheeoaaDoorCards.lean) ties it to the program's text. -/
def laid_math_bits_deBruijn64tab {H : Type} : DataW H := .agg [.lit (.int .u8 0), .lit (.int .u8 1), .lit (.int .u8 56), .lit (.int .u8 2), .lit (.int .u8 57), .lit (.int .u8 49), .lit (.int .u8 28), .lit (.int .u8 3), .lit (.int .u8 61), .lit (.int .u8 58), .lit (.int .u8 42), .lit (.int .u8 50), .lit (.int .u8 38), .lit (.int .u8 29), .lit (.int .u8 17), .lit (.int .u8 4), .lit (.int .u8 62), .lit (.int .u8 47), .lit (.int .u8 59), .lit (.int .u8 36), .lit (.int .u8 45), .lit (.int .u8 43), .lit (.int .u8 51), .lit (.int .u8 22), .lit (.int .u8 53), .lit (.int .u8 39), .lit (.int .u8 33), .lit (.int .u8 30), .lit (.int .u8 24), .lit (.int .u8 18), .lit (.int .u8 12), .lit (.int .u8 5), .lit (.int .u8 63), .lit (.int .u8 55), .lit (.int .u8 48), .lit (.int .u8 27), .lit (.int .u8 60), .lit (.int .u8 41), .lit (.int .u8 37), .lit (.int .u8 16), .lit (.int .u8 46), .lit (.int .u8 35), .lit (.int .u8 44), .lit (.int .u8 21), .lit (.int .u8 52), .lit (.int .u8 32), .lit (.int .u8 23), .lit (.int .u8 11), .lit (.int .u8 54), .lit (.int .u8 26), .lit (.int .u8 40), .lit (.int .u8 15), .lit (.int .u8 34), .lit (.int .u8 20), .lit (.int .u8 31), .lit (.int .u8 10), .lit (.int .u8 25), .lit (.int .u8 14), .lit (.int .u8 19), .lit (.int .u8 9), .lit (.int .u8 13), .lit (.int .u8 8), .lit (.int .u8 7), .lit (.int .u8 6)]

/-- 'lorgnettelaw08.ParensRanks': WHATEVER THE INPUT: true; the input reads as it did. -/
def parensRanksSpec : ChangeSpec := { name := "parensRanks", fn := fun _ => fun
  | [d1, d2, d3] => { results := [.lit (.bool true)], args := [d1, d2, d3] }
  | _ => none }
def parensRanksRow : OpenClaim := { program := "ytelagemniheeoaadoor", sum := "392672f89ac5900cd9c452e61857d03e7c5877732ff9a07acf7a6b803fa65930", func := "lorgnette/lorgnettelaw08.ParensRanks", spec := "parensRanks", unfollowed := true, recurses := true, named := ["math/bits.deBruijn64tab"], apart := false, laid := [("math/bits.deBruijn64tab", laid_math_bits_deBruijn64tab)] }
def ParensRanksSaid : Prop := parensRanksRow.holds Tryd.pinned (OpenSpec.ofChange parensRanksSpec)

/-- ITS FALSE NEIGHBOUR: 'it returns false'. Refute it at one input. -/
def parensRanksWrong : ChangeSpec := { name := "parensRanks", fn := fun _ => fun
  | [d1, d2, d3] => { results := [.lit (.bool false)], args := [d1, d2, d3] }
  | _ => none }
def ParensRanksWrongFalsely : Prop := parensRanksRow.holds Tryd.pinned (OpenSpec.ofChange parensRanksWrong)

/-- 'lorgnettelaw08.ParensCloses': WHATEVER THE INPUT: true; the input reads as it did. -/
def parensClosesSpec : ChangeSpec := { name := "parensCloses", fn := fun _ => fun
  | [d1, d2, d3] => { results := [.lit (.bool true)], args := [d1, d2, d3] }
  | _ => none }
def parensClosesRow : OpenClaim := { program := "ytelagemniheeoaadoor", sum := "392672f89ac5900cd9c452e61857d03e7c5877732ff9a07acf7a6b803fa65930", func := "lorgnette/lorgnettelaw08.ParensCloses", spec := "parensCloses", unfollowed := true, recurses := true, named := ["math/bits.deBruijn64tab"], apart := false, laid := [("math/bits.deBruijn64tab", laid_math_bits_deBruijn64tab)] }
def ParensClosesSaid : Prop := parensClosesRow.holds Tryd.pinned (OpenSpec.ofChange parensClosesSpec)

/-- ITS FALSE NEIGHBOUR: 'it returns false'. Refute it at one input. -/
def parensClosesWrong : ChangeSpec := { name := "parensCloses", fn := fun _ => fun
  | [d1, d2, d3] => { results := [.lit (.bool false)], args := [d1, d2, d3] }
  | _ => none }
def ParensClosesWrongFalsely : Prop := parensClosesRow.holds Tryd.pinned (OpenSpec.ofChange parensClosesWrong)

/-- 'lorgnettelaw08.ParensWithin': WHATEVER THE INPUT: true; the input reads as it did. -/
def parensWithinSpec : ChangeSpec := { name := "parensWithin", fn := fun _ => fun
  | [d1, d2, d3, d4] => { results := [.lit (.bool true)], args := [d1, d2, d3, d4] }
  | _ => none }
def parensWithinRow : OpenClaim := { program := "ytelagemniheeoaadoor", sum := "392672f89ac5900cd9c452e61857d03e7c5877732ff9a07acf7a6b803fa65930", func := "lorgnette/lorgnettelaw08.ParensWithin", spec := "parensWithin", unfollowed := true, recurses := true, named := ["math/bits.deBruijn64tab"], apart := false, laid := [("math/bits.deBruijn64tab", laid_math_bits_deBruijn64tab)] }
def ParensWithinSaid : Prop := parensWithinRow.holds Tryd.pinned (OpenSpec.ofChange parensWithinSpec)

/-- ITS FALSE NEIGHBOUR: 'it returns false'. Refute it at one input. -/
def parensWithinWrong : ChangeSpec := { name := "parensWithin", fn := fun _ => fun
  | [d1, d2, d3, d4] => { results := [.lit (.bool false)], args := [d1, d2, d3, d4] }
  | _ => none }
def ParensWithinWrongFalsely : Prop := parensWithinRow.holds Tryd.pinned (OpenSpec.ofChange parensWithinWrong)

/-- 'lorgnettelaw08.ParensBack': WHATEVER THE INPUT: true; the input reads as it did. -/
def parensBackSpec : ChangeSpec := { name := "parensBack", fn := fun _ => fun
  | [d1, d2] => { results := [.lit (.bool true)], args := [d1, d2] }
  | _ => none }
def parensBackRow : OpenClaim := { program := "ytelagemniheeoaadoor", sum := "392672f89ac5900cd9c452e61857d03e7c5877732ff9a07acf7a6b803fa65930", func := "lorgnette/lorgnettelaw08.ParensBack", spec := "parensBack", unfollowed := true, recurses := true, named := ["math/bits.deBruijn64tab"], apart := false, laid := [("math/bits.deBruijn64tab", laid_math_bits_deBruijn64tab)] }
def ParensBackSaid : Prop := parensBackRow.holds Tryd.pinned (OpenSpec.ofChange parensBackSpec)

/-- ITS FALSE NEIGHBOUR: 'it returns false'. Refute it at one input. -/
def parensBackWrong : ChangeSpec := { name := "parensBack", fn := fun _ => fun
  | [d1, d2] => { results := [.lit (.bool false)], args := [d1, d2] }
  | _ => none }
def ParensBackWrongFalsely : Prop := parensBackRow.holds Tryd.pinned (OpenSpec.ofChange parensBackWrong)

/-- 'lorgnettelaw08.ParensChildren': WHATEVER THE INPUT: true; the input reads as it did. -/
def parensChildrenSpec : ChangeSpec := { name := "parensChildren", fn := fun _ => fun
  | [d1, d2, d3] => { results := [.lit (.bool true)], args := [d1, d2, d3] }
  | _ => none }
def parensChildrenRow : OpenClaim := { program := "ytelagemniheeoaadoor", sum := "392672f89ac5900cd9c452e61857d03e7c5877732ff9a07acf7a6b803fa65930", func := "lorgnette/lorgnettelaw08.ParensChildren", spec := "parensChildren", unfollowed := true, recurses := true, named := ["math/bits.deBruijn64tab"], apart := false, laid := [("math/bits.deBruijn64tab", laid_math_bits_deBruijn64tab)] }
def ParensChildrenSaid : Prop := parensChildrenRow.holds Tryd.pinned (OpenSpec.ofChange parensChildrenSpec)

/-- ITS FALSE NEIGHBOUR: 'it returns false'. Refute it at one input. -/
def parensChildrenWrong : ChangeSpec := { name := "parensChildren", fn := fun _ => fun
  | [d1, d2, d3] => { results := [.lit (.bool false)], args := [d1, d2, d3] }
  | _ => none }
def ParensChildrenWrongFalsely : Prop := parensChildrenRow.holds Tryd.pinned (OpenSpec.ofChange parensChildrenWrong)

/-- 'lorgnettelaw08.ParensDirectory': WHATEVER THE INPUT: true; the input reads as it did. -/
def parensDirectorySpec : ChangeSpec := { name := "parensDirectory", fn := fun _ => fun
  | [d1, d2, d3] => { results := [.lit (.bool true)], args := [d1, d2, d3] }
  | _ => none }
def parensDirectoryRow : OpenClaim := { program := "ytelagemniheeoaadoor", sum := "392672f89ac5900cd9c452e61857d03e7c5877732ff9a07acf7a6b803fa65930", func := "lorgnette/lorgnettelaw08.ParensDirectory", spec := "parensDirectory", unfollowed := true, recurses := true, named := ["math/bits.deBruijn64tab"], apart := false, laid := [("math/bits.deBruijn64tab", laid_math_bits_deBruijn64tab)] }
def ParensDirectorySaid : Prop := parensDirectoryRow.holds Tryd.pinned (OpenSpec.ofChange parensDirectorySpec)

/-- ITS FALSE NEIGHBOUR: 'it returns false'. Refute it at one input. -/
def parensDirectoryWrong : ChangeSpec := { name := "parensDirectory", fn := fun _ => fun
  | [d1, d2, d3] => { results := [.lit (.bool false)], args := [d1, d2, d3] }
  | _ => none }
def ParensDirectoryWrongFalsely : Prop := parensDirectoryRow.holds Tryd.pinned (OpenSpec.ofChange parensDirectoryWrong)

/- THE SECOND FORM. 'bulk': how many values and letters a reading holds, each counted each time it is reached (what is shared counts as often as it is met; a slice's spare places count too). A statement '..UptoSaid' is the law's where the arguments, and the package variables that the reading takes, are together of bulk at most 1048576: NARROWER than '..Said'. Prove '..Said' where nothing that the law and all that it calls make is longer than what came in: it says more and counts as full. Else prove '..UptoSaid'. A law counts once. -/
mutual
def uptoBulk {H : Type} : DataW H → Nat
  | .lit (.string bytes) => bytes.length + 1
  | .lit _ => 1
  | .nil => 1
  | .ptr d => uptoBulk d + 1
  | .slice elems spare => uptoBulkAll elems + uptoBulkAll spare + 1
  | .agg parts => uptoBulkAll parts + 1
  | .iface _ d => uptoBulk d + 1
  | .map entries => uptoBulkEntries entries + 1
  | .held _ => 1
def uptoBulkAll {H : Type} : List (DataW H) → Nat
  | [] => 0
  | d :: r => uptoBulk d + uptoBulkAll r
def uptoBulkEntries {H : Type} : List (Lit × DataW H) → Nat
  | [] => 0
  | x :: r => uptoBulkEntry x + uptoBulkEntries r
def uptoBulkEntry {H : Type} : Lit × DataW H → Nat
  | (.string bytes, d) => bytes.length + uptoBulk d + 1
  | (_, d) => uptoBulk d + 1
 end
def uptoSmall : (H : Type) → List (DataW H) → Bool := fun _ ds => decide (uptoBulkAll ds ≤ 1048576)
def OpenSpec.upto (s : _root_.Go.ChangeSpec) : _root_.Go.OpenSpec := { _root_.Go.OpenSpec.ofChange s with cond := some uptoSmall }

/-- 'lorgnettelaw08.ParensRanks', WHERE WHAT IT READS IS OF BULK AT MOST 1048576: true; the input reads as it did. -/
def parensRanksUptoRow : OpenClaim := { program := "ytelagemniheeoaadoor", sum := "392672f89ac5900cd9c452e61857d03e7c5877732ff9a07acf7a6b803fa65930", func := "lorgnette/lorgnettelaw08.ParensRanks", spec := "parensRanks", unfollowed := true, recurses := true, named := ["math/bits.deBruijn64tab"], apart := false, laid := [("math/bits.deBruijn64tab", laid_math_bits_deBruijn64tab)], narrowed := true }
def ParensRanksUptoSaid : Prop := parensRanksUptoRow.holds Tryd.pinned (OpenSpec.upto parensRanksSpec)

/-- 'lorgnettelaw08.ParensCloses', WHERE WHAT IT READS IS OF BULK AT MOST 1048576: true; the input reads as it did. -/
def parensClosesUptoRow : OpenClaim := { program := "ytelagemniheeoaadoor", sum := "392672f89ac5900cd9c452e61857d03e7c5877732ff9a07acf7a6b803fa65930", func := "lorgnette/lorgnettelaw08.ParensCloses", spec := "parensCloses", unfollowed := true, recurses := true, named := ["math/bits.deBruijn64tab"], apart := false, laid := [("math/bits.deBruijn64tab", laid_math_bits_deBruijn64tab)], narrowed := true }
def ParensClosesUptoSaid : Prop := parensClosesUptoRow.holds Tryd.pinned (OpenSpec.upto parensClosesSpec)

/-- 'lorgnettelaw08.ParensWithin', WHERE WHAT IT READS IS OF BULK AT MOST 1048576: true; the input reads as it did. -/
def parensWithinUptoRow : OpenClaim := { program := "ytelagemniheeoaadoor", sum := "392672f89ac5900cd9c452e61857d03e7c5877732ff9a07acf7a6b803fa65930", func := "lorgnette/lorgnettelaw08.ParensWithin", spec := "parensWithin", unfollowed := true, recurses := true, named := ["math/bits.deBruijn64tab"], apart := false, laid := [("math/bits.deBruijn64tab", laid_math_bits_deBruijn64tab)], narrowed := true }
def ParensWithinUptoSaid : Prop := parensWithinUptoRow.holds Tryd.pinned (OpenSpec.upto parensWithinSpec)

/-- 'lorgnettelaw08.ParensBack', WHERE WHAT IT READS IS OF BULK AT MOST 1048576: true; the input reads as it did. -/
def parensBackUptoRow : OpenClaim := { program := "ytelagemniheeoaadoor", sum := "392672f89ac5900cd9c452e61857d03e7c5877732ff9a07acf7a6b803fa65930", func := "lorgnette/lorgnettelaw08.ParensBack", spec := "parensBack", unfollowed := true, recurses := true, named := ["math/bits.deBruijn64tab"], apart := false, laid := [("math/bits.deBruijn64tab", laid_math_bits_deBruijn64tab)], narrowed := true }
def ParensBackUptoSaid : Prop := parensBackUptoRow.holds Tryd.pinned (OpenSpec.upto parensBackSpec)

/-- 'lorgnettelaw08.ParensChildren', WHERE WHAT IT READS IS OF BULK AT MOST 1048576: true; the input reads as it did. -/
def parensChildrenUptoRow : OpenClaim := { program := "ytelagemniheeoaadoor", sum := "392672f89ac5900cd9c452e61857d03e7c5877732ff9a07acf7a6b803fa65930", func := "lorgnette/lorgnettelaw08.ParensChildren", spec := "parensChildren", unfollowed := true, recurses := true, named := ["math/bits.deBruijn64tab"], apart := false, laid := [("math/bits.deBruijn64tab", laid_math_bits_deBruijn64tab)], narrowed := true }
def ParensChildrenUptoSaid : Prop := parensChildrenUptoRow.holds Tryd.pinned (OpenSpec.upto parensChildrenSpec)

/-- 'lorgnettelaw08.ParensDirectory', WHERE WHAT IT READS IS OF BULK AT MOST 1048576: true; the input reads as it did. -/
def parensDirectoryUptoRow : OpenClaim := { program := "ytelagemniheeoaadoor", sum := "392672f89ac5900cd9c452e61857d03e7c5877732ff9a07acf7a6b803fa65930", func := "lorgnette/lorgnettelaw08.ParensDirectory", spec := "parensDirectory", unfollowed := true, recurses := true, named := ["math/bits.deBruijn64tab"], apart := false, laid := [("math/bits.deBruijn64tab", laid_math_bits_deBruijn64tab)], narrowed := true }
def ParensDirectoryUptoSaid : Prop := parensDirectoryUptoRow.holds Tryd.pinned (OpenSpec.upto parensDirectorySpec)

end Rows
end Go.Proofs.YtelagemniheeoaaDoor
