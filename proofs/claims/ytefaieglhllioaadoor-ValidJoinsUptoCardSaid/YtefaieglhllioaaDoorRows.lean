/-
  NARROWER THAN 'FOR EVERY INPUT', by the rows' own cells (each row's printed sentence says how): ValidPrefix: laid · ValidSpans: laid · ValidJoins: laid · ValidDeeper: laid.
  DERIVED. THE GIVEN ROWS OF THIS SEAT. 4 by the template 'for every input the law returns true; each argument reads behind the call as it read before'; 0 by the template 'total and deterministic' (their statements: YtefaieglhllioaaDoorTotals.lean).
  GIVEN WITH THE SEED: the statements are not yours to turn. If you find one false, say at which input.
  Laid BY PROGRAM, IN A SANDBOX (cutbox-rows.mjs): the forced cells as the released guide's own fill.sh prints them over the translation d8a20f5d14406b77… (all of the seat's roots in one cut). By AI agents, Wed Nov 11 2026. No macro, syntax, notation, axiom, sorry.
-/
import Derived.Test.YtefaieglhllioaaDoorChecked
import GoSem.Claim
import GoSem.ClaimJoined
import GoSem.ClaimMapViews
import Derived.JoinedTies
import Derived.KernelRfl
namespace Go.Proofs.YtefaieglhllioaaDoor
/- THE CELL 'sum', in the pinned program and in every row, IS THE sha256 OF THE DUMP (.gsa) THAT YtefaieglhllioaaDoorProg.lean LOADS. Nothing in Lean hashes anything: it is a label: what it is worth is what the hold of that sum in a sandbox is worth. -/
noncomputable def Tryd.pinned : Pinned := { name := "ytefaieglhllioaadoor", sum := "d8a20f5d14406b773952caaf43ff32d3fbc7c72de02b4b9b1fc567bab9d4826d", checked := Tryd.checked }
namespace Rows
def none {H : Type} : Left H := { results := [], args := [] }

/- WHAT THE LISTED PACKAGE-LEVEL VARIABLES READ AS WHEN THE CALL BEGINS. Each datum BY PROGRAM (the guide's laid-datum.mjs) off the statement by which the dump's own 'gosem.cut.vars' lays the variable. In a bare row this is a premise. The card (YtefaieglhllioaaDoorCards.lean) ties it to the program's text. -/
def laid_lorgnette_utf_shapes {H : Type} : DataW H := .agg [.agg [.lit (.int .i64 127), .lit (.int .u8 0), .lit (.int .u8 127)], .agg [.lit (.int .i64 2047), .lit (.int .u8 192), .lit (.int .u8 31)], .agg [.lit (.int .i64 65535), .lit (.int .u8 224), .lit (.int .u8 15)], .agg [.lit (.int .i64 1114111), .lit (.int .u8 240), .lit (.int .u8 7)]]

/-- 'lorgnettelaw09.ValidPrefix': WHATEVER THE INPUT: true; the input reads as it did. -/
def validPrefixSpec : ChangeSpec := { name := "validPrefix", fn := fun _ => fun
  | [d1, d2, d3] => { results := [.lit (.bool true)], args := [d1, d2, d3] }
  | _ => none }
def validPrefixRow : OpenClaim := { program := "ytefaieglhllioaadoor", sum := "d8a20f5d14406b773952caaf43ff32d3fbc7c72de02b4b9b1fc567bab9d4826d", func := "lorgnette/lorgnettelaw09.ValidPrefix", spec := "validPrefix", unfollowed := true, recurses := true, named := ["lorgnette/utf.shapes"], apart := false, laid := [("lorgnette/utf.shapes", laid_lorgnette_utf_shapes)] }
def ValidPrefixSaid : Prop := validPrefixRow.holds Tryd.pinned (OpenSpec.ofChange validPrefixSpec)

/-- ITS FALSE NEIGHBOUR: 'it returns false'. Refute it at one input. -/
def validPrefixWrong : ChangeSpec := { name := "validPrefix", fn := fun _ => fun
  | [d1, d2, d3] => { results := [.lit (.bool false)], args := [d1, d2, d3] }
  | _ => none }
def ValidPrefixWrongFalsely : Prop := validPrefixRow.holds Tryd.pinned (OpenSpec.ofChange validPrefixWrong)

/-- 'lorgnettelaw09.ValidSpans': WHATEVER THE INPUT: true; the input reads as it did. -/
def validSpansSpec : ChangeSpec := { name := "validSpans", fn := fun _ => fun
  | [d1, d2] => { results := [.lit (.bool true)], args := [d1, d2] }
  | _ => none }
def validSpansRow : OpenClaim := { program := "ytefaieglhllioaadoor", sum := "d8a20f5d14406b773952caaf43ff32d3fbc7c72de02b4b9b1fc567bab9d4826d", func := "lorgnette/lorgnettelaw09.ValidSpans", spec := "validSpans", unfollowed := true, recurses := true, named := ["lorgnette/utf.shapes"], apart := false, laid := [("lorgnette/utf.shapes", laid_lorgnette_utf_shapes)] }
def ValidSpansSaid : Prop := validSpansRow.holds Tryd.pinned (OpenSpec.ofChange validSpansSpec)

/-- ITS FALSE NEIGHBOUR: 'it returns false'. Refute it at one input. -/
def validSpansWrong : ChangeSpec := { name := "validSpans", fn := fun _ => fun
  | [d1, d2] => { results := [.lit (.bool false)], args := [d1, d2] }
  | _ => none }
def ValidSpansWrongFalsely : Prop := validSpansRow.holds Tryd.pinned (OpenSpec.ofChange validSpansWrong)

/-- 'lorgnettelaw09.ValidJoins': WHATEVER THE INPUT: true; the input reads as it did. -/
def validJoinsSpec : ChangeSpec := { name := "validJoins", fn := fun _ => fun
  | [d1, d2, d3] => { results := [.lit (.bool true)], args := [d1, d2, d3] }
  | _ => none }
def validJoinsRow : OpenClaim := { program := "ytefaieglhllioaadoor", sum := "d8a20f5d14406b773952caaf43ff32d3fbc7c72de02b4b9b1fc567bab9d4826d", func := "lorgnette/lorgnettelaw09.ValidJoins", spec := "validJoins", unfollowed := true, recurses := true, named := ["lorgnette/utf.shapes"], apart := false, laid := [("lorgnette/utf.shapes", laid_lorgnette_utf_shapes)] }
def ValidJoinsSaid : Prop := validJoinsRow.holds Tryd.pinned (OpenSpec.ofChange validJoinsSpec)

/-- ITS FALSE NEIGHBOUR: 'it returns false'. Refute it at one input. -/
def validJoinsWrong : ChangeSpec := { name := "validJoins", fn := fun _ => fun
  | [d1, d2, d3] => { results := [.lit (.bool false)], args := [d1, d2, d3] }
  | _ => none }
def ValidJoinsWrongFalsely : Prop := validJoinsRow.holds Tryd.pinned (OpenSpec.ofChange validJoinsWrong)

/-- 'lorgnettelaw09.ValidDeeper': WHATEVER THE INPUT: true; the input reads as it did. -/
def validDeeperSpec : ChangeSpec := { name := "validDeeper", fn := fun _ => fun
  | [d1, d2, d3] => { results := [.lit (.bool true)], args := [d1, d2, d3] }
  | _ => none }
def validDeeperRow : OpenClaim := { program := "ytefaieglhllioaadoor", sum := "d8a20f5d14406b773952caaf43ff32d3fbc7c72de02b4b9b1fc567bab9d4826d", func := "lorgnette/lorgnettelaw09.ValidDeeper", spec := "validDeeper", unfollowed := true, recurses := true, named := ["lorgnette/utf.shapes"], apart := false, laid := [("lorgnette/utf.shapes", laid_lorgnette_utf_shapes)] }
def ValidDeeperSaid : Prop := validDeeperRow.holds Tryd.pinned (OpenSpec.ofChange validDeeperSpec)

/-- ITS FALSE NEIGHBOUR: 'it returns false'. Refute it at one input. -/
def validDeeperWrong : ChangeSpec := { name := "validDeeper", fn := fun _ => fun
  | [d1, d2, d3] => { results := [.lit (.bool false)], args := [d1, d2, d3] }
  | _ => none }
def ValidDeeperWrongFalsely : Prop := validDeeperRow.holds Tryd.pinned (OpenSpec.ofChange validDeeperWrong)

/- THE SECOND FORM. 'bulk': how many values and letters a reading holds, each counted each time it is reached (what is shared counts as often as it is met; a slice's spare places count too). A statement '..UptoSaid' is the law's where the arguments, and the package variables that the reading takes, are together of bulk at most 1048576: NARROWER than '..Said'. Prove '..Said' where nothing that the law and all that it calls make is longer than what came in: it says more and counts as full. Else prove '..UptoSaid'. A law counts once. -/
mutual
def uptoBulk {H : Type} : DataW H → Nat
  | .lit (.string bytes) => bytes.length + 1
  | .lit _ => 1
  | .nil => 1
  | .ptr d => uptoBulk d + 1
  | .slice elems spare => uptoBulkAll elems + uptoBulkAll spare + 1
  | .agg parts => uptoBulkAll parts + 1
  | .iface _ d => uptoBulk d + 1
  | .map entries => uptoBulkEntries entries + 1
  | .held _ => 1
def uptoBulkAll {H : Type} : List (DataW H) → Nat
  | [] => 0
  | d :: r => uptoBulk d + uptoBulkAll r
def uptoBulkEntries {H : Type} : List (Lit × DataW H) → Nat
  | [] => 0
  | x :: r => uptoBulkEntry x + uptoBulkEntries r
def uptoBulkEntry {H : Type} : Lit × DataW H → Nat
  | (.string bytes, d) => bytes.length + uptoBulk d + 1
  | (_, d) => uptoBulk d + 1
 end
def uptoSmall : (H : Type) → List (DataW H) → Bool := fun _ ds => decide (uptoBulkAll ds ≤ 1048576)
def OpenSpec.upto (s : _root_.Go.ChangeSpec) : _root_.Go.OpenSpec := { _root_.Go.OpenSpec.ofChange s with cond := some uptoSmall }

/-- 'lorgnettelaw09.ValidPrefix', WHERE WHAT IT READS IS OF BULK AT MOST 1048576: true; the input reads as it did. -/
def validPrefixUptoRow : OpenClaim := { program := "ytefaieglhllioaadoor", sum := "d8a20f5d14406b773952caaf43ff32d3fbc7c72de02b4b9b1fc567bab9d4826d", func := "lorgnette/lorgnettelaw09.ValidPrefix", spec := "validPrefix", unfollowed := true, recurses := true, named := ["lorgnette/utf.shapes"], apart := false, laid := [("lorgnette/utf.shapes", laid_lorgnette_utf_shapes)], narrowed := true }
def ValidPrefixUptoSaid : Prop := validPrefixUptoRow.holds Tryd.pinned (OpenSpec.upto validPrefixSpec)

/-- 'lorgnettelaw09.ValidSpans', WHERE WHAT IT READS IS OF BULK AT MOST 1048576: true; the input reads as it did. -/
def validSpansUptoRow : OpenClaim := { program := "ytefaieglhllioaadoor", sum := "d8a20f5d14406b773952caaf43ff32d3fbc7c72de02b4b9b1fc567bab9d4826d", func := "lorgnette/lorgnettelaw09.ValidSpans", spec := "validSpans", unfollowed := true, recurses := true, named := ["lorgnette/utf.shapes"], apart := false, laid := [("lorgnette/utf.shapes", laid_lorgnette_utf_shapes)], narrowed := true }
def ValidSpansUptoSaid : Prop := validSpansUptoRow.holds Tryd.pinned (OpenSpec.upto validSpansSpec)

/-- 'lorgnettelaw09.ValidJoins', WHERE WHAT IT READS IS OF BULK AT MOST 1048576: true; the input reads as it did. -/
def validJoinsUptoRow : OpenClaim := { program := "ytefaieglhllioaadoor", sum := "d8a20f5d14406b773952caaf43ff32d3fbc7c72de02b4b9b1fc567bab9d4826d", func := "lorgnette/lorgnettelaw09.ValidJoins", spec := "validJoins", unfollowed := true, recurses := true, named := ["lorgnette/utf.shapes"], apart := false, laid := [("lorgnette/utf.shapes", laid_lorgnette_utf_shapes)], narrowed := true }
def ValidJoinsUptoSaid : Prop := validJoinsUptoRow.holds Tryd.pinned (OpenSpec.upto validJoinsSpec)

/-- 'lorgnettelaw09.ValidDeeper', WHERE WHAT IT READS IS OF BULK AT MOST 1048576: true; the input reads as it did. -/
def validDeeperUptoRow : OpenClaim := { program := "ytefaieglhllioaadoor", sum := "d8a20f5d14406b773952caaf43ff32d3fbc7c72de02b4b9b1fc567bab9d4826d", func := "lorgnette/lorgnettelaw09.ValidDeeper", spec := "validDeeper", unfollowed := true, recurses := true, named := ["lorgnette/utf.shapes"], apart := false, laid := [("lorgnette/utf.shapes", laid_lorgnette_utf_shapes)], narrowed := true }
def ValidDeeperUptoSaid : Prop := validDeeperUptoRow.holds Tryd.pinned (OpenSpec.upto validDeeperSpec)

end Rows
end Go.Proofs.YtefaieglhllioaaDoor
