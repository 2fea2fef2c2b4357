/-
  NARROWER THAN 'FOR EVERY INPUT', by the rows' own cells (each row's printed sentence says how): UtfDecodes: laid · UtfEncodes: laid · UtfCleans: laid · UtfImplodes: laid · UtfCmps: laid · UtfSlices: laid · UtfBack: laid · UtfOrder: laid.
  DERIVED. THE GIVEN ROWS OF THIS SEAT. 8 by the template 'for every input the law returns true; each argument reads behind the call as it read before'; 0 by the template 'total and deterministic' (their statements: YtmkmaignfcjjkaaDoorTotals.lean).
  GIVEN WITH THE SEED: the statements are not yours to turn. If you find one false, say at which input.
  Laid BY PROGRAM, IN A SANDBOX (cutbox-rows.mjs): the forced cells as the released guide's own fill.sh prints them over the translation 81f6057bcfa476a8… (all of the seat's roots in one cut). By AI agents, Wed Nov 11 2026. No macro, syntax, notation, axiom, sorry.
-/
import Derived.Test.YtmkmaignfcjjkaaDoorChecked
import GoSem.Claim
import GoSem.ClaimJoined
import GoSem.ClaimMapViews
import Derived.JoinedTies
import Derived.KernelRfl
namespace Go.Proofs.YtmkmaignfcjjkaaDoor
/- THE CELL 'sum', in the pinned program and in every row, IS THE sha256 OF THE DUMP (.gsa) THAT YtmkmaignfcjjkaaDoorProg.lean LOADS. Nothing in Lean hashes anything: it is a label: what it is worth is what the hold of that sum in a sandbox is worth. -/
noncomputable def Tryd.pinned : Pinned := { name := "ytmkmaignfcjjkaadoor", sum := "81f6057bcfa476a80d6040295bd15f13499ca1c7a11d5b949c4196bcbcf6974e", checked := Tryd.checked }
namespace Rows
def none {H : Type} : Left H := { results := [], args := [] }

/- WHAT THE LISTED PACKAGE-LEVEL VARIABLES READ AS WHEN THE CALL BEGINS. Each datum BY PROGRAM (the guide's laid-datum.mjs) off the statement by which the dump's own 'gosem.cut.vars' lays the variable. In a bare row this is a premise. The card (YtmkmaignfcjjkaaDoorCards.lean) ties it to the program's text. -/
def laid_lorgnette_utf_shapes {H : Type} : DataW H := .agg [.agg [.lit (.int .i64 127), .lit (.int .u8 0), .lit (.int .u8 127)], .agg [.lit (.int .i64 2047), .lit (.int .u8 192), .lit (.int .u8 31)], .agg [.lit (.int .i64 65535), .lit (.int .u8 224), .lit (.int .u8 15)], .agg [.lit (.int .i64 1114111), .lit (.int .u8 240), .lit (.int .u8 7)]]

/-- 'lorgnettelaw04.UtfDecodes': WHATEVER THE INPUT: true; the input reads as it did. -/
def utfDecodesSpec : ChangeSpec := { name := "utfDecodes", fn := fun _ => fun
  | [d] => { results := [.lit (.bool true)], args := [d] }
  | _ => none }
def utfDecodesRow : OpenClaim := { program := "ytmkmaignfcjjkaadoor", sum := "81f6057bcfa476a80d6040295bd15f13499ca1c7a11d5b949c4196bcbcf6974e", func := "lorgnette/lorgnettelaw04.UtfDecodes", spec := "utfDecodes", named := ["lorgnette/utf.shapes"], apart := false, laid := [("lorgnette/utf.shapes", laid_lorgnette_utf_shapes)] }
def UtfDecodesSaid : Prop := utfDecodesRow.holds Tryd.pinned (OpenSpec.ofChange utfDecodesSpec)

/-- ITS FALSE NEIGHBOUR: 'it returns false'. Refute it at one input. -/
def utfDecodesWrong : ChangeSpec := { name := "utfDecodes", fn := fun _ => fun
  | [d] => { results := [.lit (.bool false)], args := [d] }
  | _ => none }
def UtfDecodesWrongFalsely : Prop := utfDecodesRow.holds Tryd.pinned (OpenSpec.ofChange utfDecodesWrong)

/-- 'lorgnettelaw04.UtfEncodes': WHATEVER THE INPUT: true; the input reads as it did. -/
def utfEncodesSpec : ChangeSpec := { name := "utfEncodes", fn := fun _ => fun
  | [d] => { results := [.lit (.bool true)], args := [d] }
  | _ => none }
def utfEncodesRow : OpenClaim := { program := "ytmkmaignfcjjkaadoor", sum := "81f6057bcfa476a80d6040295bd15f13499ca1c7a11d5b949c4196bcbcf6974e", func := "lorgnette/lorgnettelaw04.UtfEncodes", spec := "utfEncodes", named := ["lorgnette/utf.shapes"], apart := false, laid := [("lorgnette/utf.shapes", laid_lorgnette_utf_shapes)] }
def UtfEncodesSaid : Prop := utfEncodesRow.holds Tryd.pinned (OpenSpec.ofChange utfEncodesSpec)

/-- ITS FALSE NEIGHBOUR: 'it returns false'. Refute it at one input. -/
def utfEncodesWrong : ChangeSpec := { name := "utfEncodes", fn := fun _ => fun
  | [d] => { results := [.lit (.bool false)], args := [d] }
  | _ => none }
def UtfEncodesWrongFalsely : Prop := utfEncodesRow.holds Tryd.pinned (OpenSpec.ofChange utfEncodesWrong)

/-- 'lorgnettelaw04.UtfCleans': WHATEVER THE INPUT: true; the input reads as it did. -/
def utfCleansSpec : ChangeSpec := { name := "utfCleans", fn := fun _ => fun
  | [d] => { results := [.lit (.bool true)], args := [d] }
  | _ => none }
def utfCleansRow : OpenClaim := { program := "ytmkmaignfcjjkaadoor", sum := "81f6057bcfa476a80d6040295bd15f13499ca1c7a11d5b949c4196bcbcf6974e", func := "lorgnette/lorgnettelaw04.UtfCleans", spec := "utfCleans", named := ["lorgnette/utf.shapes"], apart := false, laid := [("lorgnette/utf.shapes", laid_lorgnette_utf_shapes)] }
def UtfCleansSaid : Prop := utfCleansRow.holds Tryd.pinned (OpenSpec.ofChange utfCleansSpec)

/-- ITS FALSE NEIGHBOUR: 'it returns false'. Refute it at one input. -/
def utfCleansWrong : ChangeSpec := { name := "utfCleans", fn := fun _ => fun
  | [d] => { results := [.lit (.bool false)], args := [d] }
  | _ => none }
def UtfCleansWrongFalsely : Prop := utfCleansRow.holds Tryd.pinned (OpenSpec.ofChange utfCleansWrong)

/-- 'lorgnettelaw04.UtfImplodes': WHATEVER THE INPUT: true; the input reads as it did. -/
def utfImplodesSpec : ChangeSpec := { name := "utfImplodes", fn := fun _ => fun
  | [d] => { results := [.lit (.bool true)], args := [d] }
  | _ => none }
def utfImplodesRow : OpenClaim := { program := "ytmkmaignfcjjkaadoor", sum := "81f6057bcfa476a80d6040295bd15f13499ca1c7a11d5b949c4196bcbcf6974e", func := "lorgnette/lorgnettelaw04.UtfImplodes", spec := "utfImplodes", named := ["lorgnette/utf.shapes"], apart := false, laid := [("lorgnette/utf.shapes", laid_lorgnette_utf_shapes)] }
def UtfImplodesSaid : Prop := utfImplodesRow.holds Tryd.pinned (OpenSpec.ofChange utfImplodesSpec)

/-- ITS FALSE NEIGHBOUR: 'it returns false'. Refute it at one input. -/
def utfImplodesWrong : ChangeSpec := { name := "utfImplodes", fn := fun _ => fun
  | [d] => { results := [.lit (.bool false)], args := [d] }
  | _ => none }
def UtfImplodesWrongFalsely : Prop := utfImplodesRow.holds Tryd.pinned (OpenSpec.ofChange utfImplodesWrong)

/-- 'lorgnettelaw04.UtfCmps': WHATEVER THE INPUT: true; the input reads as it did. -/
def utfCmpsSpec : ChangeSpec := { name := "utfCmps", fn := fun _ => fun
  | [d1, d2] => { results := [.lit (.bool true)], args := [d1, d2] }
  | _ => none }
def utfCmpsRow : OpenClaim := { program := "ytmkmaignfcjjkaadoor", sum := "81f6057bcfa476a80d6040295bd15f13499ca1c7a11d5b949c4196bcbcf6974e", func := "lorgnette/lorgnettelaw04.UtfCmps", spec := "utfCmps", named := ["lorgnette/utf.shapes"], apart := false, laid := [("lorgnette/utf.shapes", laid_lorgnette_utf_shapes)] }
def UtfCmpsSaid : Prop := utfCmpsRow.holds Tryd.pinned (OpenSpec.ofChange utfCmpsSpec)

/-- ITS FALSE NEIGHBOUR: 'it returns false'. Refute it at one input. -/
def utfCmpsWrong : ChangeSpec := { name := "utfCmps", fn := fun _ => fun
  | [d1, d2] => { results := [.lit (.bool false)], args := [d1, d2] }
  | _ => none }
def UtfCmpsWrongFalsely : Prop := utfCmpsRow.holds Tryd.pinned (OpenSpec.ofChange utfCmpsWrong)

/-- 'lorgnettelaw04.UtfSlices': WHATEVER THE INPUT: true; the input reads as it did. -/
def utfSlicesSpec : ChangeSpec := { name := "utfSlices", fn := fun _ => fun
  | [d1, d2, d3] => { results := [.lit (.bool true)], args := [d1, d2, d3] }
  | _ => none }
def utfSlicesRow : OpenClaim := { program := "ytmkmaignfcjjkaadoor", sum := "81f6057bcfa476a80d6040295bd15f13499ca1c7a11d5b949c4196bcbcf6974e", func := "lorgnette/lorgnettelaw04.UtfSlices", spec := "utfSlices", named := ["lorgnette/utf.shapes"], apart := false, laid := [("lorgnette/utf.shapes", laid_lorgnette_utf_shapes)] }
def UtfSlicesSaid : Prop := utfSlicesRow.holds Tryd.pinned (OpenSpec.ofChange utfSlicesSpec)

/-- ITS FALSE NEIGHBOUR: 'it returns false'. Refute it at one input. -/
def utfSlicesWrong : ChangeSpec := { name := "utfSlices", fn := fun _ => fun
  | [d1, d2, d3] => { results := [.lit (.bool false)], args := [d1, d2, d3] }
  | _ => none }
def UtfSlicesWrongFalsely : Prop := utfSlicesRow.holds Tryd.pinned (OpenSpec.ofChange utfSlicesWrong)

/-- 'lorgnettelaw04.UtfBack': WHATEVER THE INPUT: true; the input reads as it did. -/
def utfBackSpec : ChangeSpec := { name := "utfBack", fn := fun _ => fun
  | [d1, d2] => { results := [.lit (.bool true)], args := [d1, d2] }
  | _ => none }
def utfBackRow : OpenClaim := { program := "ytmkmaignfcjjkaadoor", sum := "81f6057bcfa476a80d6040295bd15f13499ca1c7a11d5b949c4196bcbcf6974e", func := "lorgnette/lorgnettelaw04.UtfBack", spec := "utfBack", named := ["lorgnette/utf.shapes"], apart := false, laid := [("lorgnette/utf.shapes", laid_lorgnette_utf_shapes)] }
def UtfBackSaid : Prop := utfBackRow.holds Tryd.pinned (OpenSpec.ofChange utfBackSpec)

/-- ITS FALSE NEIGHBOUR: 'it returns false'. Refute it at one input. -/
def utfBackWrong : ChangeSpec := { name := "utfBack", fn := fun _ => fun
  | [d1, d2] => { results := [.lit (.bool false)], args := [d1, d2] }
  | _ => none }
def UtfBackWrongFalsely : Prop := utfBackRow.holds Tryd.pinned (OpenSpec.ofChange utfBackWrong)

/-- 'lorgnettelaw04.UtfOrder': WHATEVER THE INPUT: true; the input reads as it did. -/
def utfOrderSpec : ChangeSpec := { name := "utfOrder", fn := fun _ => fun
  | [d1, d2, d3] => { results := [.lit (.bool true)], args := [d1, d2, d3] }
  | _ => none }
def utfOrderRow : OpenClaim := { program := "ytmkmaignfcjjkaadoor", sum := "81f6057bcfa476a80d6040295bd15f13499ca1c7a11d5b949c4196bcbcf6974e", func := "lorgnette/lorgnettelaw04.UtfOrder", spec := "utfOrder", named := ["lorgnette/utf.shapes"], apart := false, laid := [("lorgnette/utf.shapes", laid_lorgnette_utf_shapes)] }
def UtfOrderSaid : Prop := utfOrderRow.holds Tryd.pinned (OpenSpec.ofChange utfOrderSpec)

/-- ITS FALSE NEIGHBOUR: 'it returns false'. Refute it at one input. -/
def utfOrderWrong : ChangeSpec := { name := "utfOrder", fn := fun _ => fun
  | [d1, d2, d3] => { results := [.lit (.bool false)], args := [d1, d2, d3] }
  | _ => none }
def UtfOrderWrongFalsely : Prop := utfOrderRow.holds Tryd.pinned (OpenSpec.ofChange utfOrderWrong)

/- THE SECOND FORM. 'bulk': how many values and letters a reading holds, each counted each time it is reached (what is shared counts as often as it is met; a slice's spare places count too). A statement '..UptoSaid' is the law's where the arguments, and the package variables that the reading takes, are together of bulk at most 1048576: NARROWER than '..Said'. Prove '..Said' where nothing that the law and all that it calls make is longer than what came in: it says more and counts as full. Else prove '..UptoSaid'. A law counts once. -/
mutual
def uptoBulk {H : Type} : DataW H → Nat
  | .lit (.string bytes) => bytes.length + 1
  | .lit _ => 1
  | .nil => 1
  | .ptr d => uptoBulk d + 1
  | .slice elems spare => uptoBulkAll elems + uptoBulkAll spare + 1
  | .agg parts => uptoBulkAll parts + 1
  | .iface _ d => uptoBulk d + 1
  | .map entries => uptoBulkEntries entries + 1
  | .held _ => 1
def uptoBulkAll {H : Type} : List (DataW H) → Nat
  | [] => 0
  | d :: r => uptoBulk d + uptoBulkAll r
def uptoBulkEntries {H : Type} : List (Lit × DataW H) → Nat
  | [] => 0
  | x :: r => uptoBulkEntry x + uptoBulkEntries r
def uptoBulkEntry {H : Type} : Lit × DataW H → Nat
  | (.string bytes, d) => bytes.length + uptoBulk d + 1
  | (_, d) => uptoBulk d + 1
 end
def uptoSmall : (H : Type) → List (DataW H) → Bool := fun _ ds => decide (uptoBulkAll ds ≤ 1048576)
def OpenSpec.upto (s : _root_.Go.ChangeSpec) : _root_.Go.OpenSpec := { _root_.Go.OpenSpec.ofChange s with cond := some uptoSmall }

/-- 'lorgnettelaw04.UtfDecodes', WHERE WHAT IT READS IS OF BULK AT MOST 1048576: true; the input reads as it did. -/
def utfDecodesUptoRow : OpenClaim := { program := "ytmkmaignfcjjkaadoor", sum := "81f6057bcfa476a80d6040295bd15f13499ca1c7a11d5b949c4196bcbcf6974e", func := "lorgnette/lorgnettelaw04.UtfDecodes", spec := "utfDecodes", named := ["lorgnette/utf.shapes"], apart := false, laid := [("lorgnette/utf.shapes", laid_lorgnette_utf_shapes)], narrowed := true }
def UtfDecodesUptoSaid : Prop := utfDecodesUptoRow.holds Tryd.pinned (OpenSpec.upto utfDecodesSpec)

/-- 'lorgnettelaw04.UtfEncodes', WHERE WHAT IT READS IS OF BULK AT MOST 1048576: true; the input reads as it did. -/
def utfEncodesUptoRow : OpenClaim := { program := "ytmkmaignfcjjkaadoor", sum := "81f6057bcfa476a80d6040295bd15f13499ca1c7a11d5b949c4196bcbcf6974e", func := "lorgnette/lorgnettelaw04.UtfEncodes", spec := "utfEncodes", named := ["lorgnette/utf.shapes"], apart := false, laid := [("lorgnette/utf.shapes", laid_lorgnette_utf_shapes)], narrowed := true }
def UtfEncodesUptoSaid : Prop := utfEncodesUptoRow.holds Tryd.pinned (OpenSpec.upto utfEncodesSpec)

/-- 'lorgnettelaw04.UtfCleans', WHERE WHAT IT READS IS OF BULK AT MOST 1048576: true; the input reads as it did. -/
def utfCleansUptoRow : OpenClaim := { program := "ytmkmaignfcjjkaadoor", sum := "81f6057bcfa476a80d6040295bd15f13499ca1c7a11d5b949c4196bcbcf6974e", func := "lorgnette/lorgnettelaw04.UtfCleans", spec := "utfCleans", named := ["lorgnette/utf.shapes"], apart := false, laid := [("lorgnette/utf.shapes", laid_lorgnette_utf_shapes)], narrowed := true }
def UtfCleansUptoSaid : Prop := utfCleansUptoRow.holds Tryd.pinned (OpenSpec.upto utfCleansSpec)

/-- 'lorgnettelaw04.UtfImplodes', WHERE WHAT IT READS IS OF BULK AT MOST 1048576: true; the input reads as it did. -/
def utfImplodesUptoRow : OpenClaim := { program := "ytmkmaignfcjjkaadoor", sum := "81f6057bcfa476a80d6040295bd15f13499ca1c7a11d5b949c4196bcbcf6974e", func := "lorgnette/lorgnettelaw04.UtfImplodes", spec := "utfImplodes", named := ["lorgnette/utf.shapes"], apart := false, laid := [("lorgnette/utf.shapes", laid_lorgnette_utf_shapes)], narrowed := true }
def UtfImplodesUptoSaid : Prop := utfImplodesUptoRow.holds Tryd.pinned (OpenSpec.upto utfImplodesSpec)

/-- 'lorgnettelaw04.UtfCmps', WHERE WHAT IT READS IS OF BULK AT MOST 1048576: true; the input reads as it did. -/
def utfCmpsUptoRow : OpenClaim := { program := "ytmkmaignfcjjkaadoor", sum := "81f6057bcfa476a80d6040295bd15f13499ca1c7a11d5b949c4196bcbcf6974e", func := "lorgnette/lorgnettelaw04.UtfCmps", spec := "utfCmps", named := ["lorgnette/utf.shapes"], apart := false, laid := [("lorgnette/utf.shapes", laid_lorgnette_utf_shapes)], narrowed := true }
def UtfCmpsUptoSaid : Prop := utfCmpsUptoRow.holds Tryd.pinned (OpenSpec.upto utfCmpsSpec)

/-- 'lorgnettelaw04.UtfSlices', WHERE WHAT IT READS IS OF BULK AT MOST 1048576: true; the input reads as it did. -/
def utfSlicesUptoRow : OpenClaim := { program := "ytmkmaignfcjjkaadoor", sum := "81f6057bcfa476a80d6040295bd15f13499ca1c7a11d5b949c4196bcbcf6974e", func := "lorgnette/lorgnettelaw04.UtfSlices", spec := "utfSlices", named := ["lorgnette/utf.shapes"], apart := false, laid := [("lorgnette/utf.shapes", laid_lorgnette_utf_shapes)], narrowed := true }
def UtfSlicesUptoSaid : Prop := utfSlicesUptoRow.holds Tryd.pinned (OpenSpec.upto utfSlicesSpec)

/-- 'lorgnettelaw04.UtfBack', WHERE WHAT IT READS IS OF BULK AT MOST 1048576: true; the input reads as it did. -/
def utfBackUptoRow : OpenClaim := { program := "ytmkmaignfcjjkaadoor", sum := "81f6057bcfa476a80d6040295bd15f13499ca1c7a11d5b949c4196bcbcf6974e", func := "lorgnette/lorgnettelaw04.UtfBack", spec := "utfBack", named := ["lorgnette/utf.shapes"], apart := false, laid := [("lorgnette/utf.shapes", laid_lorgnette_utf_shapes)], narrowed := true }
def UtfBackUptoSaid : Prop := utfBackUptoRow.holds Tryd.pinned (OpenSpec.upto utfBackSpec)

/-- 'lorgnettelaw04.UtfOrder', WHERE WHAT IT READS IS OF BULK AT MOST 1048576: true; the input reads as it did. -/
def utfOrderUptoRow : OpenClaim := { program := "ytmkmaignfcjjkaadoor", sum := "81f6057bcfa476a80d6040295bd15f13499ca1c7a11d5b949c4196bcbcf6974e", func := "lorgnette/lorgnettelaw04.UtfOrder", spec := "utfOrder", named := ["lorgnette/utf.shapes"], apart := false, laid := [("lorgnette/utf.shapes", laid_lorgnette_utf_shapes)], narrowed := true }
def UtfOrderUptoSaid : Prop := utfOrderUptoRow.holds Tryd.pinned (OpenSpec.upto utfOrderSpec)

end Rows
end Go.Proofs.YtmkmaignfcjjkaaDoor
