/-
  NARROWER THAN 'FOR EVERY INPUT', by the rows' own cells (each row's printed sentence says how): QuoteWrites: laid · QuoteBack: laid · QuoteSigns: laid · QuoteViable: laid.
  DERIVED. THE GIVEN ROWS OF THIS SEAT. 4 by the template 'for every input the law returns true; each argument reads behind the call as it read before'; 0 by the template 'total and deterministic' (their statements: YtgjpjgfejjgheaaDoorTotals.lean).
  GIVEN WITH THE SEED: the statements are not yours to turn. If you find one false, say at which input.
  Laid BY PROGRAM, IN A SANDBOX (cutbox-rows.mjs): the forced cells as the released guide's own fill.sh prints them over the translation d986274438daab47… (all of the seat's roots in one cut). By AI agents, Wed Nov 11 2026. No macro, syntax, notation, axiom, sorry.
-/
import Derived.Test.YtgjpjgfejjgheaaDoorChecked
import GoSem.Claim
import GoSem.ClaimJoined
import GoSem.ClaimMapViews
import Derived.JoinedTies
import Derived.KernelRfl
namespace Go.Proofs.YtgjpjgfejjgheaaDoor
/- THE CELL 'sum', in the pinned program and in every row, IS THE sha256 OF THE DUMP (.gsa) THAT YtgjpjgfejjgheaaDoorProg.lean LOADS. Nothing in Lean hashes anything: it is a label: what it is worth is what the hold of that sum in a sandbox is worth. -/
noncomputable def Tryd.pinned : Pinned := { name := "ytgjpjgfejjgheaadoor", sum := "d986274438daab47fcba72b14c5e17e9780f66621ac953a1f1f89ef59fc16720", checked := Tryd.checked }
namespace Rows
def none {H : Type} : Left H := { results := [], args := [] }

/- WHAT THE LISTED PACKAGE-LEVEL VARIABLES READ AS WHEN THE CALL BEGINS. Each datum BY PROGRAM (the guide's laid-datum.mjs) off the statement by which the dump's own 'gosem.cut.vars' lays the variable. In a bare row this is a premise. The card (YtgjpjgfejjgheaaDoorCards.lean) ties it to the program's text. -/
def laid_lorgnette_utf_shapes {H : Type} : DataW H := .agg [.agg [.lit (.int .i64 127), .lit (.int .u8 0), .lit (.int .u8 127)], .agg [.lit (.int .i64 2047), .lit (.int .u8 192), .lit (.int .u8 31)], .agg [.lit (.int .i64 65535), .lit (.int .u8 224), .lit (.int .u8 15)], .agg [.lit (.int .i64 1114111), .lit (.int .u8 240), .lit (.int .u8 7)]]

/-- 'lorgnettelaw05.QuoteWrites': WHATEVER THE INPUT: true; the input reads as it did. -/
def quoteWritesSpec : ChangeSpec := { name := "quoteWrites", fn := fun _ => fun
  | [d] => { results := [.lit (.bool true)], args := [d] }
  | _ => none }
def quoteWritesRow : OpenClaim := { program := "ytgjpjgfejjgheaadoor", sum := "d986274438daab47fcba72b14c5e17e9780f66621ac953a1f1f89ef59fc16720", func := "lorgnette/lorgnettelaw05.QuoteWrites", spec := "quoteWrites", unfollowed := true, recurses := true, named := ["lorgnette/utf.shapes"], apart := false, laid := [("lorgnette/utf.shapes", laid_lorgnette_utf_shapes)] }
def QuoteWritesSaid : Prop := quoteWritesRow.holds Tryd.pinned (OpenSpec.ofChange quoteWritesSpec)

/-- ITS FALSE NEIGHBOUR: 'it returns false'. Refute it at one input. -/
def quoteWritesWrong : ChangeSpec := { name := "quoteWrites", fn := fun _ => fun
  | [d] => { results := [.lit (.bool false)], args := [d] }
  | _ => none }
def QuoteWritesWrongFalsely : Prop := quoteWritesRow.holds Tryd.pinned (OpenSpec.ofChange quoteWritesWrong)

/-- 'lorgnettelaw05.QuoteBack': WHATEVER THE INPUT: true; the input reads as it did. -/
def quoteBackSpec : ChangeSpec := { name := "quoteBack", fn := fun _ => fun
  | [d1, d2, d3] => { results := [.lit (.bool true)], args := [d1, d2, d3] }
  | _ => none }
def quoteBackRow : OpenClaim := { program := "ytgjpjgfejjgheaadoor", sum := "d986274438daab47fcba72b14c5e17e9780f66621ac953a1f1f89ef59fc16720", func := "lorgnette/lorgnettelaw05.QuoteBack", spec := "quoteBack", unfollowed := true, recurses := true, named := ["lorgnette/utf.shapes"], apart := false, laid := [("lorgnette/utf.shapes", laid_lorgnette_utf_shapes)] }
def QuoteBackSaid : Prop := quoteBackRow.holds Tryd.pinned (OpenSpec.ofChange quoteBackSpec)

/-- ITS FALSE NEIGHBOUR: 'it returns false'. Refute it at one input. -/
def quoteBackWrong : ChangeSpec := { name := "quoteBack", fn := fun _ => fun
  | [d1, d2, d3] => { results := [.lit (.bool false)], args := [d1, d2, d3] }
  | _ => none }
def QuoteBackWrongFalsely : Prop := quoteBackRow.holds Tryd.pinned (OpenSpec.ofChange quoteBackWrong)

/-- 'lorgnettelaw05.QuoteSigns': WHATEVER THE INPUT: true; the input reads as it did. -/
def quoteSignsSpec : ChangeSpec := { name := "quoteSigns", fn := fun _ => fun
  | [d] => { results := [.lit (.bool true)], args := [d] }
  | _ => none }
def quoteSignsRow : OpenClaim := { program := "ytgjpjgfejjgheaadoor", sum := "d986274438daab47fcba72b14c5e17e9780f66621ac953a1f1f89ef59fc16720", func := "lorgnette/lorgnettelaw05.QuoteSigns", spec := "quoteSigns", unfollowed := true, recurses := true, named := ["lorgnette/utf.shapes"], apart := false, laid := [("lorgnette/utf.shapes", laid_lorgnette_utf_shapes)] }
def QuoteSignsSaid : Prop := quoteSignsRow.holds Tryd.pinned (OpenSpec.ofChange quoteSignsSpec)

/-- ITS FALSE NEIGHBOUR: 'it returns false'. Refute it at one input. -/
def quoteSignsWrong : ChangeSpec := { name := "quoteSigns", fn := fun _ => fun
  | [d] => { results := [.lit (.bool false)], args := [d] }
  | _ => none }
def QuoteSignsWrongFalsely : Prop := quoteSignsRow.holds Tryd.pinned (OpenSpec.ofChange quoteSignsWrong)

/-- 'lorgnettelaw05.QuoteViable': WHATEVER THE INPUT: true; the input reads as it did. -/
def quoteViableSpec : ChangeSpec := { name := "quoteViable", fn := fun _ => fun
  | [d1, d2] => { results := [.lit (.bool true)], args := [d1, d2] }
  | _ => none }
def quoteViableRow : OpenClaim := { program := "ytgjpjgfejjgheaadoor", sum := "d986274438daab47fcba72b14c5e17e9780f66621ac953a1f1f89ef59fc16720", func := "lorgnette/lorgnettelaw05.QuoteViable", spec := "quoteViable", unfollowed := true, recurses := true, named := ["lorgnette/utf.shapes"], apart := false, laid := [("lorgnette/utf.shapes", laid_lorgnette_utf_shapes)] }
def QuoteViableSaid : Prop := quoteViableRow.holds Tryd.pinned (OpenSpec.ofChange quoteViableSpec)

/-- ITS FALSE NEIGHBOUR: 'it returns false'. Refute it at one input. -/
def quoteViableWrong : ChangeSpec := { name := "quoteViable", fn := fun _ => fun
  | [d1, d2] => { results := [.lit (.bool false)], args := [d1, d2] }
  | _ => none }
def QuoteViableWrongFalsely : Prop := quoteViableRow.holds Tryd.pinned (OpenSpec.ofChange quoteViableWrong)

/- THE SECOND FORM. 'bulk': how many values and letters a reading holds, each counted each time it is reached (what is shared counts as often as it is met; a slice's spare places count too). A statement '..UptoSaid' is the law's where the arguments, and the package variables that the reading takes, are together of bulk at most 1048576: NARROWER than '..Said'. Prove '..Said' where nothing that the law and all that it calls make is longer than what came in: it says more and counts as full. Else prove '..UptoSaid'. A law counts once. -/
mutual
def uptoBulk {H : Type} : DataW H → Nat
  | .lit (.string bytes) => bytes.length + 1
  | .lit _ => 1
  | .nil => 1
  | .ptr d => uptoBulk d + 1
  | .slice elems spare => uptoBulkAll elems + uptoBulkAll spare + 1
  | .agg parts => uptoBulkAll parts + 1
  | .iface _ d => uptoBulk d + 1
  | .map entries => uptoBulkEntries entries + 1
  | .held _ => 1
def uptoBulkAll {H : Type} : List (DataW H) → Nat
  | [] => 0
  | d :: r => uptoBulk d + uptoBulkAll r
def uptoBulkEntries {H : Type} : List (Lit × DataW H) → Nat
  | [] => 0
  | x :: r => uptoBulkEntry x + uptoBulkEntries r
def uptoBulkEntry {H : Type} : Lit × DataW H → Nat
  | (.string bytes, d) => bytes.length + uptoBulk d + 1
  | (_, d) => uptoBulk d + 1
 end
def uptoSmall : (H : Type) → List (DataW H) → Bool := fun _ ds => decide (uptoBulkAll ds ≤ 1048576)
def OpenSpec.upto (s : _root_.Go.ChangeSpec) : _root_.Go.OpenSpec := { _root_.Go.OpenSpec.ofChange s with cond := some uptoSmall }

/-- 'lorgnettelaw05.QuoteWrites', WHERE WHAT IT READS IS OF BULK AT MOST 1048576: true; the input reads as it did. -/
def quoteWritesUptoRow : OpenClaim := { program := "ytgjpjgfejjgheaadoor", sum := "d986274438daab47fcba72b14c5e17e9780f66621ac953a1f1f89ef59fc16720", func := "lorgnette/lorgnettelaw05.QuoteWrites", spec := "quoteWrites", unfollowed := true, recurses := true, named := ["lorgnette/utf.shapes"], apart := false, laid := [("lorgnette/utf.shapes", laid_lorgnette_utf_shapes)], narrowed := true }
def QuoteWritesUptoSaid : Prop := quoteWritesUptoRow.holds Tryd.pinned (OpenSpec.upto quoteWritesSpec)

/-- 'lorgnettelaw05.QuoteBack', WHERE WHAT IT READS IS OF BULK AT MOST 1048576: true; the input reads as it did. -/
def quoteBackUptoRow : OpenClaim := { program := "ytgjpjgfejjgheaadoor", sum := "d986274438daab47fcba72b14c5e17e9780f66621ac953a1f1f89ef59fc16720", func := "lorgnette/lorgnettelaw05.QuoteBack", spec := "quoteBack", unfollowed := true, recurses := true, named := ["lorgnette/utf.shapes"], apart := false, laid := [("lorgnette/utf.shapes", laid_lorgnette_utf_shapes)], narrowed := true }
def QuoteBackUptoSaid : Prop := quoteBackUptoRow.holds Tryd.pinned (OpenSpec.upto quoteBackSpec)

/-- 'lorgnettelaw05.QuoteSigns', WHERE WHAT IT READS IS OF BULK AT MOST 1048576: true; the input reads as it did. -/
def quoteSignsUptoRow : OpenClaim := { program := "ytgjpjgfejjgheaadoor", sum := "d986274438daab47fcba72b14c5e17e9780f66621ac953a1f1f89ef59fc16720", func := "lorgnette/lorgnettelaw05.QuoteSigns", spec := "quoteSigns", unfollowed := true, recurses := true, named := ["lorgnette/utf.shapes"], apart := false, laid := [("lorgnette/utf.shapes", laid_lorgnette_utf_shapes)], narrowed := true }
def QuoteSignsUptoSaid : Prop := quoteSignsUptoRow.holds Tryd.pinned (OpenSpec.upto quoteSignsSpec)

/-- 'lorgnettelaw05.QuoteViable', WHERE WHAT IT READS IS OF BULK AT MOST 1048576: true; the input reads as it did. -/
def quoteViableUptoRow : OpenClaim := { program := "ytgjpjgfejjgheaadoor", sum := "d986274438daab47fcba72b14c5e17e9780f66621ac953a1f1f89ef59fc16720", func := "lorgnette/lorgnettelaw05.QuoteViable", spec := "quoteViable", unfollowed := true, recurses := true, named := ["lorgnette/utf.shapes"], apart := false, laid := [("lorgnette/utf.shapes", laid_lorgnette_utf_shapes)], narrowed := true }
def QuoteViableUptoSaid : Prop := quoteViableUptoRow.holds Tryd.pinned (OpenSpec.upto quoteViableSpec)

end Rows
end Go.Proofs.YtgjpjgfejjgheaaDoor
