/-
  No cell of these rows narrows 'for every input' (looked for: loops, veiled, ifaces, maps, wideKeys, modest, calm, conditions, laid).
  DERIVED. THE GIVEN ROWS OF THIS SEAT. 8 by the template 'for every input the law returns true; each argument reads behind the call as it read before'; 0 by the template 'total and deterministic' (their statements: YtmkehanihnflpaaTotals.lean).
  GIVEN WITH THE SEED: the statements are not yours to turn. If you find one false, say at which input.
  Laid BY PROGRAM, IN A SANDBOX (cutbox-rows.mjs): the forced cells as the released guide's own fill.sh prints them over the translation d7177706c1808c3a… (all of the seat's roots in one cut). By AI agents, Wed Nov 11 2026. No macro, syntax, notation, axiom, sorry.
-/
import Derived.Test.YtmkehanihnflpaaChecked
import GoSem.Claim
import GoSem.ClaimJoined
import GoSem.ClaimMapViews
import Derived.JoinedTies
import Derived.KernelRfl
namespace Go.Proofs.Ytmkehanihnflpaa
/- THE CELL 'sum', in the pinned program and in every row, IS THE sha256 OF THE DUMP (.gsa) THAT YtmkehanihnflpaaProg.lean LOADS. Nothing in Lean hashes anything: it is a label: what it is worth is what the hold of that sum in a sandbox is worth. -/
noncomputable def Try.pinned : Pinned := { name := "ytmkehanihnflpaa", sum := "d7177706c1808c3aad7c8155e6c03b606bfc0f25aced9bbaa700990ef41329fd", checked := Try.checked }
namespace Rows
def none {H : Type} : Left H := { results := [], args := [] }

/-- 'lorgnettelaw06.BitmapBits': WHATEVER THE INPUT: true; the input reads as it did. -/
def bitmapBitsSpec : ChangeSpec := { name := "bitmapBits", fn := fun _ => fun
  | [d1, d2] => { results := [.lit (.bool true)], args := [d1, d2] }
  | _ => none }
def bitmapBitsRow : OpenClaim := { program := "ytmkehanihnflpaa", sum := "d7177706c1808c3aad7c8155e6c03b606bfc0f25aced9bbaa700990ef41329fd", func := "lorgnette/lorgnettelaw06.BitmapBits", spec := "bitmapBits", apart := false }
def BitmapBitsSaid : Prop := bitmapBitsRow.holds Try.pinned (OpenSpec.ofChange bitmapBitsSpec)

/-- ITS FALSE NEIGHBOUR: 'it returns false'. Refute it at one input. -/
def bitmapBitsWrong : ChangeSpec := { name := "bitmapBits", fn := fun _ => fun
  | [d1, d2] => { results := [.lit (.bool false)], args := [d1, d2] }
  | _ => none }
def BitmapBitsWrongFalsely : Prop := bitmapBitsRow.holds Try.pinned (OpenSpec.ofChange bitmapBitsWrong)

/-- 'lorgnettelaw06.BitmapPrefixes': WHATEVER THE INPUT: true; the input reads as it did. -/
def bitmapPrefixesSpec : ChangeSpec := { name := "bitmapPrefixes", fn := fun _ => fun
  | [d] => { results := [.lit (.bool true)], args := [d] }
  | _ => none }
def bitmapPrefixesRow : OpenClaim := { program := "ytmkehanihnflpaa", sum := "d7177706c1808c3aad7c8155e6c03b606bfc0f25aced9bbaa700990ef41329fd", func := "lorgnette/lorgnettelaw06.BitmapPrefixes", spec := "bitmapPrefixes", apart := false }
def BitmapPrefixesSaid : Prop := bitmapPrefixesRow.holds Try.pinned (OpenSpec.ofChange bitmapPrefixesSpec)

/-- ITS FALSE NEIGHBOUR: 'it returns false'. Refute it at one input. -/
def bitmapPrefixesWrong : ChangeSpec := { name := "bitmapPrefixes", fn := fun _ => fun
  | [d] => { results := [.lit (.bool false)], args := [d] }
  | _ => none }
def BitmapPrefixesWrongFalsely : Prop := bitmapPrefixesRow.holds Try.pinned (OpenSpec.ofChange bitmapPrefixesWrong)

/-- 'lorgnettelaw06.BitmapEscapes': WHATEVER THE INPUT: true; the input reads as it did. -/
def bitmapEscapesSpec : ChangeSpec := { name := "bitmapEscapes", fn := fun _ => fun
  | [d1, d2] => { results := [.lit (.bool true)], args := [d1, d2] }
  | _ => none }
def bitmapEscapesRow : OpenClaim := { program := "ytmkehanihnflpaa", sum := "d7177706c1808c3aad7c8155e6c03b606bfc0f25aced9bbaa700990ef41329fd", func := "lorgnette/lorgnettelaw06.BitmapEscapes", spec := "bitmapEscapes", apart := false }
def BitmapEscapesSaid : Prop := bitmapEscapesRow.holds Try.pinned (OpenSpec.ofChange bitmapEscapesSpec)

/-- ITS FALSE NEIGHBOUR: 'it returns false'. Refute it at one input. -/
def bitmapEscapesWrong : ChangeSpec := { name := "bitmapEscapes", fn := fun _ => fun
  | [d1, d2] => { results := [.lit (.bool false)], args := [d1, d2] }
  | _ => none }
def BitmapEscapesWrongFalsely : Prop := bitmapEscapesRow.holds Try.pinned (OpenSpec.ofChange bitmapEscapesWrong)

/-- 'lorgnettelaw06.BitmapInsides': WHATEVER THE INPUT: true; the input reads as it did. -/
def bitmapInsidesSpec : ChangeSpec := { name := "bitmapInsides", fn := fun _ => fun
  | [d1, d2] => { results := [.lit (.bool true)], args := [d1, d2] }
  | _ => none }
def bitmapInsidesRow : OpenClaim := { program := "ytmkehanihnflpaa", sum := "d7177706c1808c3aad7c8155e6c03b606bfc0f25aced9bbaa700990ef41329fd", func := "lorgnette/lorgnettelaw06.BitmapInsides", spec := "bitmapInsides", apart := false }
def BitmapInsidesSaid : Prop := bitmapInsidesRow.holds Try.pinned (OpenSpec.ofChange bitmapInsidesSpec)

/-- ITS FALSE NEIGHBOUR: 'it returns false'. Refute it at one input. -/
def bitmapInsidesWrong : ChangeSpec := { name := "bitmapInsides", fn := fun _ => fun
  | [d1, d2] => { results := [.lit (.bool false)], args := [d1, d2] }
  | _ => none }
def BitmapInsidesWrongFalsely : Prop := bitmapInsidesRow.holds Try.pinned (OpenSpec.ofChange bitmapInsidesWrong)

/-- 'lorgnettelaw06.BitmapScans': WHATEVER THE INPUT: true; the input reads as it did. -/
def bitmapScansSpec : ChangeSpec := { name := "bitmapScans", fn := fun _ => fun
  | [d1, d2] => { results := [.lit (.bool true)], args := [d1, d2] }
  | _ => none }
def bitmapScansRow : OpenClaim := { program := "ytmkehanihnflpaa", sum := "d7177706c1808c3aad7c8155e6c03b606bfc0f25aced9bbaa700990ef41329fd", func := "lorgnette/lorgnettelaw06.BitmapScans", spec := "bitmapScans", apart := false }
def BitmapScansSaid : Prop := bitmapScansRow.holds Try.pinned (OpenSpec.ofChange bitmapScansSpec)

/-- ITS FALSE NEIGHBOUR: 'it returns false'. Refute it at one input. -/
def bitmapScansWrong : ChangeSpec := { name := "bitmapScans", fn := fun _ => fun
  | [d1, d2] => { results := [.lit (.bool false)], args := [d1, d2] }
  | _ => none }
def BitmapScansWrongFalsely : Prop := bitmapScansRow.holds Try.pinned (OpenSpec.ofChange bitmapScansWrong)

/-- 'lorgnettelaw06.BitmapSums': WHATEVER THE INPUT: true; the input reads as it did. -/
def bitmapSumsSpec : ChangeSpec := { name := "bitmapSums", fn := fun _ => fun
  | [d1, d2] => { results := [.lit (.bool true)], args := [d1, d2] }
  | _ => none }
def bitmapSumsRow : OpenClaim := { program := "ytmkehanihnflpaa", sum := "d7177706c1808c3aad7c8155e6c03b606bfc0f25aced9bbaa700990ef41329fd", func := "lorgnette/lorgnettelaw06.BitmapSums", spec := "bitmapSums", apart := false }
def BitmapSumsSaid : Prop := bitmapSumsRow.holds Try.pinned (OpenSpec.ofChange bitmapSumsSpec)

/-- ITS FALSE NEIGHBOUR: 'it returns false'. Refute it at one input. -/
def bitmapSumsWrong : ChangeSpec := { name := "bitmapSums", fn := fun _ => fun
  | [d1, d2] => { results := [.lit (.bool false)], args := [d1, d2] }
  | _ => none }
def BitmapSumsWrongFalsely : Prop := bitmapSumsRow.holds Try.pinned (OpenSpec.ofChange bitmapSumsWrong)

/-- 'lorgnettelaw06.BitmapRuns': WHATEVER THE INPUT: true; the input reads as it did. -/
def bitmapRunsSpec : ChangeSpec := { name := "bitmapRuns", fn := fun _ => fun
  | [d1, d2] => { results := [.lit (.bool true)], args := [d1, d2] }
  | _ => none }
def bitmapRunsRow : OpenClaim := { program := "ytmkehanihnflpaa", sum := "d7177706c1808c3aad7c8155e6c03b606bfc0f25aced9bbaa700990ef41329fd", func := "lorgnette/lorgnettelaw06.BitmapRuns", spec := "bitmapRuns", apart := false }
def BitmapRunsSaid : Prop := bitmapRunsRow.holds Try.pinned (OpenSpec.ofChange bitmapRunsSpec)

/-- ITS FALSE NEIGHBOUR: 'it returns false'. Refute it at one input. -/
def bitmapRunsWrong : ChangeSpec := { name := "bitmapRuns", fn := fun _ => fun
  | [d1, d2] => { results := [.lit (.bool false)], args := [d1, d2] }
  | _ => none }
def BitmapRunsWrongFalsely : Prop := bitmapRunsRow.holds Try.pinned (OpenSpec.ofChange bitmapRunsWrong)

/-- 'lorgnettelaw06.BitmapMarks': WHATEVER THE INPUT: true; the input reads as it did. -/
def bitmapMarksSpec : ChangeSpec := { name := "bitmapMarks", fn := fun _ => fun
  | [d1, d2] => { results := [.lit (.bool true)], args := [d1, d2] }
  | _ => none }
def bitmapMarksRow : OpenClaim := { program := "ytmkehanihnflpaa", sum := "d7177706c1808c3aad7c8155e6c03b606bfc0f25aced9bbaa700990ef41329fd", func := "lorgnette/lorgnettelaw06.BitmapMarks", spec := "bitmapMarks", apart := false }
def BitmapMarksSaid : Prop := bitmapMarksRow.holds Try.pinned (OpenSpec.ofChange bitmapMarksSpec)

/-- ITS FALSE NEIGHBOUR: 'it returns false'. Refute it at one input. -/
def bitmapMarksWrong : ChangeSpec := { name := "bitmapMarks", fn := fun _ => fun
  | [d1, d2] => { results := [.lit (.bool false)], args := [d1, d2] }
  | _ => none }
def BitmapMarksWrongFalsely : Prop := bitmapMarksRow.holds Try.pinned (OpenSpec.ofChange bitmapMarksWrong)

/- THE SECOND FORM. 'bulk': how many values and letters a reading holds, each counted each time it is reached (what is shared counts as often as it is met; a slice's spare places count too). A statement '..UptoSaid' is the law's where the arguments, and the package variables that the reading takes, are together of bulk at most 1048576: NARROWER than '..Said'. Prove '..Said' where nothing that the law and all that it calls make is longer than what came in: it says more and counts as full. Else prove '..UptoSaid'. A law counts once. -/
mutual
def uptoBulk {H : Type} : DataW H → Nat
  | .lit (.string bytes) => bytes.length + 1
  | .lit _ => 1
  | .nil => 1
  | .ptr d => uptoBulk d + 1
  | .slice elems spare => uptoBulkAll elems + uptoBulkAll spare + 1
  | .agg parts => uptoBulkAll parts + 1
  | .iface _ d => uptoBulk d + 1
  | .map entries => uptoBulkEntries entries + 1
  | .held _ => 1
def uptoBulkAll {H : Type} : List (DataW H) → Nat
  | [] => 0
  | d :: r => uptoBulk d + uptoBulkAll r
def uptoBulkEntries {H : Type} : List (Lit × DataW H) → Nat
  | [] => 0
  | x :: r => uptoBulkEntry x + uptoBulkEntries r
def uptoBulkEntry {H : Type} : Lit × DataW H → Nat
  | (.string bytes, d) => bytes.length + uptoBulk d + 1
  | (_, d) => uptoBulk d + 1
 end
def uptoSmall : (H : Type) → List (DataW H) → Bool := fun _ ds => decide (uptoBulkAll ds ≤ 1048576)
def OpenSpec.upto (s : _root_.Go.ChangeSpec) : _root_.Go.OpenSpec := { _root_.Go.OpenSpec.ofChange s with cond := some uptoSmall }

/-- 'lorgnettelaw06.BitmapBits', WHERE WHAT IT READS IS OF BULK AT MOST 1048576: true; the input reads as it did. -/
def bitmapBitsUptoRow : OpenClaim := { program := "ytmkehanihnflpaa", sum := "d7177706c1808c3aad7c8155e6c03b606bfc0f25aced9bbaa700990ef41329fd", func := "lorgnette/lorgnettelaw06.BitmapBits", spec := "bitmapBits", apart := false, narrowed := true }
def BitmapBitsUptoSaid : Prop := bitmapBitsUptoRow.holds Try.pinned (OpenSpec.upto bitmapBitsSpec)

/-- 'lorgnettelaw06.BitmapPrefixes', WHERE WHAT IT READS IS OF BULK AT MOST 1048576: true; the input reads as it did. -/
def bitmapPrefixesUptoRow : OpenClaim := { program := "ytmkehanihnflpaa", sum := "d7177706c1808c3aad7c8155e6c03b606bfc0f25aced9bbaa700990ef41329fd", func := "lorgnette/lorgnettelaw06.BitmapPrefixes", spec := "bitmapPrefixes", apart := false, narrowed := true }
def BitmapPrefixesUptoSaid : Prop := bitmapPrefixesUptoRow.holds Try.pinned (OpenSpec.upto bitmapPrefixesSpec)

/-- 'lorgnettelaw06.BitmapEscapes', WHERE WHAT IT READS IS OF BULK AT MOST 1048576: true; the input reads as it did. -/
def bitmapEscapesUptoRow : OpenClaim := { program := "ytmkehanihnflpaa", sum := "d7177706c1808c3aad7c8155e6c03b606bfc0f25aced9bbaa700990ef41329fd", func := "lorgnette/lorgnettelaw06.BitmapEscapes", spec := "bitmapEscapes", apart := false, narrowed := true }
def BitmapEscapesUptoSaid : Prop := bitmapEscapesUptoRow.holds Try.pinned (OpenSpec.upto bitmapEscapesSpec)

/-- 'lorgnettelaw06.BitmapInsides', WHERE WHAT IT READS IS OF BULK AT MOST 1048576: true; the input reads as it did. -/
def bitmapInsidesUptoRow : OpenClaim := { program := "ytmkehanihnflpaa", sum := "d7177706c1808c3aad7c8155e6c03b606bfc0f25aced9bbaa700990ef41329fd", func := "lorgnette/lorgnettelaw06.BitmapInsides", spec := "bitmapInsides", apart := false, narrowed := true }
def BitmapInsidesUptoSaid : Prop := bitmapInsidesUptoRow.holds Try.pinned (OpenSpec.upto bitmapInsidesSpec)

/-- 'lorgnettelaw06.BitmapScans', WHERE WHAT IT READS IS OF BULK AT MOST 1048576: true; the input reads as it did. -/
def bitmapScansUptoRow : OpenClaim := { program := "ytmkehanihnflpaa", sum := "d7177706c1808c3aad7c8155e6c03b606bfc0f25aced9bbaa700990ef41329fd", func := "lorgnette/lorgnettelaw06.BitmapScans", spec := "bitmapScans", apart := false, narrowed := true }
def BitmapScansUptoSaid : Prop := bitmapScansUptoRow.holds Try.pinned (OpenSpec.upto bitmapScansSpec)

/-- 'lorgnettelaw06.BitmapSums', WHERE WHAT IT READS IS OF BULK AT MOST 1048576: true; the input reads as it did. -/
def bitmapSumsUptoRow : OpenClaim := { program := "ytmkehanihnflpaa", sum := "d7177706c1808c3aad7c8155e6c03b606bfc0f25aced9bbaa700990ef41329fd", func := "lorgnette/lorgnettelaw06.BitmapSums", spec := "bitmapSums", apart := false, narrowed := true }
def BitmapSumsUptoSaid : Prop := bitmapSumsUptoRow.holds Try.pinned (OpenSpec.upto bitmapSumsSpec)

/-- 'lorgnettelaw06.BitmapRuns', WHERE WHAT IT READS IS OF BULK AT MOST 1048576: true; the input reads as it did. -/
def bitmapRunsUptoRow : OpenClaim := { program := "ytmkehanihnflpaa", sum := "d7177706c1808c3aad7c8155e6c03b606bfc0f25aced9bbaa700990ef41329fd", func := "lorgnette/lorgnettelaw06.BitmapRuns", spec := "bitmapRuns", apart := false, narrowed := true }
def BitmapRunsUptoSaid : Prop := bitmapRunsUptoRow.holds Try.pinned (OpenSpec.upto bitmapRunsSpec)

/-- 'lorgnettelaw06.BitmapMarks', WHERE WHAT IT READS IS OF BULK AT MOST 1048576: true; the input reads as it did. -/
def bitmapMarksUptoRow : OpenClaim := { program := "ytmkehanihnflpaa", sum := "d7177706c1808c3aad7c8155e6c03b606bfc0f25aced9bbaa700990ef41329fd", func := "lorgnette/lorgnettelaw06.BitmapMarks", spec := "bitmapMarks", apart := false, narrowed := true }
def BitmapMarksUptoSaid : Prop := bitmapMarksUptoRow.holds Try.pinned (OpenSpec.upto bitmapMarksSpec)

end Rows
end Go.Proofs.Ytmkehanihnflpaa
