/-
  NARROWER THAN 'FOR EVERY INPUT', by the rows' own cells (each row's printed sentence says how): LexNames: laid · LexRises: laid · LexBlanks: laid · LexJoins: laid.
  DERIVED. THE GIVEN ROWS OF THIS SEAT. 4 by the template 'for every input the law returns true; each argument reads behind the call as it read before'; 0 by the template 'total and deterministic' (their statements: YtjjacffacmpopaaDoorTotals.lean).
  GIVEN WITH THE SEED: the statements are not yours to turn. If you find one false, say at which input.
  Laid BY PROGRAM, IN A SANDBOX (cutbox-rows.mjs): the forced cells as the released guide's own fill.sh prints them over the translation 3e46d012ca530bc4… (all of the seat's roots in one cut). By AI agents, Wed Nov 11 2026. No macro, syntax, notation, axiom, sorry.
-/
import Derived.Test.YtjjacffacmpopaaDoorChecked
import GoSem.Claim
import GoSem.ClaimJoined
import GoSem.ClaimMapViews
import Derived.JoinedTies
import Derived.KernelRfl
namespace Go.Proofs.YtjjacffacmpopaaDoor
/- THE CELL 'sum', in the pinned program and in every row, IS THE sha256 OF THE DUMP (.gsa) THAT YtjjacffacmpopaaDoorProg.lean LOADS. Nothing in Lean hashes anything: it is a label: what it is worth is what the hold of that sum in a sandbox is worth. -/
noncomputable def Tryd.pinned : Pinned := { name := "ytjjacffacmpopaadoor", sum := "3e46d012ca530bc4aa5888d49570eb9ee4a30eecb3be9cbf747b7a5ca4271142", checked := Tryd.checked }
namespace Rows
def none {H : Type} : Left H := { results := [], args := [] }

/- WHAT THE LISTED PACKAGE-LEVEL VARIABLES READ AS WHEN THE CALL BEGINS. Each datum BY PROGRAM (the guide's laid-datum.mjs) off the statement by which the dump's own 'gosem.cut.vars' lays the variable. In a bare row this is a premise. The card (YtjjacffacmpopaaDoorCards.lean) ties it to the program's text. -/
def laid_lorgnette_utf_shapes {H : Type} : DataW H := .agg [.agg [.lit (.int .i64 127), .lit (.int .u8 0), .lit (.int .u8 127)], .agg [.lit (.int .i64 2047), .lit (.int .u8 192), .lit (.int .u8 31)], .agg [.lit (.int .i64 65535), .lit (.int .u8 224), .lit (.int .u8 15)], .agg [.lit (.int .i64 1114111), .lit (.int .u8 240), .lit (.int .u8 7)]]
def laid_lorgnette_lex_signs {H : Type} : DataW H := .agg [.lit (.string [47, 47, 61]), .lit (.string [124, 61]), .lit (.string [43, 61]), .lit (.string [45, 61]), .lit (.string [42, 61]), .lit (.string [47, 61]), .lit (.string [37, 61]), .lit (.string [47, 47]), .lit (.string [61, 61]), .lit (.string [33, 61]), .lit (.string [60, 61]), .lit (.string [62, 61]), .lit (.string [46, 46]), .lit (.string [46]), .lit (.string [91]), .lit (.string [93]), .lit (.string [123]), .lit (.string [125]), .lit (.string [40]), .lit (.string [41]), .lit (.string [124]), .lit (.string [44]), .lit (.string [61]), .lit (.string [60]), .lit (.string [62]), .lit (.string [43]), .lit (.string [45]), .lit (.string [42]), .lit (.string [47]), .lit (.string [37]), .lit (.string [63]), .lit (.string [58]), .lit (.string [59])]
def laid_lorgnette_lex_words {H : Type} : DataW H := .agg [.lit (.string [97, 110, 100]), .lit (.string [97, 115]), .lit (.string [98, 114, 101, 97, 107]), .lit (.string [99, 97, 116, 99, 104]), .lit (.string [100, 101, 102]), .lit (.string [101, 108, 105, 102]), .lit (.string [101, 108, 115, 101]), .lit (.string [101, 110, 100]), .lit (.string [102, 111, 114, 101, 97, 99, 104]), .lit (.string [105, 102]), .lit (.string [108, 97, 98, 101, 108]), .lit (.string [111, 114]), .lit (.string [114, 101, 100, 117, 99, 101]), .lit (.string [116, 104, 101, 110]), .lit (.string [116, 114, 121])]

/-- 'lorgnettelaw14.LexNames': WHATEVER THE INPUT: true; the input reads as it did. -/
def lexNamesSpec : ChangeSpec := { name := "lexNames", fn := fun _ => fun
  | [d] => { results := [.lit (.bool true)], args := [d] }
  | _ => none }
def lexNamesRow : OpenClaim := { program := "ytjjacffacmpopaadoor", sum := "3e46d012ca530bc4aa5888d49570eb9ee4a30eecb3be9cbf747b7a5ca4271142", func := "lorgnette/lorgnettelaw14.LexNames", spec := "lexNames", inPlace := ["internal/bytealg.IndexByteString", "internal/abi.NoEscape"], unfollowed := true, recurses := true, named := ["lorgnette/utf.shapes", "lorgnette/lex.signs", "lorgnette/lex.words"], apart := false, laid := [("lorgnette/utf.shapes", laid_lorgnette_utf_shapes), ("lorgnette/lex.signs", laid_lorgnette_lex_signs), ("lorgnette/lex.words", laid_lorgnette_lex_words)] }
def LexNamesSaid : Prop := lexNamesRow.holds Tryd.pinned (OpenSpec.ofChange lexNamesSpec)

/-- ITS FALSE NEIGHBOUR: 'it returns false'. Refute it at one input. -/
def lexNamesWrong : ChangeSpec := { name := "lexNames", fn := fun _ => fun
  | [d] => { results := [.lit (.bool false)], args := [d] }
  | _ => none }
def LexNamesWrongFalsely : Prop := lexNamesRow.holds Tryd.pinned (OpenSpec.ofChange lexNamesWrong)

/-- 'lorgnettelaw14.LexRises': WHATEVER THE INPUT: true; the input reads as it did. -/
def lexRisesSpec : ChangeSpec := { name := "lexRises", fn := fun _ => fun
  | [d] => { results := [.lit (.bool true)], args := [d] }
  | _ => none }
def lexRisesRow : OpenClaim := { program := "ytjjacffacmpopaadoor", sum := "3e46d012ca530bc4aa5888d49570eb9ee4a30eecb3be9cbf747b7a5ca4271142", func := "lorgnette/lorgnettelaw14.LexRises", spec := "lexRises", inPlace := ["internal/bytealg.IndexByteString", "internal/abi.NoEscape"], unfollowed := true, recurses := true, named := ["lorgnette/utf.shapes", "lorgnette/lex.signs"], apart := false, laid := [("lorgnette/utf.shapes", laid_lorgnette_utf_shapes), ("lorgnette/lex.signs", laid_lorgnette_lex_signs)] }
def LexRisesSaid : Prop := lexRisesRow.holds Tryd.pinned (OpenSpec.ofChange lexRisesSpec)

/-- ITS FALSE NEIGHBOUR: 'it returns false'. Refute it at one input. -/
def lexRisesWrong : ChangeSpec := { name := "lexRises", fn := fun _ => fun
  | [d] => { results := [.lit (.bool false)], args := [d] }
  | _ => none }
def LexRisesWrongFalsely : Prop := lexRisesRow.holds Tryd.pinned (OpenSpec.ofChange lexRisesWrong)

/-- 'lorgnettelaw14.LexBlanks': WHATEVER THE INPUT: true; the input reads as it did. -/
def lexBlanksSpec : ChangeSpec := { name := "lexBlanks", fn := fun _ => fun
  | [d1, d2] => { results := [.lit (.bool true)], args := [d1, d2] }
  | _ => none }
def lexBlanksRow : OpenClaim := { program := "ytjjacffacmpopaadoor", sum := "3e46d012ca530bc4aa5888d49570eb9ee4a30eecb3be9cbf747b7a5ca4271142", func := "lorgnette/lorgnettelaw14.LexBlanks", spec := "lexBlanks", inPlace := ["internal/bytealg.IndexByteString", "internal/abi.NoEscape"], unfollowed := true, recurses := true, named := ["lorgnette/utf.shapes", "lorgnette/lex.signs"], apart := false, laid := [("lorgnette/utf.shapes", laid_lorgnette_utf_shapes), ("lorgnette/lex.signs", laid_lorgnette_lex_signs)] }
def LexBlanksSaid : Prop := lexBlanksRow.holds Tryd.pinned (OpenSpec.ofChange lexBlanksSpec)

/-- ITS FALSE NEIGHBOUR: 'it returns false'. Refute it at one input. -/
def lexBlanksWrong : ChangeSpec := { name := "lexBlanks", fn := fun _ => fun
  | [d1, d2] => { results := [.lit (.bool false)], args := [d1, d2] }
  | _ => none }
def LexBlanksWrongFalsely : Prop := lexBlanksRow.holds Tryd.pinned (OpenSpec.ofChange lexBlanksWrong)

/-- 'lorgnettelaw14.LexJoins': WHATEVER THE INPUT: true; the input reads as it did. -/
def lexJoinsSpec : ChangeSpec := { name := "lexJoins", fn := fun _ => fun
  | [d1, d2] => { results := [.lit (.bool true)], args := [d1, d2] }
  | _ => none }
def lexJoinsRow : OpenClaim := { program := "ytjjacffacmpopaadoor", sum := "3e46d012ca530bc4aa5888d49570eb9ee4a30eecb3be9cbf747b7a5ca4271142", func := "lorgnette/lorgnettelaw14.LexJoins", spec := "lexJoins", inPlace := ["internal/bytealg.IndexByteString", "internal/abi.NoEscape"], unfollowed := true, recurses := true, named := ["lorgnette/utf.shapes", "lorgnette/lex.signs"], apart := false, laid := [("lorgnette/utf.shapes", laid_lorgnette_utf_shapes), ("lorgnette/lex.signs", laid_lorgnette_lex_signs)] }
def LexJoinsSaid : Prop := lexJoinsRow.holds Tryd.pinned (OpenSpec.ofChange lexJoinsSpec)

/-- ITS FALSE NEIGHBOUR: 'it returns false'. Refute it at one input. -/
def lexJoinsWrong : ChangeSpec := { name := "lexJoins", fn := fun _ => fun
  | [d1, d2] => { results := [.lit (.bool false)], args := [d1, d2] }
  | _ => none }
def LexJoinsWrongFalsely : Prop := lexJoinsRow.holds Tryd.pinned (OpenSpec.ofChange lexJoinsWrong)

/- THE SECOND FORM. 'bulk': how many values and letters a reading holds, each counted each time it is reached (what is shared counts as often as it is met; a slice's spare places count too). A statement '..UptoSaid' is the law's where the arguments, and the package variables that the reading takes, are together of bulk at most 1048576: NARROWER than '..Said'. Prove '..Said' where nothing that the law and all that it calls make is longer than what came in: it says more and counts as full. Else prove '..UptoSaid'. A law counts once. -/
mutual
def uptoBulk {H : Type} : DataW H → Nat
  | .lit (.string bytes) => bytes.length + 1
  | .lit _ => 1
  | .nil => 1
  | .ptr d => uptoBulk d + 1
  | .slice elems spare => uptoBulkAll elems + uptoBulkAll spare + 1
  | .agg parts => uptoBulkAll parts + 1
  | .iface _ d => uptoBulk d + 1
  | .map entries => uptoBulkEntries entries + 1
  | .held _ => 1
def uptoBulkAll {H : Type} : List (DataW H) → Nat
  | [] => 0
  | d :: r => uptoBulk d + uptoBulkAll r
def uptoBulkEntries {H : Type} : List (Lit × DataW H) → Nat
  | [] => 0
  | x :: r => uptoBulkEntry x + uptoBulkEntries r
def uptoBulkEntry {H : Type} : Lit × DataW H → Nat
  | (.string bytes, d) => bytes.length + uptoBulk d + 1
  | (_, d) => uptoBulk d + 1
 end
def uptoSmall : (H : Type) → List (DataW H) → Bool := fun _ ds => decide (uptoBulkAll ds ≤ 1048576)
def OpenSpec.upto (s : _root_.Go.ChangeSpec) : _root_.Go.OpenSpec := { _root_.Go.OpenSpec.ofChange s with cond := some uptoSmall }

/-- 'lorgnettelaw14.LexNames', WHERE WHAT IT READS IS OF BULK AT MOST 1048576: true; the input reads as it did. -/
def lexNamesUptoRow : OpenClaim := { program := "ytjjacffacmpopaadoor", sum := "3e46d012ca530bc4aa5888d49570eb9ee4a30eecb3be9cbf747b7a5ca4271142", func := "lorgnette/lorgnettelaw14.LexNames", spec := "lexNames", inPlace := ["internal/bytealg.IndexByteString", "internal/abi.NoEscape"], unfollowed := true, recurses := true, named := ["lorgnette/utf.shapes", "lorgnette/lex.signs", "lorgnette/lex.words"], apart := false, laid := [("lorgnette/utf.shapes", laid_lorgnette_utf_shapes), ("lorgnette/lex.signs", laid_lorgnette_lex_signs), ("lorgnette/lex.words", laid_lorgnette_lex_words)], narrowed := true }
def LexNamesUptoSaid : Prop := lexNamesUptoRow.holds Tryd.pinned (OpenSpec.upto lexNamesSpec)

/-- 'lorgnettelaw14.LexRises', WHERE WHAT IT READS IS OF BULK AT MOST 1048576: true; the input reads as it did. -/
def lexRisesUptoRow : OpenClaim := { program := "ytjjacffacmpopaadoor", sum := "3e46d012ca530bc4aa5888d49570eb9ee4a30eecb3be9cbf747b7a5ca4271142", func := "lorgnette/lorgnettelaw14.LexRises", spec := "lexRises", inPlace := ["internal/bytealg.IndexByteString", "internal/abi.NoEscape"], unfollowed := true, recurses := true, named := ["lorgnette/utf.shapes", "lorgnette/lex.signs"], apart := false, laid := [("lorgnette/utf.shapes", laid_lorgnette_utf_shapes), ("lorgnette/lex.signs", laid_lorgnette_lex_signs)], narrowed := true }
def LexRisesUptoSaid : Prop := lexRisesUptoRow.holds Tryd.pinned (OpenSpec.upto lexRisesSpec)

/-- 'lorgnettelaw14.LexBlanks', WHERE WHAT IT READS IS OF BULK AT MOST 1048576: true; the input reads as it did. -/
def lexBlanksUptoRow : OpenClaim := { program := "ytjjacffacmpopaadoor", sum := "3e46d012ca530bc4aa5888d49570eb9ee4a30eecb3be9cbf747b7a5ca4271142", func := "lorgnette/lorgnettelaw14.LexBlanks", spec := "lexBlanks", inPlace := ["internal/bytealg.IndexByteString", "internal/abi.NoEscape"], unfollowed := true, recurses := true, named := ["lorgnette/utf.shapes", "lorgnette/lex.signs"], apart := false, laid := [("lorgnette/utf.shapes", laid_lorgnette_utf_shapes), ("lorgnette/lex.signs", laid_lorgnette_lex_signs)], narrowed := true }
def LexBlanksUptoSaid : Prop := lexBlanksUptoRow.holds Tryd.pinned (OpenSpec.upto lexBlanksSpec)

/-- 'lorgnettelaw14.LexJoins', WHERE WHAT IT READS IS OF BULK AT MOST 1048576: true; the input reads as it did. -/
def lexJoinsUptoRow : OpenClaim := { program := "ytjjacffacmpopaadoor", sum := "3e46d012ca530bc4aa5888d49570eb9ee4a30eecb3be9cbf747b7a5ca4271142", func := "lorgnette/lorgnettelaw14.LexJoins", spec := "lexJoins", inPlace := ["internal/bytealg.IndexByteString", "internal/abi.NoEscape"], unfollowed := true, recurses := true, named := ["lorgnette/utf.shapes", "lorgnette/lex.signs"], apart := false, laid := [("lorgnette/utf.shapes", laid_lorgnette_utf_shapes), ("lorgnette/lex.signs", laid_lorgnette_lex_signs)], narrowed := true }
def LexJoinsUptoSaid : Prop := lexJoinsUptoRow.holds Tryd.pinned (OpenSpec.upto lexJoinsSpec)

end Rows
end Go.Proofs.YtjjacffacmpopaaDoor
