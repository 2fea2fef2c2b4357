/-
  NARROWER THAN 'FOR EVERY INPUT', by the rows' own cells (each row's printed sentence says how): SyntaxDepths: loops, laid · SyntaxParens: laid · SyntaxPlaces: laid · SyntaxSigns: laid.
  DERIVED. THE GIVEN ROWS OF THIS SEAT. 4 by the template 'for every input the law returns true; each argument reads behind the call as it read before'; 0 by the template 'total and deterministic' (their statements: YtpgiljibicigeaaGreatDoorTotals.lean).
  GIVEN WITH THE SEED: the statements are not yours to turn. If you find one false, say at which input.
  Laid BY PROGRAM, IN A SANDBOX (cutbox-rows.mjs): the forced cells as the released guide's own fill.sh prints them over the translation 88b1498b048c9bbe… (all of the seat's roots in one cut). By AI agents, Wed Nov 11 2026. No macro, syntax, notation, axiom, sorry.
-/
import Derived.Test.YtpgiljibicigeaaGreatDoorChecked
import GoSem.Claim
import GoSem.ClaimJoined
import GoSem.ClaimMapViews
import Derived.JoinedTies
import Derived.KernelRfl
namespace Go.Proofs.YtpgiljibicigeaaGreatDoor
/- THE CELL 'sum', in the pinned program and in every row, IS THE sha256 OF THE DUMP (.gsa) THAT YtpgiljibicigeaaGreatDoorProg.lean LOADS. Nothing in Lean hashes anything: it is a label: what it is worth is what the hold of that sum in a sandbox is worth. -/
noncomputable def Tryz.pinned : Pinned := { name := "ytpgiljibicigeaagreatdoor", sum := "88b1498b048c9bbef88f81f6bf427408184bf82e1b4eac758a38ed7c655eff50", checked := Tryz.checked }
namespace Rows
def none {H : Type} : Left H := { results := [], args := [] }

/- WHAT THE LISTED PACKAGE-LEVEL VARIABLES READ AS WHEN THE CALL BEGINS. Each datum BY PROGRAM (the guide's laid-datum.mjs) off the statement by which the dump's own 'gosem.cut.vars' lays the variable. In a bare row this is a premise. The card (YtpgiljibicigeaaGreatDoorCards.lean) ties it to the program's text. -/
def laid_lorgnette_utf_shapes {H : Type} : DataW H := .agg [.agg [.lit (.int .i64 127), .lit (.int .u8 0), .lit (.int .u8 127)], .agg [.lit (.int .i64 2047), .lit (.int .u8 192), .lit (.int .u8 31)], .agg [.lit (.int .i64 65535), .lit (.int .u8 224), .lit (.int .u8 15)], .agg [.lit (.int .i64 1114111), .lit (.int .u8 240), .lit (.int .u8 7)]]
def laid_math_bits_deBruijn32tab {H : Type} : DataW H := .agg [.lit (.int .u8 0), .lit (.int .u8 1), .lit (.int .u8 28), .lit (.int .u8 2), .lit (.int .u8 29), .lit (.int .u8 14), .lit (.int .u8 24), .lit (.int .u8 3), .lit (.int .u8 30), .lit (.int .u8 22), .lit (.int .u8 20), .lit (.int .u8 15), .lit (.int .u8 25), .lit (.int .u8 17), .lit (.int .u8 4), .lit (.int .u8 8), .lit (.int .u8 31), .lit (.int .u8 27), .lit (.int .u8 13), .lit (.int .u8 23), .lit (.int .u8 21), .lit (.int .u8 19), .lit (.int .u8 16), .lit (.int .u8 7), .lit (.int .u8 26), .lit (.int .u8 12), .lit (.int .u8 18), .lit (.int .u8 6), .lit (.int .u8 11), .lit (.int .u8 5), .lit (.int .u8 10), .lit (.int .u8 9)]
def laid_math_bits_deBruijn64tab {H : Type} : DataW H := .agg [.lit (.int .u8 0), .lit (.int .u8 1), .lit (.int .u8 56), .lit (.int .u8 2), .lit (.int .u8 57), .lit (.int .u8 49), .lit (.int .u8 28), .lit (.int .u8 3), .lit (.int .u8 61), .lit (.int .u8 58), .lit (.int .u8 42), .lit (.int .u8 50), .lit (.int .u8 38), .lit (.int .u8 29), .lit (.int .u8 17), .lit (.int .u8 4), .lit (.int .u8 62), .lit (.int .u8 47), .lit (.int .u8 59), .lit (.int .u8 36), .lit (.int .u8 45), .lit (.int .u8 43), .lit (.int .u8 51), .lit (.int .u8 22), .lit (.int .u8 53), .lit (.int .u8 39), .lit (.int .u8 33), .lit (.int .u8 30), .lit (.int .u8 24), .lit (.int .u8 18), .lit (.int .u8 12), .lit (.int .u8 5), .lit (.int .u8 63), .lit (.int .u8 55), .lit (.int .u8 48), .lit (.int .u8 27), .lit (.int .u8 60), .lit (.int .u8 41), .lit (.int .u8 37), .lit (.int .u8 16), .lit (.int .u8 46), .lit (.int .u8 35), .lit (.int .u8 44), .lit (.int .u8 21), .lit (.int .u8 52), .lit (.int .u8 32), .lit (.int .u8 23), .lit (.int .u8 11), .lit (.int .u8 54), .lit (.int .u8 26), .lit (.int .u8 40), .lit (.int .u8 15), .lit (.int .u8 34), .lit (.int .u8 20), .lit (.int .u8 31), .lit (.int .u8 10), .lit (.int .u8 25), .lit (.int .u8 14), .lit (.int .u8 19), .lit (.int .u8 9), .lit (.int .u8 13), .lit (.int .u8 8), .lit (.int .u8 7), .lit (.int .u8 6)]
def laid_internal_strconv_uint64pow10 {H : Type} : DataW H := .agg [.lit (.int .u64 1), .lit (.int .u64 10), .lit (.int .u64 100), .lit (.int .u64 1000), .lit (.int .u64 10000), .lit (.int .u64 100000), .lit (.int .u64 1000000), .lit (.int .u64 10000000), .lit (.int .u64 100000000), .lit (.int .u64 1000000000), .lit (.int .u64 10000000000), .lit (.int .u64 100000000000), .lit (.int .u64 1000000000000), .lit (.int .u64 10000000000000), .lit (.int .u64 100000000000000), .lit (.int .u64 1000000000000000), .lit (.int .u64 10000000000000000), .lit (.int .u64 100000000000000000), .lit (.int .u64 1000000000000000000), .lit (.int .u64 10000000000000000000)]
def laid_lorgnette_lex_signs {H : Type} : DataW H := .agg [.lit (.string [47, 47, 61]), .lit (.string [124, 61]), .lit (.string [43, 61]), .lit (.string [45, 61]), .lit (.string [42, 61]), .lit (.string [47, 61]), .lit (.string [37, 61]), .lit (.string [47, 47]), .lit (.string [61, 61]), .lit (.string [33, 61]), .lit (.string [60, 61]), .lit (.string [62, 61]), .lit (.string [46, 46]), .lit (.string [46]), .lit (.string [91]), .lit (.string [93]), .lit (.string [123]), .lit (.string [125]), .lit (.string [40]), .lit (.string [41]), .lit (.string [124]), .lit (.string [44]), .lit (.string [61]), .lit (.string [60]), .lit (.string [62]), .lit (.string [43]), .lit (.string [45]), .lit (.string [42]), .lit (.string [47]), .lit (.string [37]), .lit (.string [63]), .lit (.string [58]), .lit (.string [59])]
def laid_lorgnette_lex_words {H : Type} : DataW H := .agg [.lit (.string [97, 110, 100]), .lit (.string [97, 115]), .lit (.string [98, 114, 101, 97, 107]), .lit (.string [99, 97, 116, 99, 104]), .lit (.string [100, 101, 102]), .lit (.string [101, 108, 105, 102]), .lit (.string [101, 108, 115, 101]), .lit (.string [101, 110, 100]), .lit (.string [102, 111, 114, 101, 97, 99, 104]), .lit (.string [105, 102]), .lit (.string [108, 97, 98, 101, 108]), .lit (.string [111, 114]), .lit (.string [114, 101, 100, 117, 99, 101]), .lit (.string [116, 104, 101, 110]), .lit (.string [116, 114, 121])]
def laid_lorgnette_syntax_signs {H : Type} : DataW H := .agg [.agg [.lit (.string [44]), .lit (.int .i64 0), .lit (.int .i64 0), .lit (.int .i64 1)], .agg [.lit (.string [47, 47]), .lit (.int .i64 1), .lit (.int .i64 2), .lit (.int .i64 1)], .agg [.lit (.string [61]), .lit (.int .i64 2), .lit (.int .i64 3), .lit (.int .i64 3)], .agg [.lit (.string [124, 61]), .lit (.int .i64 2), .lit (.int .i64 3), .lit (.int .i64 3)], .agg [.lit (.string [43, 61]), .lit (.int .i64 2), .lit (.int .i64 3), .lit (.int .i64 3)], .agg [.lit (.string [45, 61]), .lit (.int .i64 2), .lit (.int .i64 3), .lit (.int .i64 3)], .agg [.lit (.string [42, 61]), .lit (.int .i64 2), .lit (.int .i64 3), .lit (.int .i64 3)], .agg [.lit (.string [47, 61]), .lit (.int .i64 2), .lit (.int .i64 3), .lit (.int .i64 3)], .agg [.lit (.string [37, 61]), .lit (.int .i64 2), .lit (.int .i64 3), .lit (.int .i64 3)], .agg [.lit (.string [47, 47, 61]), .lit (.int .i64 2), .lit (.int .i64 3), .lit (.int .i64 3)], .agg [.lit (.string [111, 114]), .lit (.int .i64 3), .lit (.int .i64 3), .lit (.int .i64 4)], .agg [.lit (.string [97, 110, 100]), .lit (.int .i64 4), .lit (.int .i64 4), .lit (.int .i64 5)], .agg [.lit (.string [61, 61]), .lit (.int .i64 5), .lit (.int .i64 6), .lit (.int .i64 6)], .agg [.lit (.string [33, 61]), .lit (.int .i64 5), .lit (.int .i64 6), .lit (.int .i64 6)], .agg [.lit (.string [60]), .lit (.int .i64 5), .lit (.int .i64 6), .lit (.int .i64 6)], .agg [.lit (.string [60, 61]), .lit (.int .i64 5), .lit (.int .i64 6), .lit (.int .i64 6)], .agg [.lit (.string [62]), .lit (.int .i64 5), .lit (.int .i64 6), .lit (.int .i64 6)], .agg [.lit (.string [62, 61]), .lit (.int .i64 5), .lit (.int .i64 6), .lit (.int .i64 6)], .agg [.lit (.string [43]), .lit (.int .i64 6), .lit (.int .i64 6), .lit (.int .i64 7)], .agg [.lit (.string [45]), .lit (.int .i64 6), .lit (.int .i64 6), .lit (.int .i64 7)], .agg [.lit (.string [42]), .lit (.int .i64 7), .lit (.int .i64 7), .lit (.int .i64 8)], .agg [.lit (.string [47]), .lit (.int .i64 7), .lit (.int .i64 7), .lit (.int .i64 8)], .agg [.lit (.string [37]), .lit (.int .i64 7), .lit (.int .i64 7), .lit (.int .i64 8)]]

/-- 'lorgnettelaw15.SyntaxDepths': WHATEVER THE INPUT: true; the input reads as it did. -/
def syntaxDepthsSpec : ChangeSpec := { name := "syntaxDepths", fn := fun _ => fun
  | [d1, d2] => { results := [.lit (.bool true)], args := [d1, d2] }
  | _ => none }
def syntaxDepthsRow : OpenClaim := { program := "ytpgiljibicigeaagreatdoor", sum := "88b1498b048c9bbef88f81f6bf427408184bf82e1b4eac758a38ed7c655eff50", func := "lorgnette/lorgnettelaw15.SyntaxDepths", spec := "syntaxDepths", inPlace := ["internal/bytealg.IndexByteString", "internal/abi.NoEscape"], unfollowed := true, recurses := true, named := ["lorgnette/utf.shapes", "lorgnette/lex.signs", "internal/strconv.uint64pow10", "math/bits.deBruijn32tab", "math/bits.deBruijn64tab", "lorgnette/lex.words", "lorgnette/syntax.signs"], loops := true, apart := false, laid := [("lorgnette/utf.shapes", laid_lorgnette_utf_shapes), ("math/bits.deBruijn32tab", laid_math_bits_deBruijn32tab), ("math/bits.deBruijn64tab", laid_math_bits_deBruijn64tab), ("internal/strconv.uint64pow10", laid_internal_strconv_uint64pow10), ("lorgnette/lex.signs", laid_lorgnette_lex_signs), ("lorgnette/lex.words", laid_lorgnette_lex_words), ("lorgnette/syntax.signs", laid_lorgnette_syntax_signs)] }
def SyntaxDepthsSaid : Prop := syntaxDepthsRow.holds Tryz.pinned (OpenSpec.ofChange syntaxDepthsSpec)

/-- ITS FALSE NEIGHBOUR: 'it returns false'. Refute it at one input. -/
def syntaxDepthsWrong : ChangeSpec := { name := "syntaxDepths", fn := fun _ => fun
  | [d1, d2] => { results := [.lit (.bool false)], args := [d1, d2] }
  | _ => none }
def SyntaxDepthsWrongFalsely : Prop := syntaxDepthsRow.holds Tryz.pinned (OpenSpec.ofChange syntaxDepthsWrong)

/-- 'lorgnettelaw15.SyntaxParens': WHATEVER THE INPUT: true; the input reads as it did. -/
def syntaxParensSpec : ChangeSpec := { name := "syntaxParens", fn := fun _ => fun
  | [d1, d2] => { results := [.lit (.bool true)], args := [d1, d2] }
  | _ => none }
def syntaxParensRow : OpenClaim := { program := "ytpgiljibicigeaagreatdoor", sum := "88b1498b048c9bbef88f81f6bf427408184bf82e1b4eac758a38ed7c655eff50", func := "lorgnette/lorgnettelaw15.SyntaxParens", spec := "syntaxParens", inPlace := ["internal/bytealg.IndexByteString", "internal/abi.NoEscape"], unfollowed := true, recurses := true, named := ["lorgnette/utf.shapes", "lorgnette/lex.signs", "internal/strconv.uint64pow10", "math/bits.deBruijn32tab", "math/bits.deBruijn64tab", "lorgnette/lex.words", "lorgnette/syntax.signs"], apart := false, laid := [("lorgnette/utf.shapes", laid_lorgnette_utf_shapes), ("math/bits.deBruijn32tab", laid_math_bits_deBruijn32tab), ("math/bits.deBruijn64tab", laid_math_bits_deBruijn64tab), ("internal/strconv.uint64pow10", laid_internal_strconv_uint64pow10), ("lorgnette/lex.signs", laid_lorgnette_lex_signs), ("lorgnette/lex.words", laid_lorgnette_lex_words), ("lorgnette/syntax.signs", laid_lorgnette_syntax_signs)] }
def SyntaxParensSaid : Prop := syntaxParensRow.holds Tryz.pinned (OpenSpec.ofChange syntaxParensSpec)

/-- ITS FALSE NEIGHBOUR: 'it returns false'. Refute it at one input. -/
def syntaxParensWrong : ChangeSpec := { name := "syntaxParens", fn := fun _ => fun
  | [d1, d2] => { results := [.lit (.bool false)], args := [d1, d2] }
  | _ => none }
def SyntaxParensWrongFalsely : Prop := syntaxParensRow.holds Tryz.pinned (OpenSpec.ofChange syntaxParensWrong)

/-- 'lorgnettelaw15.SyntaxPlaces': WHATEVER THE INPUT: true; the input reads as it did. -/
def syntaxPlacesSpec : ChangeSpec := { name := "syntaxPlaces", fn := fun _ => fun
  | [d] => { results := [.lit (.bool true)], args := [d] }
  | _ => none }
def syntaxPlacesRow : OpenClaim := { program := "ytpgiljibicigeaagreatdoor", sum := "88b1498b048c9bbef88f81f6bf427408184bf82e1b4eac758a38ed7c655eff50", func := "lorgnette/lorgnettelaw15.SyntaxPlaces", spec := "syntaxPlaces", inPlace := ["internal/bytealg.IndexByteString", "internal/abi.NoEscape"], unfollowed := true, recurses := true, named := ["lorgnette/utf.shapes", "lorgnette/lex.signs", "internal/strconv.uint64pow10", "math/bits.deBruijn32tab", "math/bits.deBruijn64tab", "lorgnette/lex.words", "lorgnette/syntax.signs"], apart := false, laid := [("lorgnette/utf.shapes", laid_lorgnette_utf_shapes), ("math/bits.deBruijn32tab", laid_math_bits_deBruijn32tab), ("math/bits.deBruijn64tab", laid_math_bits_deBruijn64tab), ("internal/strconv.uint64pow10", laid_internal_strconv_uint64pow10), ("lorgnette/lex.signs", laid_lorgnette_lex_signs), ("lorgnette/lex.words", laid_lorgnette_lex_words), ("lorgnette/syntax.signs", laid_lorgnette_syntax_signs)] }
def SyntaxPlacesSaid : Prop := syntaxPlacesRow.holds Tryz.pinned (OpenSpec.ofChange syntaxPlacesSpec)

/-- ITS FALSE NEIGHBOUR: 'it returns false'. Refute it at one input. -/
def syntaxPlacesWrong : ChangeSpec := { name := "syntaxPlaces", fn := fun _ => fun
  | [d] => { results := [.lit (.bool false)], args := [d] }
  | _ => none }
def SyntaxPlacesWrongFalsely : Prop := syntaxPlacesRow.holds Tryz.pinned (OpenSpec.ofChange syntaxPlacesWrong)

/-- 'lorgnettelaw15.SyntaxSigns': WHATEVER THE INPUT: true; the input reads as it did. -/
def syntaxSignsSpec : ChangeSpec := { name := "syntaxSigns", fn := fun _ => fun
  | [d1, d2] => { results := [.lit (.bool true)], args := [d1, d2] }
  | _ => none }
def syntaxSignsRow : OpenClaim := { program := "ytpgiljibicigeaagreatdoor", sum := "88b1498b048c9bbef88f81f6bf427408184bf82e1b4eac758a38ed7c655eff50", func := "lorgnette/lorgnettelaw15.SyntaxSigns", spec := "syntaxSigns", inPlace := ["internal/bytealg.IndexByteString", "internal/abi.NoEscape"], unfollowed := true, recurses := true, named := ["lorgnette/utf.shapes", "lorgnette/lex.signs", "internal/strconv.uint64pow10", "math/bits.deBruijn32tab", "math/bits.deBruijn64tab", "lorgnette/lex.words", "lorgnette/syntax.signs"], apart := false, laid := [("lorgnette/utf.shapes", laid_lorgnette_utf_shapes), ("math/bits.deBruijn32tab", laid_math_bits_deBruijn32tab), ("math/bits.deBruijn64tab", laid_math_bits_deBruijn64tab), ("internal/strconv.uint64pow10", laid_internal_strconv_uint64pow10), ("lorgnette/lex.signs", laid_lorgnette_lex_signs), ("lorgnette/lex.words", laid_lorgnette_lex_words), ("lorgnette/syntax.signs", laid_lorgnette_syntax_signs)] }
def SyntaxSignsSaid : Prop := syntaxSignsRow.holds Tryz.pinned (OpenSpec.ofChange syntaxSignsSpec)

/-- ITS FALSE NEIGHBOUR: 'it returns false'. Refute it at one input. -/
def syntaxSignsWrong : ChangeSpec := { name := "syntaxSigns", fn := fun _ => fun
  | [d1, d2] => { results := [.lit (.bool false)], args := [d1, d2] }
  | _ => none }
def SyntaxSignsWrongFalsely : Prop := syntaxSignsRow.holds Tryz.pinned (OpenSpec.ofChange syntaxSignsWrong)

/- THE SECOND FORM. 'bulk': how many values and letters a reading holds, each counted each time it is reached (what is shared counts as often as it is met; a slice's spare places count too). A statement '..UptoSaid' is the law's where the arguments, and the package variables that the reading takes, are together of bulk at most 1048576: NARROWER than '..Said'. Prove '..Said' where nothing that the law and all that it calls make is longer than what came in: it says more and counts as full. Else prove '..UptoSaid'. A law counts once. -/
mutual
def uptoBulk {H : Type} : DataW H → Nat
  | .lit (.string bytes) => bytes.length + 1
  | .lit _ => 1
  | .nil => 1
  | .ptr d => uptoBulk d + 1
  | .slice elems spare => uptoBulkAll elems + uptoBulkAll spare + 1
  | .agg parts => uptoBulkAll parts + 1
  | .iface _ d => uptoBulk d + 1
  | .map entries => uptoBulkEntries entries + 1
  | .held _ => 1
def uptoBulkAll {H : Type} : List (DataW H) → Nat
  | [] => 0
  | d :: r => uptoBulk d + uptoBulkAll r
def uptoBulkEntries {H : Type} : List (Lit × DataW H) → Nat
  | [] => 0
  | x :: r => uptoBulkEntry x + uptoBulkEntries r
def uptoBulkEntry {H : Type} : Lit × DataW H → Nat
  | (.string bytes, d) => bytes.length + uptoBulk d + 1
  | (_, d) => uptoBulk d + 1
 end
def uptoSmall : (H : Type) → List (DataW H) → Bool := fun _ ds => decide (uptoBulkAll ds ≤ 1048576)
def OpenSpec.upto (s : _root_.Go.ChangeSpec) : _root_.Go.OpenSpec := { _root_.Go.OpenSpec.ofChange s with cond := some uptoSmall }

/-- 'lorgnettelaw15.SyntaxDepths', WHERE WHAT IT READS IS OF BULK AT MOST 1048576: true; the input reads as it did. -/
def syntaxDepthsUptoRow : OpenClaim := { program := "ytpgiljibicigeaagreatdoor", sum := "88b1498b048c9bbef88f81f6bf427408184bf82e1b4eac758a38ed7c655eff50", func := "lorgnette/lorgnettelaw15.SyntaxDepths", spec := "syntaxDepths", inPlace := ["internal/bytealg.IndexByteString", "internal/abi.NoEscape"], unfollowed := true, recurses := true, named := ["lorgnette/utf.shapes", "lorgnette/lex.signs", "internal/strconv.uint64pow10", "math/bits.deBruijn32tab", "math/bits.deBruijn64tab", "lorgnette/lex.words", "lorgnette/syntax.signs"], loops := true, apart := false, laid := [("lorgnette/utf.shapes", laid_lorgnette_utf_shapes), ("math/bits.deBruijn32tab", laid_math_bits_deBruijn32tab), ("math/bits.deBruijn64tab", laid_math_bits_deBruijn64tab), ("internal/strconv.uint64pow10", laid_internal_strconv_uint64pow10), ("lorgnette/lex.signs", laid_lorgnette_lex_signs), ("lorgnette/lex.words", laid_lorgnette_lex_words), ("lorgnette/syntax.signs", laid_lorgnette_syntax_signs)], narrowed := true }
def SyntaxDepthsUptoSaid : Prop := syntaxDepthsUptoRow.holds Tryz.pinned (OpenSpec.upto syntaxDepthsSpec)

/-- 'lorgnettelaw15.SyntaxParens', WHERE WHAT IT READS IS OF BULK AT MOST 1048576: true; the input reads as it did. -/
def syntaxParensUptoRow : OpenClaim := { program := "ytpgiljibicigeaagreatdoor", sum := "88b1498b048c9bbef88f81f6bf427408184bf82e1b4eac758a38ed7c655eff50", func := "lorgnette/lorgnettelaw15.SyntaxParens", spec := "syntaxParens", inPlace := ["internal/bytealg.IndexByteString", "internal/abi.NoEscape"], unfollowed := true, recurses := true, named := ["lorgnette/utf.shapes", "lorgnette/lex.signs", "internal/strconv.uint64pow10", "math/bits.deBruijn32tab", "math/bits.deBruijn64tab", "lorgnette/lex.words", "lorgnette/syntax.signs"], apart := false, laid := [("lorgnette/utf.shapes", laid_lorgnette_utf_shapes), ("math/bits.deBruijn32tab", laid_math_bits_deBruijn32tab), ("math/bits.deBruijn64tab", laid_math_bits_deBruijn64tab), ("internal/strconv.uint64pow10", laid_internal_strconv_uint64pow10), ("lorgnette/lex.signs", laid_lorgnette_lex_signs), ("lorgnette/lex.words", laid_lorgnette_lex_words), ("lorgnette/syntax.signs", laid_lorgnette_syntax_signs)], narrowed := true }
def SyntaxParensUptoSaid : Prop := syntaxParensUptoRow.holds Tryz.pinned (OpenSpec.upto syntaxParensSpec)

/-- 'lorgnettelaw15.SyntaxPlaces', WHERE WHAT IT READS IS OF BULK AT MOST 1048576: true; the input reads as it did. -/
def syntaxPlacesUptoRow : OpenClaim := { program := "ytpgiljibicigeaagreatdoor", sum := "88b1498b048c9bbef88f81f6bf427408184bf82e1b4eac758a38ed7c655eff50", func := "lorgnette/lorgnettelaw15.SyntaxPlaces", spec := "syntaxPlaces", inPlace := ["internal/bytealg.IndexByteString", "internal/abi.NoEscape"], unfollowed := true, recurses := true, named := ["lorgnette/utf.shapes", "lorgnette/lex.signs", "internal/strconv.uint64pow10", "math/bits.deBruijn32tab", "math/bits.deBruijn64tab", "lorgnette/lex.words", "lorgnette/syntax.signs"], apart := false, laid := [("lorgnette/utf.shapes", laid_lorgnette_utf_shapes), ("math/bits.deBruijn32tab", laid_math_bits_deBruijn32tab), ("math/bits.deBruijn64tab", laid_math_bits_deBruijn64tab), ("internal/strconv.uint64pow10", laid_internal_strconv_uint64pow10), ("lorgnette/lex.signs", laid_lorgnette_lex_signs), ("lorgnette/lex.words", laid_lorgnette_lex_words), ("lorgnette/syntax.signs", laid_lorgnette_syntax_signs)], narrowed := true }
def SyntaxPlacesUptoSaid : Prop := syntaxPlacesUptoRow.holds Tryz.pinned (OpenSpec.upto syntaxPlacesSpec)

/-- 'lorgnettelaw15.SyntaxSigns', WHERE WHAT IT READS IS OF BULK AT MOST 1048576: true; the input reads as it did. -/
def syntaxSignsUptoRow : OpenClaim := { program := "ytpgiljibicigeaagreatdoor", sum := "88b1498b048c9bbef88f81f6bf427408184bf82e1b4eac758a38ed7c655eff50", func := "lorgnette/lorgnettelaw15.SyntaxSigns", spec := "syntaxSigns", inPlace := ["internal/bytealg.IndexByteString", "internal/abi.NoEscape"], unfollowed := true, recurses := true, named := ["lorgnette/utf.shapes", "lorgnette/lex.signs", "internal/strconv.uint64pow10", "math/bits.deBruijn32tab", "math/bits.deBruijn64tab", "lorgnette/lex.words", "lorgnette/syntax.signs"], apart := false, laid := [("lorgnette/utf.shapes", laid_lorgnette_utf_shapes), ("math/bits.deBruijn32tab", laid_math_bits_deBruijn32tab), ("math/bits.deBruijn64tab", laid_math_bits_deBruijn64tab), ("internal/strconv.uint64pow10", laid_internal_strconv_uint64pow10), ("lorgnette/lex.signs", laid_lorgnette_lex_signs), ("lorgnette/lex.words", laid_lorgnette_lex_words), ("lorgnette/syntax.signs", laid_lorgnette_syntax_signs)], narrowed := true }
def SyntaxSignsUptoSaid : Prop := syntaxSignsUptoRow.holds Tryz.pinned (OpenSpec.upto syntaxSignsSpec)

end Rows
end Go.Proofs.YtpgiljibicigeaaGreatDoor
