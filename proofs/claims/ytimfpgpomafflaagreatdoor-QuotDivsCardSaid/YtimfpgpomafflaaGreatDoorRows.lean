/-
  NARROWER THAN 'FOR EVERY INPUT', by the rows' own cells (each row's printed sentence says how): QuotDivs: laid · QuotRems: laid · QuotRounds: laid · QuotInts: laid · QuotOff: laid · QuotBetween: laid · QuotLess: laid.
  DERIVED. THE GIVEN ROWS OF THIS SEAT. 7 by the template 'for every input the law returns true; each argument reads behind the call as it read before'; 0 by the template 'total and deterministic' (their statements: YtimfpgpomafflaaGreatDoorTotals.lean).
  GIVEN WITH THE SEED: the statements are not yours to turn. If you find one false, say at which input.
  Laid BY PROGRAM, IN A SANDBOX (cutbox-rows.mjs): the forced cells as the released guide's own fill.sh prints them over the translation c765587e6ce469bd… (all of the seat's roots in one cut). By AI agents, Wed Nov 11 2026. No macro, syntax, notation, axiom, sorry.
-/
import Derived.Test.YtimfpgpomafflaaGreatDoorChecked
import GoSem.Claim
import GoSem.ClaimJoined
import GoSem.ClaimMapViews
import Derived.JoinedTies
import Derived.KernelRfl
namespace Go.Proofs.YtimfpgpomafflaaGreatDoor
/- THE CELL 'sum', in the pinned program and in every row, IS THE sha256 OF THE DUMP (.gsa) THAT YtimfpgpomafflaaGreatDoorProg.lean LOADS. Nothing in Lean hashes anything: it is a label: what it is worth is what the hold of that sum in a sandbox is worth. -/
noncomputable def Tryz.pinned : Pinned := { name := "ytimfpgpomafflaagreatdoor", sum := "c765587e6ce469bd611800c87fed95d31f658c7faf9d335b7d6d8a0f6218a9a0", checked := Tryz.checked }
namespace Rows
def none {H : Type} : Left H := { results := [], args := [] }

/- WHAT THE LISTED PACKAGE-LEVEL VARIABLES READ AS WHEN THE CALL BEGINS. Each datum BY PROGRAM (the guide's laid-datum.mjs) off the statement by which the dump's own 'gosem.cut.vars' lays the variable. In a bare row this is a premise. The card (YtimfpgpomafflaaGreatDoorCards.lean) ties it to the program's text. -/
def laid_math_bits_deBruijn32tab {H : Type} : DataW H := .agg [.lit (.int .u8 0), .lit (.int .u8 1), .lit (.int .u8 28), .lit (.int .u8 2), .lit (.int .u8 29), .lit (.int .u8 14), .lit (.int .u8 24), .lit (.int .u8 3), .lit (.int .u8 30), .lit (.int .u8 22), .lit (.int .u8 20), .lit (.int .u8 15), .lit (.int .u8 25), .lit (.int .u8 17), .lit (.int .u8 4), .lit (.int .u8 8), .lit (.int .u8 31), .lit (.int .u8 27), .lit (.int .u8 13), .lit (.int .u8 23), .lit (.int .u8 21), .lit (.int .u8 19), .lit (.int .u8 16), .lit (.int .u8 7), .lit (.int .u8 26), .lit (.int .u8 12), .lit (.int .u8 18), .lit (.int .u8 6), .lit (.int .u8 11), .lit (.int .u8 5), .lit (.int .u8 10), .lit (.int .u8 9)]
def laid_math_bits_deBruijn64tab {H : Type} : DataW H := .agg [.lit (.int .u8 0), .lit (.int .u8 1), .lit (.int .u8 56), .lit (.int .u8 2), .lit (.int .u8 57), .lit (.int .u8 49), .lit (.int .u8 28), .lit (.int .u8 3), .lit (.int .u8 61), .lit (.int .u8 58), .lit (.int .u8 42), .lit (.int .u8 50), .lit (.int .u8 38), .lit (.int .u8 29), .lit (.int .u8 17), .lit (.int .u8 4), .lit (.int .u8 62), .lit (.int .u8 47), .lit (.int .u8 59), .lit (.int .u8 36), .lit (.int .u8 45), .lit (.int .u8 43), .lit (.int .u8 51), .lit (.int .u8 22), .lit (.int .u8 53), .lit (.int .u8 39), .lit (.int .u8 33), .lit (.int .u8 30), .lit (.int .u8 24), .lit (.int .u8 18), .lit (.int .u8 12), .lit (.int .u8 5), .lit (.int .u8 63), .lit (.int .u8 55), .lit (.int .u8 48), .lit (.int .u8 27), .lit (.int .u8 60), .lit (.int .u8 41), .lit (.int .u8 37), .lit (.int .u8 16), .lit (.int .u8 46), .lit (.int .u8 35), .lit (.int .u8 44), .lit (.int .u8 21), .lit (.int .u8 52), .lit (.int .u8 32), .lit (.int .u8 23), .lit (.int .u8 11), .lit (.int .u8 54), .lit (.int .u8 26), .lit (.int .u8 40), .lit (.int .u8 15), .lit (.int .u8 34), .lit (.int .u8 20), .lit (.int .u8 31), .lit (.int .u8 10), .lit (.int .u8 25), .lit (.int .u8 14), .lit (.int .u8 19), .lit (.int .u8 9), .lit (.int .u8 13), .lit (.int .u8 8), .lit (.int .u8 7), .lit (.int .u8 6)]
def laid_internal_strconv_uint64pow10 {H : Type} : DataW H := .agg [.lit (.int .u64 1), .lit (.int .u64 10), .lit (.int .u64 100), .lit (.int .u64 1000), .lit (.int .u64 10000), .lit (.int .u64 100000), .lit (.int .u64 1000000), .lit (.int .u64 10000000), .lit (.int .u64 100000000), .lit (.int .u64 1000000000), .lit (.int .u64 10000000000), .lit (.int .u64 100000000000), .lit (.int .u64 1000000000000), .lit (.int .u64 10000000000000), .lit (.int .u64 100000000000000), .lit (.int .u64 1000000000000000), .lit (.int .u64 10000000000000000), .lit (.int .u64 100000000000000000), .lit (.int .u64 1000000000000000000), .lit (.int .u64 10000000000000000000)]

/-- 'lorgnettelaw03.QuotDivs': WHATEVER THE INPUT: true; the input reads as it did. -/
def quotDivsSpec : ChangeSpec := { name := "quotDivs", fn := fun _ => fun
  | [d1, d2] => { results := [.lit (.bool true)], args := [d1, d2] }
  | _ => none }
def quotDivsRow : OpenClaim := { program := "ytimfpgpomafflaagreatdoor", sum := "c765587e6ce469bd611800c87fed95d31f658c7faf9d335b7d6d8a0f6218a9a0", func := "lorgnette/lorgnettelaw03.QuotDivs", spec := "quotDivs", inPlace := ["math/bits.Add64", "internal/abi.NoEscape", "internal/bytealg.MakeNoZero"], unfollowed := true, recurses := true, named := ["internal/strconv.uint64pow10", "math/bits.deBruijn32tab", "math/bits.deBruijn64tab", "math/bits.divideError", "math/bits.overflowError"], apart := false, laid := [("math/bits.deBruijn32tab", laid_math_bits_deBruijn32tab), ("math/bits.deBruijn64tab", laid_math_bits_deBruijn64tab), ("internal/strconv.uint64pow10", laid_internal_strconv_uint64pow10)] }
def QuotDivsSaid : Prop := quotDivsRow.holds Tryz.pinned (OpenSpec.ofChange quotDivsSpec)

/-- ITS FALSE NEIGHBOUR: 'it returns false'. Refute it at one input. -/
def quotDivsWrong : ChangeSpec := { name := "quotDivs", fn := fun _ => fun
  | [d1, d2] => { results := [.lit (.bool false)], args := [d1, d2] }
  | _ => none }
def QuotDivsWrongFalsely : Prop := quotDivsRow.holds Tryz.pinned (OpenSpec.ofChange quotDivsWrong)

/-- 'lorgnettelaw03.QuotRems': WHATEVER THE INPUT: true; the input reads as it did. -/
def quotRemsSpec : ChangeSpec := { name := "quotRems", fn := fun _ => fun
  | [d1, d2] => { results := [.lit (.bool true)], args := [d1, d2] }
  | _ => none }
def quotRemsRow : OpenClaim := { program := "ytimfpgpomafflaagreatdoor", sum := "c765587e6ce469bd611800c87fed95d31f658c7faf9d335b7d6d8a0f6218a9a0", func := "lorgnette/lorgnettelaw03.QuotRems", spec := "quotRems", inPlace := ["math/bits.Add64", "internal/abi.NoEscape", "internal/bytealg.MakeNoZero"], unfollowed := true, recurses := true, named := ["internal/strconv.uint64pow10", "math/bits.deBruijn32tab", "math/bits.deBruijn64tab", "math/bits.divideError", "math/bits.overflowError"], apart := false, laid := [("math/bits.deBruijn32tab", laid_math_bits_deBruijn32tab), ("math/bits.deBruijn64tab", laid_math_bits_deBruijn64tab), ("internal/strconv.uint64pow10", laid_internal_strconv_uint64pow10)] }
def QuotRemsSaid : Prop := quotRemsRow.holds Tryz.pinned (OpenSpec.ofChange quotRemsSpec)

/-- ITS FALSE NEIGHBOUR: 'it returns false'. Refute it at one input. -/
def quotRemsWrong : ChangeSpec := { name := "quotRems", fn := fun _ => fun
  | [d1, d2] => { results := [.lit (.bool false)], args := [d1, d2] }
  | _ => none }
def QuotRemsWrongFalsely : Prop := quotRemsRow.holds Tryz.pinned (OpenSpec.ofChange quotRemsWrong)

/-- 'lorgnettelaw03.QuotRounds': WHATEVER THE INPUT: true; the input reads as it did. -/
def quotRoundsSpec : ChangeSpec := { name := "quotRounds", fn := fun _ => fun
  | [d] => { results := [.lit (.bool true)], args := [d] }
  | _ => none }
def quotRoundsRow : OpenClaim := { program := "ytimfpgpomafflaagreatdoor", sum := "c765587e6ce469bd611800c87fed95d31f658c7faf9d335b7d6d8a0f6218a9a0", func := "lorgnette/lorgnettelaw03.QuotRounds", spec := "quotRounds", inPlace := ["math/bits.Add64", "internal/abi.NoEscape", "internal/bytealg.MakeNoZero"], unfollowed := true, recurses := true, named := ["internal/strconv.uint64pow10", "math/bits.deBruijn32tab", "math/bits.deBruijn64tab", "math/bits.divideError", "math/bits.overflowError"], apart := false, laid := [("math/bits.deBruijn32tab", laid_math_bits_deBruijn32tab), ("math/bits.deBruijn64tab", laid_math_bits_deBruijn64tab), ("internal/strconv.uint64pow10", laid_internal_strconv_uint64pow10)] }
def QuotRoundsSaid : Prop := quotRoundsRow.holds Tryz.pinned (OpenSpec.ofChange quotRoundsSpec)

/-- ITS FALSE NEIGHBOUR: 'it returns false'. Refute it at one input. -/
def quotRoundsWrong : ChangeSpec := { name := "quotRounds", fn := fun _ => fun
  | [d] => { results := [.lit (.bool false)], args := [d] }
  | _ => none }
def QuotRoundsWrongFalsely : Prop := quotRoundsRow.holds Tryz.pinned (OpenSpec.ofChange quotRoundsWrong)

/-- 'lorgnettelaw03.QuotInts': WHATEVER THE INPUT: true; the input reads as it did. -/
def quotIntsSpec : ChangeSpec := { name := "quotInts", fn := fun _ => fun
  | [d] => { results := [.lit (.bool true)], args := [d] }
  | _ => none }
def quotIntsRow : OpenClaim := { program := "ytimfpgpomafflaagreatdoor", sum := "c765587e6ce469bd611800c87fed95d31f658c7faf9d335b7d6d8a0f6218a9a0", func := "lorgnette/lorgnettelaw03.QuotInts", spec := "quotInts", inPlace := ["math/bits.Add64", "internal/abi.NoEscape", "internal/bytealg.MakeNoZero"], unfollowed := true, recurses := true, named := ["internal/strconv.uint64pow10", "math/bits.deBruijn32tab", "math/bits.deBruijn64tab", "math/bits.divideError", "math/bits.overflowError"], apart := false, laid := [("math/bits.deBruijn32tab", laid_math_bits_deBruijn32tab), ("math/bits.deBruijn64tab", laid_math_bits_deBruijn64tab), ("internal/strconv.uint64pow10", laid_internal_strconv_uint64pow10)] }
def QuotIntsSaid : Prop := quotIntsRow.holds Tryz.pinned (OpenSpec.ofChange quotIntsSpec)

/-- ITS FALSE NEIGHBOUR: 'it returns false'. Refute it at one input. -/
def quotIntsWrong : ChangeSpec := { name := "quotInts", fn := fun _ => fun
  | [d] => { results := [.lit (.bool false)], args := [d] }
  | _ => none }
def QuotIntsWrongFalsely : Prop := quotIntsRow.holds Tryz.pinned (OpenSpec.ofChange quotIntsWrong)

/-- 'lorgnettelaw03.QuotOff': WHATEVER THE INPUT: true; the input reads as it did. -/
def quotOffSpec : ChangeSpec := { name := "quotOff", fn := fun _ => fun
  | [d1, d2] => { results := [.lit (.bool true)], args := [d1, d2] }
  | _ => none }
def quotOffRow : OpenClaim := { program := "ytimfpgpomafflaagreatdoor", sum := "c765587e6ce469bd611800c87fed95d31f658c7faf9d335b7d6d8a0f6218a9a0", func := "lorgnette/lorgnettelaw03.QuotOff", spec := "quotOff", inPlace := ["math/bits.Add64", "internal/abi.NoEscape", "internal/bytealg.MakeNoZero"], unfollowed := true, recurses := true, named := ["internal/strconv.uint64pow10", "math/bits.deBruijn32tab", "math/bits.deBruijn64tab", "math/bits.divideError", "math/bits.overflowError"], apart := false, laid := [("math/bits.deBruijn32tab", laid_math_bits_deBruijn32tab), ("math/bits.deBruijn64tab", laid_math_bits_deBruijn64tab), ("internal/strconv.uint64pow10", laid_internal_strconv_uint64pow10)] }
def QuotOffSaid : Prop := quotOffRow.holds Tryz.pinned (OpenSpec.ofChange quotOffSpec)

/-- ITS FALSE NEIGHBOUR: 'it returns false'. Refute it at one input. -/
def quotOffWrong : ChangeSpec := { name := "quotOff", fn := fun _ => fun
  | [d1, d2] => { results := [.lit (.bool false)], args := [d1, d2] }
  | _ => none }
def QuotOffWrongFalsely : Prop := quotOffRow.holds Tryz.pinned (OpenSpec.ofChange quotOffWrong)

/-- 'lorgnettelaw03.QuotBetween': WHATEVER THE INPUT: true; the input reads as it did. -/
def quotBetweenSpec : ChangeSpec := { name := "quotBetween", fn := fun _ => fun
  | [d] => { results := [.lit (.bool true)], args := [d] }
  | _ => none }
def quotBetweenRow : OpenClaim := { program := "ytimfpgpomafflaagreatdoor", sum := "c765587e6ce469bd611800c87fed95d31f658c7faf9d335b7d6d8a0f6218a9a0", func := "lorgnette/lorgnettelaw03.QuotBetween", spec := "quotBetween", inPlace := ["math/bits.Add64", "internal/abi.NoEscape", "internal/bytealg.MakeNoZero"], unfollowed := true, recurses := true, named := ["internal/strconv.uint64pow10", "math/bits.deBruijn32tab", "math/bits.deBruijn64tab", "math/bits.divideError", "math/bits.overflowError"], apart := false, laid := [("math/bits.deBruijn32tab", laid_math_bits_deBruijn32tab), ("math/bits.deBruijn64tab", laid_math_bits_deBruijn64tab), ("internal/strconv.uint64pow10", laid_internal_strconv_uint64pow10)] }
def QuotBetweenSaid : Prop := quotBetweenRow.holds Tryz.pinned (OpenSpec.ofChange quotBetweenSpec)

/-- ITS FALSE NEIGHBOUR: 'it returns false'. Refute it at one input. -/
def quotBetweenWrong : ChangeSpec := { name := "quotBetween", fn := fun _ => fun
  | [d] => { results := [.lit (.bool false)], args := [d] }
  | _ => none }
def QuotBetweenWrongFalsely : Prop := quotBetweenRow.holds Tryz.pinned (OpenSpec.ofChange quotBetweenWrong)

/-- 'lorgnettelaw03.QuotLess': WHATEVER THE INPUT: true; the input reads as it did. -/
def quotLessSpec : ChangeSpec := { name := "quotLess", fn := fun _ => fun
  | [d1, d2] => { results := [.lit (.bool true)], args := [d1, d2] }
  | _ => none }
def quotLessRow : OpenClaim := { program := "ytimfpgpomafflaagreatdoor", sum := "c765587e6ce469bd611800c87fed95d31f658c7faf9d335b7d6d8a0f6218a9a0", func := "lorgnette/lorgnettelaw03.QuotLess", spec := "quotLess", inPlace := ["math/bits.Add64", "internal/abi.NoEscape", "internal/bytealg.MakeNoZero"], unfollowed := true, recurses := true, named := ["internal/strconv.uint64pow10", "math/bits.deBruijn32tab", "math/bits.deBruijn64tab", "math/bits.divideError", "math/bits.overflowError"], apart := false, laid := [("math/bits.deBruijn32tab", laid_math_bits_deBruijn32tab), ("math/bits.deBruijn64tab", laid_math_bits_deBruijn64tab), ("internal/strconv.uint64pow10", laid_internal_strconv_uint64pow10)] }
def QuotLessSaid : Prop := quotLessRow.holds Tryz.pinned (OpenSpec.ofChange quotLessSpec)

/-- ITS FALSE NEIGHBOUR: 'it returns false'. Refute it at one input. -/
def quotLessWrong : ChangeSpec := { name := "quotLess", fn := fun _ => fun
  | [d1, d2] => { results := [.lit (.bool false)], args := [d1, d2] }
  | _ => none }
def QuotLessWrongFalsely : Prop := quotLessRow.holds Tryz.pinned (OpenSpec.ofChange quotLessWrong)

/- THE SECOND FORM. 'bulk': how many values and letters a reading holds, each counted each time it is reached (what is shared counts as often as it is met; a slice's spare places count too). A statement '..UptoSaid' is the law's where the arguments, and the package variables that the reading takes, are together of bulk at most 1048576: NARROWER than '..Said'. Prove '..Said' where nothing that the law and all that it calls make is longer than what came in: it says more and counts as full. Else prove '..UptoSaid'. A law counts once. -/
mutual
def uptoBulk {H : Type} : DataW H → Nat
  | .lit (.string bytes) => bytes.length + 1
  | .lit _ => 1
  | .nil => 1
  | .ptr d => uptoBulk d + 1
  | .slice elems spare => uptoBulkAll elems + uptoBulkAll spare + 1
  | .agg parts => uptoBulkAll parts + 1
  | .iface _ d => uptoBulk d + 1
  | .map entries => uptoBulkEntries entries + 1
  | .held _ => 1
def uptoBulkAll {H : Type} : List (DataW H) → Nat
  | [] => 0
  | d :: r => uptoBulk d + uptoBulkAll r
def uptoBulkEntries {H : Type} : List (Lit × DataW H) → Nat
  | [] => 0
  | x :: r => uptoBulkEntry x + uptoBulkEntries r
def uptoBulkEntry {H : Type} : Lit × DataW H → Nat
  | (.string bytes, d) => bytes.length + uptoBulk d + 1
  | (_, d) => uptoBulk d + 1
 end
def uptoSmall : (H : Type) → List (DataW H) → Bool := fun _ ds => decide (uptoBulkAll ds ≤ 1048576)
def OpenSpec.upto (s : _root_.Go.ChangeSpec) : _root_.Go.OpenSpec := { _root_.Go.OpenSpec.ofChange s with cond := some uptoSmall }

/-- 'lorgnettelaw03.QuotDivs', WHERE WHAT IT READS IS OF BULK AT MOST 1048576: true; the input reads as it did. -/
def quotDivsUptoRow : OpenClaim := { program := "ytimfpgpomafflaagreatdoor", sum := "c765587e6ce469bd611800c87fed95d31f658c7faf9d335b7d6d8a0f6218a9a0", func := "lorgnette/lorgnettelaw03.QuotDivs", spec := "quotDivs", inPlace := ["math/bits.Add64", "internal/abi.NoEscape", "internal/bytealg.MakeNoZero"], unfollowed := true, recurses := true, named := ["internal/strconv.uint64pow10", "math/bits.deBruijn32tab", "math/bits.deBruijn64tab", "math/bits.divideError", "math/bits.overflowError"], apart := false, laid := [("math/bits.deBruijn32tab", laid_math_bits_deBruijn32tab), ("math/bits.deBruijn64tab", laid_math_bits_deBruijn64tab), ("internal/strconv.uint64pow10", laid_internal_strconv_uint64pow10)], narrowed := true }
def QuotDivsUptoSaid : Prop := quotDivsUptoRow.holds Tryz.pinned (OpenSpec.upto quotDivsSpec)

/-- 'lorgnettelaw03.QuotRems', WHERE WHAT IT READS IS OF BULK AT MOST 1048576: true; the input reads as it did. -/
def quotRemsUptoRow : OpenClaim := { program := "ytimfpgpomafflaagreatdoor", sum := "c765587e6ce469bd611800c87fed95d31f658c7faf9d335b7d6d8a0f6218a9a0", func := "lorgnette/lorgnettelaw03.QuotRems", spec := "quotRems", inPlace := ["math/bits.Add64", "internal/abi.NoEscape", "internal/bytealg.MakeNoZero"], unfollowed := true, recurses := true, named := ["internal/strconv.uint64pow10", "math/bits.deBruijn32tab", "math/bits.deBruijn64tab", "math/bits.divideError", "math/bits.overflowError"], apart := false, laid := [("math/bits.deBruijn32tab", laid_math_bits_deBruijn32tab), ("math/bits.deBruijn64tab", laid_math_bits_deBruijn64tab), ("internal/strconv.uint64pow10", laid_internal_strconv_uint64pow10)], narrowed := true }
def QuotRemsUptoSaid : Prop := quotRemsUptoRow.holds Tryz.pinned (OpenSpec.upto quotRemsSpec)

/-- 'lorgnettelaw03.QuotRounds', WHERE WHAT IT READS IS OF BULK AT MOST 1048576: true; the input reads as it did. -/
def quotRoundsUptoRow : OpenClaim := { program := "ytimfpgpomafflaagreatdoor", sum := "c765587e6ce469bd611800c87fed95d31f658c7faf9d335b7d6d8a0f6218a9a0", func := "lorgnette/lorgnettelaw03.QuotRounds", spec := "quotRounds", inPlace := ["math/bits.Add64", "internal/abi.NoEscape", "internal/bytealg.MakeNoZero"], unfollowed := true, recurses := true, named := ["internal/strconv.uint64pow10", "math/bits.deBruijn32tab", "math/bits.deBruijn64tab", "math/bits.divideError", "math/bits.overflowError"], apart := false, laid := [("math/bits.deBruijn32tab", laid_math_bits_deBruijn32tab), ("math/bits.deBruijn64tab", laid_math_bits_deBruijn64tab), ("internal/strconv.uint64pow10", laid_internal_strconv_uint64pow10)], narrowed := true }
def QuotRoundsUptoSaid : Prop := quotRoundsUptoRow.holds Tryz.pinned (OpenSpec.upto quotRoundsSpec)

/-- 'lorgnettelaw03.QuotInts', WHERE WHAT IT READS IS OF BULK AT MOST 1048576: true; the input reads as it did. -/
def quotIntsUptoRow : OpenClaim := { program := "ytimfpgpomafflaagreatdoor", sum := "c765587e6ce469bd611800c87fed95d31f658c7faf9d335b7d6d8a0f6218a9a0", func := "lorgnette/lorgnettelaw03.QuotInts", spec := "quotInts", inPlace := ["math/bits.Add64", "internal/abi.NoEscape", "internal/bytealg.MakeNoZero"], unfollowed := true, recurses := true, named := ["internal/strconv.uint64pow10", "math/bits.deBruijn32tab", "math/bits.deBruijn64tab", "math/bits.divideError", "math/bits.overflowError"], apart := false, laid := [("math/bits.deBruijn32tab", laid_math_bits_deBruijn32tab), ("math/bits.deBruijn64tab", laid_math_bits_deBruijn64tab), ("internal/strconv.uint64pow10", laid_internal_strconv_uint64pow10)], narrowed := true }
def QuotIntsUptoSaid : Prop := quotIntsUptoRow.holds Tryz.pinned (OpenSpec.upto quotIntsSpec)

/-- 'lorgnettelaw03.QuotOff', WHERE WHAT IT READS IS OF BULK AT MOST 1048576: true; the input reads as it did. -/
def quotOffUptoRow : OpenClaim := { program := "ytimfpgpomafflaagreatdoor", sum := "c765587e6ce469bd611800c87fed95d31f658c7faf9d335b7d6d8a0f6218a9a0", func := "lorgnette/lorgnettelaw03.QuotOff", spec := "quotOff", inPlace := ["math/bits.Add64", "internal/abi.NoEscape", "internal/bytealg.MakeNoZero"], unfollowed := true, recurses := true, named := ["internal/strconv.uint64pow10", "math/bits.deBruijn32tab", "math/bits.deBruijn64tab", "math/bits.divideError", "math/bits.overflowError"], apart := false, laid := [("math/bits.deBruijn32tab", laid_math_bits_deBruijn32tab), ("math/bits.deBruijn64tab", laid_math_bits_deBruijn64tab), ("internal/strconv.uint64pow10", laid_internal_strconv_uint64pow10)], narrowed := true }
def QuotOffUptoSaid : Prop := quotOffUptoRow.holds Tryz.pinned (OpenSpec.upto quotOffSpec)

/-- 'lorgnettelaw03.QuotBetween', WHERE WHAT IT READS IS OF BULK AT MOST 1048576: true; the input reads as it did. -/
def quotBetweenUptoRow : OpenClaim := { program := "ytimfpgpomafflaagreatdoor", sum := "c765587e6ce469bd611800c87fed95d31f658c7faf9d335b7d6d8a0f6218a9a0", func := "lorgnette/lorgnettelaw03.QuotBetween", spec := "quotBetween", inPlace := ["math/bits.Add64", "internal/abi.NoEscape", "internal/bytealg.MakeNoZero"], unfollowed := true, recurses := true, named := ["internal/strconv.uint64pow10", "math/bits.deBruijn32tab", "math/bits.deBruijn64tab", "math/bits.divideError", "math/bits.overflowError"], apart := false, laid := [("math/bits.deBruijn32tab", laid_math_bits_deBruijn32tab), ("math/bits.deBruijn64tab", laid_math_bits_deBruijn64tab), ("internal/strconv.uint64pow10", laid_internal_strconv_uint64pow10)], narrowed := true }
def QuotBetweenUptoSaid : Prop := quotBetweenUptoRow.holds Tryz.pinned (OpenSpec.upto quotBetweenSpec)

/-- 'lorgnettelaw03.QuotLess', WHERE WHAT IT READS IS OF BULK AT MOST 1048576: true; the input reads as it did. -/
def quotLessUptoRow : OpenClaim := { program := "ytimfpgpomafflaagreatdoor", sum := "c765587e6ce469bd611800c87fed95d31f658c7faf9d335b7d6d8a0f6218a9a0", func := "lorgnette/lorgnettelaw03.QuotLess", spec := "quotLess", inPlace := ["math/bits.Add64", "internal/abi.NoEscape", "internal/bytealg.MakeNoZero"], unfollowed := true, recurses := true, named := ["internal/strconv.uint64pow10", "math/bits.deBruijn32tab", "math/bits.deBruijn64tab", "math/bits.divideError", "math/bits.overflowError"], apart := false, laid := [("math/bits.deBruijn32tab", laid_math_bits_deBruijn32tab), ("math/bits.deBruijn64tab", laid_math_bits_deBruijn64tab), ("internal/strconv.uint64pow10", laid_internal_strconv_uint64pow10)], narrowed := true }
def QuotLessUptoSaid : Prop := quotLessUptoRow.holds Tryz.pinned (OpenSpec.upto quotLessSpec)

end Rows
end Go.Proofs.YtimfpgpomafflaaGreatDoor
