/-
  DERIVED. GIVEN WITH THE SEED: THE CARDS: each row of YtpgiljibicigeaaGreatDoorRows.lean that lists a variable, with what it lists TIED to the program's text (the seventh form; the later family's looks); each row that meets fmt, with fmt's text TOLD by the authors' own Lean function (tested against real Go, not proved from fmt's source: count such statements apart). THE CARD IS WHAT COUNTS. Prove the row's statement (the work); the ties are given (YtpgiljibicigeaaGreatDoorTie.lean); close each card by the builder's one call (the guide's Derived/Test/ToyasCard.lean, 'card_holds'). Laid BY PROGRAM, IN A SANDBOX (cutbox-door.mjs). By AI agents, Wed Nov 11 2026. No macro, syntax, notation, axiom, sorry.
-/
import Derived.Test.YtpgiljibicigeaaGreatDoorRows
import GoSem.ClaimSeven
namespace Go.Proofs.YtpgiljibicigeaaGreatDoor
namespace Rows

/-- THE TIED CARD OF 'lorgnettelaw15.SyntaxDepths'. -/
def syntaxDepthsCard : Claim7 := { stood := { row := syntaxDepthsRow, standIns := [], harness := (true, "ed26c30701adb7bc5f32900780ffddc5b8c10db5af2fdb2330d3181ca512e894"), looks := true }, kinds := [], alts := [], laidByText := true, laidKinds := [.data, .data, .data, .data, .data, .data, .data], laidTests := true, laidLooks := .later }
def SyntaxDepthsCardSaid : Prop := Claim7.holds Tryz.pinned (.plain (OpenSpec.ofChange syntaxDepthsSpec)) syntaxDepthsCard

/-- THE TIED CARD OF 'lorgnettelaw15.SyntaxParens'. -/
def syntaxParensCard : Claim7 := { stood := { row := syntaxParensRow, standIns := [], harness := (true, "ed26c30701adb7bc5f32900780ffddc5b8c10db5af2fdb2330d3181ca512e894"), looks := true }, kinds := [], alts := [], laidByText := true, laidKinds := [.data, .data, .data, .data, .data, .data, .data], laidTests := true, laidLooks := .later }
def SyntaxParensCardSaid : Prop := Claim7.holds Tryz.pinned (.plain (OpenSpec.ofChange syntaxParensSpec)) syntaxParensCard

/-- THE TIED CARD OF 'lorgnettelaw15.SyntaxPlaces'. -/
def syntaxPlacesCard : Claim7 := { stood := { row := syntaxPlacesRow, standIns := [], harness := (true, "ed26c30701adb7bc5f32900780ffddc5b8c10db5af2fdb2330d3181ca512e894"), looks := true }, kinds := [], alts := [], laidByText := true, laidKinds := [.data, .data, .data, .data, .data, .data, .data], laidTests := true, laidLooks := .later }
def SyntaxPlacesCardSaid : Prop := Claim7.holds Tryz.pinned (.plain (OpenSpec.ofChange syntaxPlacesSpec)) syntaxPlacesCard

/-- THE TIED CARD OF 'lorgnettelaw15.SyntaxSigns'. -/
def syntaxSignsCard : Claim7 := { stood := { row := syntaxSignsRow, standIns := [], harness := (true, "ed26c30701adb7bc5f32900780ffddc5b8c10db5af2fdb2330d3181ca512e894"), looks := true }, kinds := [], alts := [], laidByText := true, laidKinds := [.data, .data, .data, .data, .data, .data, .data], laidTests := true, laidLooks := .later }
def SyntaxSignsCardSaid : Prop := Claim7.holds Tryz.pinned (.plain (OpenSpec.ofChange syntaxSignsSpec)) syntaxSignsCard

/-- THE SECOND FORM's CARD OF 'lorgnettelaw15.SyntaxDepths'. -/
def syntaxDepthsUptoCard : Claim7 := { stood := { row := syntaxDepthsUptoRow, standIns := [], harness := (true, "ed26c30701adb7bc5f32900780ffddc5b8c10db5af2fdb2330d3181ca512e894"), looks := true }, kinds := [], alts := [], laidByText := true, laidKinds := [.data, .data, .data, .data, .data, .data, .data], laidTests := true, laidLooks := .later }
def SyntaxDepthsUptoCardSaid : Prop := Claim7.holds Tryz.pinned (.plain (OpenSpec.upto syntaxDepthsSpec)) syntaxDepthsUptoCard

/-- THE SECOND FORM's CARD OF 'lorgnettelaw15.SyntaxParens'. -/
def syntaxParensUptoCard : Claim7 := { stood := { row := syntaxParensUptoRow, standIns := [], harness := (true, "ed26c30701adb7bc5f32900780ffddc5b8c10db5af2fdb2330d3181ca512e894"), looks := true }, kinds := [], alts := [], laidByText := true, laidKinds := [.data, .data, .data, .data, .data, .data, .data], laidTests := true, laidLooks := .later }
def SyntaxParensUptoCardSaid : Prop := Claim7.holds Tryz.pinned (.plain (OpenSpec.upto syntaxParensSpec)) syntaxParensUptoCard

/-- THE SECOND FORM's CARD OF 'lorgnettelaw15.SyntaxPlaces'. -/
def syntaxPlacesUptoCard : Claim7 := { stood := { row := syntaxPlacesUptoRow, standIns := [], harness := (true, "ed26c30701adb7bc5f32900780ffddc5b8c10db5af2fdb2330d3181ca512e894"), looks := true }, kinds := [], alts := [], laidByText := true, laidKinds := [.data, .data, .data, .data, .data, .data, .data], laidTests := true, laidLooks := .later }
def SyntaxPlacesUptoCardSaid : Prop := Claim7.holds Tryz.pinned (.plain (OpenSpec.upto syntaxPlacesSpec)) syntaxPlacesUptoCard

/-- THE SECOND FORM's CARD OF 'lorgnettelaw15.SyntaxSigns'. -/
def syntaxSignsUptoCard : Claim7 := { stood := { row := syntaxSignsUptoRow, standIns := [], harness := (true, "ed26c30701adb7bc5f32900780ffddc5b8c10db5af2fdb2330d3181ca512e894"), looks := true }, kinds := [], alts := [], laidByText := true, laidKinds := [.data, .data, .data, .data, .data, .data, .data], laidTests := true, laidLooks := .later }
def SyntaxSignsUptoCardSaid : Prop := Claim7.holds Tryz.pinned (.plain (OpenSpec.upto syntaxSignsSpec)) syntaxSignsUptoCard
end Rows
end Go.Proofs.YtpgiljibicigeaaGreatDoor
