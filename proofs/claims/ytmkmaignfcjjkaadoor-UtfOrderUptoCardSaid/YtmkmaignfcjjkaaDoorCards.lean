/-
  DERIVED. GIVEN WITH THE SEED: THE CARDS: each row of YtmkmaignfcjjkaaDoorRows.lean that lists a variable, with what it lists TIED to the program's text (the seventh form; the later family's looks); each row that meets fmt, with fmt's text TOLD by the authors' own Lean function (tested against real Go, not proved from fmt's source: count such statements apart). THE CARD IS WHAT COUNTS. Prove the row's statement (the work); the ties are given (YtmkmaignfcjjkaaDoorTie.lean); close each card by the builder's one call (the guide's Derived/Test/ToyasCard.lean, 'card_holds'). Laid BY PROGRAM, IN A SANDBOX (cutbox-door.mjs). By AI agents, Wed Nov 11 2026. No macro, syntax, notation, axiom, sorry.
-/
import Derived.Test.YtmkmaignfcjjkaaDoorRows
import GoSem.ClaimSeven
namespace Go.Proofs.YtmkmaignfcjjkaaDoor
namespace Rows

/-- THE TIED CARD OF 'lorgnettelaw04.UtfDecodes'. -/
def utfDecodesCard : Claim7 := { stood := { row := utfDecodesRow, standIns := [], harness := (true, "e01b190469ea6c6c53c6e99761a386ed2796ddd88c25207c6f89a9d868d8a77a"), looks := false }, kinds := [], alts := [], laidByText := true, laidKinds := [.data], laidTests := true, laidLooks := .later }
def UtfDecodesCardSaid : Prop := Claim7.holds Tryd.pinned (.plain (OpenSpec.ofChange utfDecodesSpec)) utfDecodesCard

/-- THE TIED CARD OF 'lorgnettelaw04.UtfEncodes'. -/
def utfEncodesCard : Claim7 := { stood := { row := utfEncodesRow, standIns := [], harness := (true, "e01b190469ea6c6c53c6e99761a386ed2796ddd88c25207c6f89a9d868d8a77a"), looks := false }, kinds := [], alts := [], laidByText := true, laidKinds := [.data], laidTests := true, laidLooks := .later }
def UtfEncodesCardSaid : Prop := Claim7.holds Tryd.pinned (.plain (OpenSpec.ofChange utfEncodesSpec)) utfEncodesCard

/-- THE TIED CARD OF 'lorgnettelaw04.UtfCleans'. -/
def utfCleansCard : Claim7 := { stood := { row := utfCleansRow, standIns := [], harness := (true, "e01b190469ea6c6c53c6e99761a386ed2796ddd88c25207c6f89a9d868d8a77a"), looks := false }, kinds := [], alts := [], laidByText := true, laidKinds := [.data], laidTests := true, laidLooks := .later }
def UtfCleansCardSaid : Prop := Claim7.holds Tryd.pinned (.plain (OpenSpec.ofChange utfCleansSpec)) utfCleansCard

/-- THE TIED CARD OF 'lorgnettelaw04.UtfImplodes'. -/
def utfImplodesCard : Claim7 := { stood := { row := utfImplodesRow, standIns := [], harness := (true, "e01b190469ea6c6c53c6e99761a386ed2796ddd88c25207c6f89a9d868d8a77a"), looks := false }, kinds := [], alts := [], laidByText := true, laidKinds := [.data], laidTests := true, laidLooks := .later }
def UtfImplodesCardSaid : Prop := Claim7.holds Tryd.pinned (.plain (OpenSpec.ofChange utfImplodesSpec)) utfImplodesCard

/-- THE TIED CARD OF 'lorgnettelaw04.UtfCmps'. -/
def utfCmpsCard : Claim7 := { stood := { row := utfCmpsRow, standIns := [], harness := (true, "e01b190469ea6c6c53c6e99761a386ed2796ddd88c25207c6f89a9d868d8a77a"), looks := false }, kinds := [], alts := [], laidByText := true, laidKinds := [.data], laidTests := true, laidLooks := .later }
def UtfCmpsCardSaid : Prop := Claim7.holds Tryd.pinned (.plain (OpenSpec.ofChange utfCmpsSpec)) utfCmpsCard

/-- THE TIED CARD OF 'lorgnettelaw04.UtfSlices'. -/
def utfSlicesCard : Claim7 := { stood := { row := utfSlicesRow, standIns := [], harness := (true, "e01b190469ea6c6c53c6e99761a386ed2796ddd88c25207c6f89a9d868d8a77a"), looks := false }, kinds := [], alts := [], laidByText := true, laidKinds := [.data], laidTests := true, laidLooks := .later }
def UtfSlicesCardSaid : Prop := Claim7.holds Tryd.pinned (.plain (OpenSpec.ofChange utfSlicesSpec)) utfSlicesCard

/-- THE TIED CARD OF 'lorgnettelaw04.UtfBack'. -/
def utfBackCard : Claim7 := { stood := { row := utfBackRow, standIns := [], harness := (true, "e01b190469ea6c6c53c6e99761a386ed2796ddd88c25207c6f89a9d868d8a77a"), looks := false }, kinds := [], alts := [], laidByText := true, laidKinds := [.data], laidTests := true, laidLooks := .later }
def UtfBackCardSaid : Prop := Claim7.holds Tryd.pinned (.plain (OpenSpec.ofChange utfBackSpec)) utfBackCard

/-- THE TIED CARD OF 'lorgnettelaw04.UtfOrder'. -/
def utfOrderCard : Claim7 := { stood := { row := utfOrderRow, standIns := [], harness := (true, "e01b190469ea6c6c53c6e99761a386ed2796ddd88c25207c6f89a9d868d8a77a"), looks := false }, kinds := [], alts := [], laidByText := true, laidKinds := [.data], laidTests := true, laidLooks := .later }
def UtfOrderCardSaid : Prop := Claim7.holds Tryd.pinned (.plain (OpenSpec.ofChange utfOrderSpec)) utfOrderCard

/-- THE SECOND FORM's CARD OF 'lorgnettelaw04.UtfDecodes'. -/
def utfDecodesUptoCard : Claim7 := { stood := { row := utfDecodesUptoRow, standIns := [], harness := (true, "e01b190469ea6c6c53c6e99761a386ed2796ddd88c25207c6f89a9d868d8a77a"), looks := false }, kinds := [], alts := [], laidByText := true, laidKinds := [.data], laidTests := true, laidLooks := .later }
def UtfDecodesUptoCardSaid : Prop := Claim7.holds Tryd.pinned (.plain (OpenSpec.upto utfDecodesSpec)) utfDecodesUptoCard

/-- THE SECOND FORM's CARD OF 'lorgnettelaw04.UtfEncodes'. -/
def utfEncodesUptoCard : Claim7 := { stood := { row := utfEncodesUptoRow, standIns := [], harness := (true, "e01b190469ea6c6c53c6e99761a386ed2796ddd88c25207c6f89a9d868d8a77a"), looks := false }, kinds := [], alts := [], laidByText := true, laidKinds := [.data], laidTests := true, laidLooks := .later }
def UtfEncodesUptoCardSaid : Prop := Claim7.holds Tryd.pinned (.plain (OpenSpec.upto utfEncodesSpec)) utfEncodesUptoCard

/-- THE SECOND FORM's CARD OF 'lorgnettelaw04.UtfCleans'. -/
def utfCleansUptoCard : Claim7 := { stood := { row := utfCleansUptoRow, standIns := [], harness := (true, "e01b190469ea6c6c53c6e99761a386ed2796ddd88c25207c6f89a9d868d8a77a"), looks := false }, kinds := [], alts := [], laidByText := true, laidKinds := [.data], laidTests := true, laidLooks := .later }
def UtfCleansUptoCardSaid : Prop := Claim7.holds Tryd.pinned (.plain (OpenSpec.upto utfCleansSpec)) utfCleansUptoCard

/-- THE SECOND FORM's CARD OF 'lorgnettelaw04.UtfImplodes'. -/
def utfImplodesUptoCard : Claim7 := { stood := { row := utfImplodesUptoRow, standIns := [], harness := (true, "e01b190469ea6c6c53c6e99761a386ed2796ddd88c25207c6f89a9d868d8a77a"), looks := false }, kinds := [], alts := [], laidByText := true, laidKinds := [.data], laidTests := true, laidLooks := .later }
def UtfImplodesUptoCardSaid : Prop := Claim7.holds Tryd.pinned (.plain (OpenSpec.upto utfImplodesSpec)) utfImplodesUptoCard

/-- THE SECOND FORM's CARD OF 'lorgnettelaw04.UtfCmps'. -/
def utfCmpsUptoCard : Claim7 := { stood := { row := utfCmpsUptoRow, standIns := [], harness := (true, "e01b190469ea6c6c53c6e99761a386ed2796ddd88c25207c6f89a9d868d8a77a"), looks := false }, kinds := [], alts := [], laidByText := true, laidKinds := [.data], laidTests := true, laidLooks := .later }
def UtfCmpsUptoCardSaid : Prop := Claim7.holds Tryd.pinned (.plain (OpenSpec.upto utfCmpsSpec)) utfCmpsUptoCard

/-- THE SECOND FORM's CARD OF 'lorgnettelaw04.UtfSlices'. -/
def utfSlicesUptoCard : Claim7 := { stood := { row := utfSlicesUptoRow, standIns := [], harness := (true, "e01b190469ea6c6c53c6e99761a386ed2796ddd88c25207c6f89a9d868d8a77a"), looks := false }, kinds := [], alts := [], laidByText := true, laidKinds := [.data], laidTests := true, laidLooks := .later }
def UtfSlicesUptoCardSaid : Prop := Claim7.holds Tryd.pinned (.plain (OpenSpec.upto utfSlicesSpec)) utfSlicesUptoCard

/-- THE SECOND FORM's CARD OF 'lorgnettelaw04.UtfBack'. -/
def utfBackUptoCard : Claim7 := { stood := { row := utfBackUptoRow, standIns := [], harness := (true, "e01b190469ea6c6c53c6e99761a386ed2796ddd88c25207c6f89a9d868d8a77a"), looks := false }, kinds := [], alts := [], laidByText := true, laidKinds := [.data], laidTests := true, laidLooks := .later }
def UtfBackUptoCardSaid : Prop := Claim7.holds Tryd.pinned (.plain (OpenSpec.upto utfBackSpec)) utfBackUptoCard

/-- THE SECOND FORM's CARD OF 'lorgnettelaw04.UtfOrder'. -/
def utfOrderUptoCard : Claim7 := { stood := { row := utfOrderUptoRow, standIns := [], harness := (true, "e01b190469ea6c6c53c6e99761a386ed2796ddd88c25207c6f89a9d868d8a77a"), looks := false }, kinds := [], alts := [], laidByText := true, laidKinds := [.data], laidTests := true, laidLooks := .later }
def UtfOrderUptoCardSaid : Prop := Claim7.holds Tryd.pinned (.plain (OpenSpec.upto utfOrderSpec)) utfOrderUptoCard
end Rows
end Go.Proofs.YtmkmaignfcjjkaaDoor
