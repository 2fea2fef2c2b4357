/-
  DERIVED. GIVEN WITH THE SEED: THE CARDS: each row of YtofeckdhhaoobaaDoorRows.lean that lists a variable, with what it lists TIED to the program's text (the seventh form; the later family's looks); each row that meets fmt, with fmt's text TOLD by the authors' own Lean function (tested against real Go, not proved from fmt's source: count such statements apart). THE CARD IS WHAT COUNTS. Prove the row's statement (the work); the ties are given (YtofeckdhhaoobaaDoorTie.lean); close each card by the builder's one call (the guide's Derived/Test/ToyasCard.lean, 'card_holds'). Laid BY PROGRAM, IN A SANDBOX (cutbox-door.mjs). By AI agents, Wed Nov 11 2026. No macro, syntax, notation, axiom, sorry.
-/
import Derived.Test.YtofeckdhhaoobaaDoorRows
import GoSem.ClaimSeven
namespace Go.Proofs.YtofeckdhhaoobaaDoor
namespace Rows

/-- THE TIED CARD OF 'lorgnettelaw02.DecNorms'. -/
def decNormsCard : Claim7 := { stood := { row := decNormsRow, standIns := [], harness := (true, "9c0d09fcea4f124c30d608ef5654010fa941cf99df4a4df0f5b634ceb6f04ecf"), looks := false }, kinds := [], alts := [], laidByText := true, laidKinds := [.data, .data, .data], laidTests := true, laidLooks := .later }
def DecNormsCardSaid : Prop := Claim7.holds Tryd.pinned (.plain (OpenSpec.ofChange decNormsSpec)) decNormsCard

/-- THE TIED CARD OF 'lorgnettelaw02.DecOfs'. -/
def decOfsCard : Claim7 := { stood := { row := decOfsRow, standIns := [], harness := (true, "9c0d09fcea4f124c30d608ef5654010fa941cf99df4a4df0f5b634ceb6f04ecf"), looks := false }, kinds := [], alts := [], laidByText := true, laidKinds := [.data, .data, .data], laidTests := true, laidLooks := .later }
def DecOfsCardSaid : Prop := Claim7.holds Tryd.pinned (.plain (OpenSpec.ofChange decOfsSpec)) decOfsCard

/-- THE TIED CARD OF 'lorgnettelaw02.DecParses'. -/
def decParsesCard : Claim7 := { stood := { row := decParsesRow, standIns := [], harness := (true, "9c0d09fcea4f124c30d608ef5654010fa941cf99df4a4df0f5b634ceb6f04ecf"), looks := false }, kinds := [], alts := [], laidByText := true, laidKinds := [.data, .data, .data], laidTests := true, laidLooks := .later }
def DecParsesCardSaid : Prop := Claim7.holds Tryd.pinned (.plain (OpenSpec.ofChange decParsesSpec)) decParsesCard

/-- THE TIED CARD OF 'lorgnettelaw02.DecTexts'. -/
def decTextsCard : Claim7 := { stood := { row := decTextsRow, standIns := [], harness := (true, "9c0d09fcea4f124c30d608ef5654010fa941cf99df4a4df0f5b634ceb6f04ecf"), looks := false }, kinds := [], alts := [], laidByText := true, laidKinds := [.data, .data, .data], laidTests := true, laidLooks := .later }
def DecTextsCardSaid : Prop := Claim7.holds Tryd.pinned (.plain (OpenSpec.ofChange decTextsSpec)) decTextsCard

/-- THE TIED CARD OF 'lorgnettelaw02.DecCmps'. -/
def decCmpsCard : Claim7 := { stood := { row := decCmpsRow, standIns := [], harness := (true, "9c0d09fcea4f124c30d608ef5654010fa941cf99df4a4df0f5b634ceb6f04ecf"), looks := false }, kinds := [], alts := [], laidByText := true, laidKinds := [.data, .data, .data], laidTests := true, laidLooks := .later }
def DecCmpsCardSaid : Prop := Claim7.holds Tryd.pinned (.plain (OpenSpec.ofChange decCmpsSpec)) decCmpsCard

/-- THE TIED CARD OF 'lorgnettelaw02.DecSums'. -/
def decSumsCard : Claim7 := { stood := { row := decSumsRow, standIns := [], harness := (true, "9c0d09fcea4f124c30d608ef5654010fa941cf99df4a4df0f5b634ceb6f04ecf"), looks := false }, kinds := [], alts := [], laidByText := true, laidKinds := [.data, .data, .data], laidTests := true, laidLooks := .later }
def DecSumsCardSaid : Prop := Claim7.holds Tryd.pinned (.plain (OpenSpec.ofChange decSumsSpec)) decSumsCard

/-- THE TIED CARD OF 'lorgnettelaw02.DecBack'. -/
def decBackCard : Claim7 := { stood := { row := decBackRow, standIns := [], harness := (true, "9c0d09fcea4f124c30d608ef5654010fa941cf99df4a4df0f5b634ceb6f04ecf"), looks := false }, kinds := [], alts := [], laidByText := true, laidKinds := [.data, .data, .data], laidTests := true, laidLooks := .later }
def DecBackCardSaid : Prop := Claim7.holds Tryd.pinned (.plain (OpenSpec.ofChange decBackSpec)) decBackCard

/-- THE TIED CARD OF 'lorgnettelaw02.DecRing'. -/
def decRingCard : Claim7 := { stood := { row := decRingRow, standIns := [], harness := (true, "9c0d09fcea4f124c30d608ef5654010fa941cf99df4a4df0f5b634ceb6f04ecf"), looks := false }, kinds := [], alts := [], laidByText := true, laidKinds := [.data, .data, .data], laidTests := true, laidLooks := .later }
def DecRingCardSaid : Prop := Claim7.holds Tryd.pinned (.plain (OpenSpec.ofChange decRingSpec)) decRingCard

/-- THE TIED CARD OF 'lorgnettelaw02.DecOrder'. -/
def decOrderCard : Claim7 := { stood := { row := decOrderRow, standIns := [], harness := (true, "9c0d09fcea4f124c30d608ef5654010fa941cf99df4a4df0f5b634ceb6f04ecf"), looks := false }, kinds := [], alts := [], laidByText := true, laidKinds := [.data, .data, .data], laidTests := true, laidLooks := .later }
def DecOrderCardSaid : Prop := Claim7.holds Tryd.pinned (.plain (OpenSpec.ofChange decOrderSpec)) decOrderCard

/-- THE SECOND FORM's CARD OF 'lorgnettelaw02.DecNorms'. -/
def decNormsUptoCard : Claim7 := { stood := { row := decNormsUptoRow, standIns := [], harness := (true, "9c0d09fcea4f124c30d608ef5654010fa941cf99df4a4df0f5b634ceb6f04ecf"), looks := false }, kinds := [], alts := [], laidByText := true, laidKinds := [.data, .data, .data], laidTests := true, laidLooks := .later }
def DecNormsUptoCardSaid : Prop := Claim7.holds Tryd.pinned (.plain (OpenSpec.upto decNormsSpec)) decNormsUptoCard

/-- THE SECOND FORM's CARD OF 'lorgnettelaw02.DecOfs'. -/
def decOfsUptoCard : Claim7 := { stood := { row := decOfsUptoRow, standIns := [], harness := (true, "9c0d09fcea4f124c30d608ef5654010fa941cf99df4a4df0f5b634ceb6f04ecf"), looks := false }, kinds := [], alts := [], laidByText := true, laidKinds := [.data, .data, .data], laidTests := true, laidLooks := .later }
def DecOfsUptoCardSaid : Prop := Claim7.holds Tryd.pinned (.plain (OpenSpec.upto decOfsSpec)) decOfsUptoCard

/-- THE SECOND FORM's CARD OF 'lorgnettelaw02.DecParses'. -/
def decParsesUptoCard : Claim7 := { stood := { row := decParsesUptoRow, standIns := [], harness := (true, "9c0d09fcea4f124c30d608ef5654010fa941cf99df4a4df0f5b634ceb6f04ecf"), looks := false }, kinds := [], alts := [], laidByText := true, laidKinds := [.data, .data, .data], laidTests := true, laidLooks := .later }
def DecParsesUptoCardSaid : Prop := Claim7.holds Tryd.pinned (.plain (OpenSpec.upto decParsesSpec)) decParsesUptoCard

/-- THE SECOND FORM's CARD OF 'lorgnettelaw02.DecTexts'. -/
def decTextsUptoCard : Claim7 := { stood := { row := decTextsUptoRow, standIns := [], harness := (true, "9c0d09fcea4f124c30d608ef5654010fa941cf99df4a4df0f5b634ceb6f04ecf"), looks := false }, kinds := [], alts := [], laidByText := true, laidKinds := [.data, .data, .data], laidTests := true, laidLooks := .later }
def DecTextsUptoCardSaid : Prop := Claim7.holds Tryd.pinned (.plain (OpenSpec.upto decTextsSpec)) decTextsUptoCard

/-- THE SECOND FORM's CARD OF 'lorgnettelaw02.DecCmps'. -/
def decCmpsUptoCard : Claim7 := { stood := { row := decCmpsUptoRow, standIns := [], harness := (true, "9c0d09fcea4f124c30d608ef5654010fa941cf99df4a4df0f5b634ceb6f04ecf"), looks := false }, kinds := [], alts := [], laidByText := true, laidKinds := [.data, .data, .data], laidTests := true, laidLooks := .later }
def DecCmpsUptoCardSaid : Prop := Claim7.holds Tryd.pinned (.plain (OpenSpec.upto decCmpsSpec)) decCmpsUptoCard

/-- THE SECOND FORM's CARD OF 'lorgnettelaw02.DecSums'. -/
def decSumsUptoCard : Claim7 := { stood := { row := decSumsUptoRow, standIns := [], harness := (true, "9c0d09fcea4f124c30d608ef5654010fa941cf99df4a4df0f5b634ceb6f04ecf"), looks := false }, kinds := [], alts := [], laidByText := true, laidKinds := [.data, .data, .data], laidTests := true, laidLooks := .later }
def DecSumsUptoCardSaid : Prop := Claim7.holds Tryd.pinned (.plain (OpenSpec.upto decSumsSpec)) decSumsUptoCard

/-- THE SECOND FORM's CARD OF 'lorgnettelaw02.DecBack'. -/
def decBackUptoCard : Claim7 := { stood := { row := decBackUptoRow, standIns := [], harness := (true, "9c0d09fcea4f124c30d608ef5654010fa941cf99df4a4df0f5b634ceb6f04ecf"), looks := false }, kinds := [], alts := [], laidByText := true, laidKinds := [.data, .data, .data], laidTests := true, laidLooks := .later }
def DecBackUptoCardSaid : Prop := Claim7.holds Tryd.pinned (.plain (OpenSpec.upto decBackSpec)) decBackUptoCard

/-- THE SECOND FORM's CARD OF 'lorgnettelaw02.DecRing'. -/
def decRingUptoCard : Claim7 := { stood := { row := decRingUptoRow, standIns := [], harness := (true, "9c0d09fcea4f124c30d608ef5654010fa941cf99df4a4df0f5b634ceb6f04ecf"), looks := false }, kinds := [], alts := [], laidByText := true, laidKinds := [.data, .data, .data], laidTests := true, laidLooks := .later }
def DecRingUptoCardSaid : Prop := Claim7.holds Tryd.pinned (.plain (OpenSpec.upto decRingSpec)) decRingUptoCard

/-- THE SECOND FORM's CARD OF 'lorgnettelaw02.DecOrder'. -/
def decOrderUptoCard : Claim7 := { stood := { row := decOrderUptoRow, standIns := [], harness := (true, "9c0d09fcea4f124c30d608ef5654010fa941cf99df4a4df0f5b634ceb6f04ecf"), looks := false }, kinds := [], alts := [], laidByText := true, laidKinds := [.data, .data, .data], laidTests := true, laidLooks := .later }
def DecOrderUptoCardSaid : Prop := Claim7.holds Tryd.pinned (.plain (OpenSpec.upto decOrderSpec)) decOrderUptoCard
end Rows
end Go.Proofs.YtofeckdhhaoobaaDoor
