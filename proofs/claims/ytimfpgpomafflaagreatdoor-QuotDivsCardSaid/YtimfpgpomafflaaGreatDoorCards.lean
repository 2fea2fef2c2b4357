/-
  DERIVED. GIVEN WITH THE SEED: THE CARDS: each row of YtimfpgpomafflaaGreatDoorRows.lean that lists a variable, with what it lists TIED to the program's text (the seventh form; the later family's looks); each row that meets fmt, with fmt's text TOLD by the authors' own Lean function (tested against real Go, not proved from fmt's source: count such statements apart). THE CARD IS WHAT COUNTS. Prove the row's statement (the work); the ties are given (YtimfpgpomafflaaGreatDoorTie.lean); close each card by the builder's one call (the guide's Derived/Test/ToyasCard.lean, 'card_holds'). Laid BY PROGRAM, IN A SANDBOX (cutbox-door.mjs). By AI agents, Wed Nov 11 2026. No macro, syntax, notation, axiom, sorry.
-/
import Derived.Test.YtimfpgpomafflaaGreatDoorRows
import GoSem.ClaimSeven
namespace Go.Proofs.YtimfpgpomafflaaGreatDoor
namespace Rows

/-- THE TIED CARD OF 'lorgnettelaw03.QuotDivs'. -/
def quotDivsCard : Claim7 := { stood := { row := quotDivsRow, standIns := [], harness := (true, "c405f0e747803e196288f19b32f892aad21813fc046d267fa7b576ce7c855dbf"), looks := false }, kinds := [], alts := [], laidByText := true, laidKinds := [.data, .data, .data], laidTests := true, laidLooks := .later }
def QuotDivsCardSaid : Prop := Claim7.holds Tryz.pinned (.plain (OpenSpec.ofChange quotDivsSpec)) quotDivsCard

/-- THE TIED CARD OF 'lorgnettelaw03.QuotRems'. -/
def quotRemsCard : Claim7 := { stood := { row := quotRemsRow, standIns := [], harness := (true, "c405f0e747803e196288f19b32f892aad21813fc046d267fa7b576ce7c855dbf"), looks := false }, kinds := [], alts := [], laidByText := true, laidKinds := [.data, .data, .data], laidTests := true, laidLooks := .later }
def QuotRemsCardSaid : Prop := Claim7.holds Tryz.pinned (.plain (OpenSpec.ofChange quotRemsSpec)) quotRemsCard

/-- THE TIED CARD OF 'lorgnettelaw03.QuotRounds'. -/
def quotRoundsCard : Claim7 := { stood := { row := quotRoundsRow, standIns := [], harness := (true, "c405f0e747803e196288f19b32f892aad21813fc046d267fa7b576ce7c855dbf"), looks := false }, kinds := [], alts := [], laidByText := true, laidKinds := [.data, .data, .data], laidTests := true, laidLooks := .later }
def QuotRoundsCardSaid : Prop := Claim7.holds Tryz.pinned (.plain (OpenSpec.ofChange quotRoundsSpec)) quotRoundsCard

/-- THE TIED CARD OF 'lorgnettelaw03.QuotInts'. -/
def quotIntsCard : Claim7 := { stood := { row := quotIntsRow, standIns := [], harness := (true, "c405f0e747803e196288f19b32f892aad21813fc046d267fa7b576ce7c855dbf"), looks := false }, kinds := [], alts := [], laidByText := true, laidKinds := [.data, .data, .data], laidTests := true, laidLooks := .later }
def QuotIntsCardSaid : Prop := Claim7.holds Tryz.pinned (.plain (OpenSpec.ofChange quotIntsSpec)) quotIntsCard

/-- THE TIED CARD OF 'lorgnettelaw03.QuotOff'. -/
def quotOffCard : Claim7 := { stood := { row := quotOffRow, standIns := [], harness := (true, "c405f0e747803e196288f19b32f892aad21813fc046d267fa7b576ce7c855dbf"), looks := false }, kinds := [], alts := [], laidByText := true, laidKinds := [.data, .data, .data], laidTests := true, laidLooks := .later }
def QuotOffCardSaid : Prop := Claim7.holds Tryz.pinned (.plain (OpenSpec.ofChange quotOffSpec)) quotOffCard

/-- THE TIED CARD OF 'lorgnettelaw03.QuotBetween'. -/
def quotBetweenCard : Claim7 := { stood := { row := quotBetweenRow, standIns := [], harness := (true, "c405f0e747803e196288f19b32f892aad21813fc046d267fa7b576ce7c855dbf"), looks := false }, kinds := [], alts := [], laidByText := true, laidKinds := [.data, .data, .data], laidTests := true, laidLooks := .later }
def QuotBetweenCardSaid : Prop := Claim7.holds Tryz.pinned (.plain (OpenSpec.ofChange quotBetweenSpec)) quotBetweenCard

/-- THE TIED CARD OF 'lorgnettelaw03.QuotLess'. -/
def quotLessCard : Claim7 := { stood := { row := quotLessRow, standIns := [], harness := (true, "c405f0e747803e196288f19b32f892aad21813fc046d267fa7b576ce7c855dbf"), looks := false }, kinds := [], alts := [], laidByText := true, laidKinds := [.data, .data, .data], laidTests := true, laidLooks := .later }
def QuotLessCardSaid : Prop := Claim7.holds Tryz.pinned (.plain (OpenSpec.ofChange quotLessSpec)) quotLessCard

/-- THE SECOND FORM's CARD OF 'lorgnettelaw03.QuotDivs'. -/
def quotDivsUptoCard : Claim7 := { stood := { row := quotDivsUptoRow, standIns := [], harness := (true, "c405f0e747803e196288f19b32f892aad21813fc046d267fa7b576ce7c855dbf"), looks := false }, kinds := [], alts := [], laidByText := true, laidKinds := [.data, .data, .data], laidTests := true, laidLooks := .later }
def QuotDivsUptoCardSaid : Prop := Claim7.holds Tryz.pinned (.plain (OpenSpec.upto quotDivsSpec)) quotDivsUptoCard

/-- THE SECOND FORM's CARD OF 'lorgnettelaw03.QuotRems'. -/
def quotRemsUptoCard : Claim7 := { stood := { row := quotRemsUptoRow, standIns := [], harness := (true, "c405f0e747803e196288f19b32f892aad21813fc046d267fa7b576ce7c855dbf"), looks := false }, kinds := [], alts := [], laidByText := true, laidKinds := [.data, .data, .data], laidTests := true, laidLooks := .later }
def QuotRemsUptoCardSaid : Prop := Claim7.holds Tryz.pinned (.plain (OpenSpec.upto quotRemsSpec)) quotRemsUptoCard

/-- THE SECOND FORM's CARD OF 'lorgnettelaw03.QuotRounds'. -/
def quotRoundsUptoCard : Claim7 := { stood := { row := quotRoundsUptoRow, standIns := [], harness := (true, "c405f0e747803e196288f19b32f892aad21813fc046d267fa7b576ce7c855dbf"), looks := false }, kinds := [], alts := [], laidByText := true, laidKinds := [.data, .data, .data], laidTests := true, laidLooks := .later }
def QuotRoundsUptoCardSaid : Prop := Claim7.holds Tryz.pinned (.plain (OpenSpec.upto quotRoundsSpec)) quotRoundsUptoCard

/-- THE SECOND FORM's CARD OF 'lorgnettelaw03.QuotInts'. -/
def quotIntsUptoCard : Claim7 := { stood := { row := quotIntsUptoRow, standIns := [], harness := (true, "c405f0e747803e196288f19b32f892aad21813fc046d267fa7b576ce7c855dbf"), looks := false }, kinds := [], alts := [], laidByText := true, laidKinds := [.data, .data, .data], laidTests := true, laidLooks := .later }
def QuotIntsUptoCardSaid : Prop := Claim7.holds Tryz.pinned (.plain (OpenSpec.upto quotIntsSpec)) quotIntsUptoCard

/-- THE SECOND FORM's CARD OF 'lorgnettelaw03.QuotOff'. -/
def quotOffUptoCard : Claim7 := { stood := { row := quotOffUptoRow, standIns := [], harness := (true, "c405f0e747803e196288f19b32f892aad21813fc046d267fa7b576ce7c855dbf"), looks := false }, kinds := [], alts := [], laidByText := true, laidKinds := [.data, .data, .data], laidTests := true, laidLooks := .later }
def QuotOffUptoCardSaid : Prop := Claim7.holds Tryz.pinned (.plain (OpenSpec.upto quotOffSpec)) quotOffUptoCard

/-- THE SECOND FORM's CARD OF 'lorgnettelaw03.QuotBetween'. -/
def quotBetweenUptoCard : Claim7 := { stood := { row := quotBetweenUptoRow, standIns := [], harness := (true, "c405f0e747803e196288f19b32f892aad21813fc046d267fa7b576ce7c855dbf"), looks := false }, kinds := [], alts := [], laidByText := true, laidKinds := [.data, .data, .data], laidTests := true, laidLooks := .later }
def QuotBetweenUptoCardSaid : Prop := Claim7.holds Tryz.pinned (.plain (OpenSpec.upto quotBetweenSpec)) quotBetweenUptoCard

/-- THE SECOND FORM's CARD OF 'lorgnettelaw03.QuotLess'. -/
def quotLessUptoCard : Claim7 := { stood := { row := quotLessUptoRow, standIns := [], harness := (true, "c405f0e747803e196288f19b32f892aad21813fc046d267fa7b576ce7c855dbf"), looks := false }, kinds := [], alts := [], laidByText := true, laidKinds := [.data, .data, .data], laidTests := true, laidLooks := .later }
def QuotLessUptoCardSaid : Prop := Claim7.holds Tryz.pinned (.plain (OpenSpec.upto quotLessSpec)) quotLessUptoCard
end Rows
end Go.Proofs.YtimfpgpomafflaaGreatDoor
