/-
  DERIVED. GIVEN WITH THE SEED: THE CARDS: each row of YtefaieglhllioaaDoorRows.lean that lists a variable, with what it lists TIED to the program's text (the seventh form; the later family's looks); each row that meets fmt, with fmt's text TOLD by the authors' own Lean function (tested against real Go, not proved from fmt's source: count such statements apart). THE CARD IS WHAT COUNTS. Prove the row's statement (the work); the ties are given (YtefaieglhllioaaDoorTie.lean); close each card by the builder's one call (the guide's Derived/Test/ToyasCard.lean, 'card_holds'). Laid BY PROGRAM, IN A SANDBOX (cutbox-door.mjs). By AI agents, Wed Nov 11 2026. No macro, syntax, notation, axiom, sorry.
-/
import Derived.Test.YtefaieglhllioaaDoorRows
import GoSem.ClaimSeven
namespace Go.Proofs.YtefaieglhllioaaDoor
namespace Rows

/-- THE TIED CARD OF 'lorgnettelaw09.ValidPrefix'. -/
def validPrefixCard : Claim7 := { stood := { row := validPrefixRow, standIns := [], harness := (true, "dd1c7c7d62a434c33ade268683a0223364836a5c804a11e44c03d2e490113a66"), looks := false }, kinds := [], alts := [], laidByText := true, laidKinds := [.data], laidTests := true, laidLooks := .later }
def ValidPrefixCardSaid : Prop := Claim7.holds Tryd.pinned (.plain (OpenSpec.ofChange validPrefixSpec)) validPrefixCard

/-- THE TIED CARD OF 'lorgnettelaw09.ValidSpans'. -/
def validSpansCard : Claim7 := { stood := { row := validSpansRow, standIns := [], harness := (true, "dd1c7c7d62a434c33ade268683a0223364836a5c804a11e44c03d2e490113a66"), looks := false }, kinds := [], alts := [], laidByText := true, laidKinds := [.data], laidTests := true, laidLooks := .later }
def ValidSpansCardSaid : Prop := Claim7.holds Tryd.pinned (.plain (OpenSpec.ofChange validSpansSpec)) validSpansCard

/-- THE TIED CARD OF 'lorgnettelaw09.ValidJoins'. -/
def validJoinsCard : Claim7 := { stood := { row := validJoinsRow, standIns := [], harness := (true, "dd1c7c7d62a434c33ade268683a0223364836a5c804a11e44c03d2e490113a66"), looks := false }, kinds := [], alts := [], laidByText := true, laidKinds := [.data], laidTests := true, laidLooks := .later }
def ValidJoinsCardSaid : Prop := Claim7.holds Tryd.pinned (.plain (OpenSpec.ofChange validJoinsSpec)) validJoinsCard

/-- THE TIED CARD OF 'lorgnettelaw09.ValidDeeper'. -/
def validDeeperCard : Claim7 := { stood := { row := validDeeperRow, standIns := [], harness := (true, "dd1c7c7d62a434c33ade268683a0223364836a5c804a11e44c03d2e490113a66"), looks := false }, kinds := [], alts := [], laidByText := true, laidKinds := [.data], laidTests := true, laidLooks := .later }
def ValidDeeperCardSaid : Prop := Claim7.holds Tryd.pinned (.plain (OpenSpec.ofChange validDeeperSpec)) validDeeperCard

/-- THE SECOND FORM's CARD OF 'lorgnettelaw09.ValidPrefix'. -/
def validPrefixUptoCard : Claim7 := { stood := { row := validPrefixUptoRow, standIns := [], harness := (true, "dd1c7c7d62a434c33ade268683a0223364836a5c804a11e44c03d2e490113a66"), looks := false }, kinds := [], alts := [], laidByText := true, laidKinds := [.data], laidTests := true, laidLooks := .later }
def ValidPrefixUptoCardSaid : Prop := Claim7.holds Tryd.pinned (.plain (OpenSpec.upto validPrefixSpec)) validPrefixUptoCard

/-- THE SECOND FORM's CARD OF 'lorgnettelaw09.ValidSpans'. -/
def validSpansUptoCard : Claim7 := { stood := { row := validSpansUptoRow, standIns := [], harness := (true, "dd1c7c7d62a434c33ade268683a0223364836a5c804a11e44c03d2e490113a66"), looks := false }, kinds := [], alts := [], laidByText := true, laidKinds := [.data], laidTests := true, laidLooks := .later }
def ValidSpansUptoCardSaid : Prop := Claim7.holds Tryd.pinned (.plain (OpenSpec.upto validSpansSpec)) validSpansUptoCard

/-- THE SECOND FORM's CARD OF 'lorgnettelaw09.ValidJoins'. -/
def validJoinsUptoCard : Claim7 := { stood := { row := validJoinsUptoRow, standIns := [], harness := (true, "dd1c7c7d62a434c33ade268683a0223364836a5c804a11e44c03d2e490113a66"), looks := false }, kinds := [], alts := [], laidByText := true, laidKinds := [.data], laidTests := true, laidLooks := .later }
def ValidJoinsUptoCardSaid : Prop := Claim7.holds Tryd.pinned (.plain (OpenSpec.upto validJoinsSpec)) validJoinsUptoCard

/-- THE SECOND FORM's CARD OF 'lorgnettelaw09.ValidDeeper'. -/
def validDeeperUptoCard : Claim7 := { stood := { row := validDeeperUptoRow, standIns := [], harness := (true, "dd1c7c7d62a434c33ade268683a0223364836a5c804a11e44c03d2e490113a66"), looks := false }, kinds := [], alts := [], laidByText := true, laidKinds := [.data], laidTests := true, laidLooks := .later }
def ValidDeeperUptoCardSaid : Prop := Claim7.holds Tryd.pinned (.plain (OpenSpec.upto validDeeperSpec)) validDeeperUptoCard
end Rows
end Go.Proofs.YtefaieglhllioaaDoor
