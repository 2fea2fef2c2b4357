/-
  DERIVED. GIVEN WITH THE SEED: THE CARDS: each row of YtelagemniheeoaaDoorRows.lean that lists a variable, with what it lists TIED to the program's text (the seventh form; the later family's looks); each row that meets fmt, with fmt's text TOLD by the authors' own Lean function (tested against real Go, not proved from fmt's source: count such statements apart). THE CARD IS WHAT COUNTS. Prove the row's statement (the work); the ties are given (YtelagemniheeoaaDoorTie.lean); close each card by the builder's one call (the guide's Derived/Test/ToyasCard.lean, 'card_holds'). Laid BY PROGRAM, IN A SANDBOX (cutbox-door.mjs). By AI agents, Wed Nov 11 2026. No macro, syntax, notation, axiom, sorry.
-/
import Derived.Test.YtelagemniheeoaaDoorRows
import GoSem.ClaimSeven
namespace Go.Proofs.YtelagemniheeoaaDoor
namespace Rows

/-- THE TIED CARD OF 'lorgnettelaw08.ParensRanks'. -/
def parensRanksCard : Claim7 := { stood := { row := parensRanksRow, standIns := [], harness := (true, "e9b2e994aadfc061521514bcd4a240060ea8e6881e9414a367ce99bcdafe4543"), looks := false }, kinds := [], alts := [], laidByText := true, laidKinds := [.data], laidTests := true, laidLooks := .later }
def ParensRanksCardSaid : Prop := Claim7.holds Tryd.pinned (.plain (OpenSpec.ofChange parensRanksSpec)) parensRanksCard

/-- THE TIED CARD OF 'lorgnettelaw08.ParensCloses'. -/
def parensClosesCard : Claim7 := { stood := { row := parensClosesRow, standIns := [], harness := (true, "e9b2e994aadfc061521514bcd4a240060ea8e6881e9414a367ce99bcdafe4543"), looks := false }, kinds := [], alts := [], laidByText := true, laidKinds := [.data], laidTests := true, laidLooks := .later }
def ParensClosesCardSaid : Prop := Claim7.holds Tryd.pinned (.plain (OpenSpec.ofChange parensClosesSpec)) parensClosesCard

/-- THE TIED CARD OF 'lorgnettelaw08.ParensWithin'. -/
def parensWithinCard : Claim7 := { stood := { row := parensWithinRow, standIns := [], harness := (true, "e9b2e994aadfc061521514bcd4a240060ea8e6881e9414a367ce99bcdafe4543"), looks := false }, kinds := [], alts := [], laidByText := true, laidKinds := [.data], laidTests := true, laidLooks := .later }
def ParensWithinCardSaid : Prop := Claim7.holds Tryd.pinned (.plain (OpenSpec.ofChange parensWithinSpec)) parensWithinCard

/-- THE TIED CARD OF 'lorgnettelaw08.ParensBack'. -/
def parensBackCard : Claim7 := { stood := { row := parensBackRow, standIns := [], harness := (true, "e9b2e994aadfc061521514bcd4a240060ea8e6881e9414a367ce99bcdafe4543"), looks := false }, kinds := [], alts := [], laidByText := true, laidKinds := [.data], laidTests := true, laidLooks := .later }
def ParensBackCardSaid : Prop := Claim7.holds Tryd.pinned (.plain (OpenSpec.ofChange parensBackSpec)) parensBackCard

/-- THE TIED CARD OF 'lorgnettelaw08.ParensChildren'. -/
def parensChildrenCard : Claim7 := { stood := { row := parensChildrenRow, standIns := [], harness := (true, "e9b2e994aadfc061521514bcd4a240060ea8e6881e9414a367ce99bcdafe4543"), looks := false }, kinds := [], alts := [], laidByText := true, laidKinds := [.data], laidTests := true, laidLooks := .later }
def ParensChildrenCardSaid : Prop := Claim7.holds Tryd.pinned (.plain (OpenSpec.ofChange parensChildrenSpec)) parensChildrenCard

/-- THE TIED CARD OF 'lorgnettelaw08.ParensDirectory'. -/
def parensDirectoryCard : Claim7 := { stood := { row := parensDirectoryRow, standIns := [], harness := (true, "e9b2e994aadfc061521514bcd4a240060ea8e6881e9414a367ce99bcdafe4543"), looks := false }, kinds := [], alts := [], laidByText := true, laidKinds := [.data], laidTests := true, laidLooks := .later }
def ParensDirectoryCardSaid : Prop := Claim7.holds Tryd.pinned (.plain (OpenSpec.ofChange parensDirectorySpec)) parensDirectoryCard

/-- THE SECOND FORM's CARD OF 'lorgnettelaw08.ParensRanks'. -/
def parensRanksUptoCard : Claim7 := { stood := { row := parensRanksUptoRow, standIns := [], harness := (true, "e9b2e994aadfc061521514bcd4a240060ea8e6881e9414a367ce99bcdafe4543"), looks := false }, kinds := [], alts := [], laidByText := true, laidKinds := [.data], laidTests := true, laidLooks := .later }
def ParensRanksUptoCardSaid : Prop := Claim7.holds Tryd.pinned (.plain (OpenSpec.upto parensRanksSpec)) parensRanksUptoCard

/-- THE SECOND FORM's CARD OF 'lorgnettelaw08.ParensCloses'. -/
def parensClosesUptoCard : Claim7 := { stood := { row := parensClosesUptoRow, standIns := [], harness := (true, "e9b2e994aadfc061521514bcd4a240060ea8e6881e9414a367ce99bcdafe4543"), looks := false }, kinds := [], alts := [], laidByText := true, laidKinds := [.data], laidTests := true, laidLooks := .later }
def ParensClosesUptoCardSaid : Prop := Claim7.holds Tryd.pinned (.plain (OpenSpec.upto parensClosesSpec)) parensClosesUptoCard

/-- THE SECOND FORM's CARD OF 'lorgnettelaw08.ParensWithin'. -/
def parensWithinUptoCard : Claim7 := { stood := { row := parensWithinUptoRow, standIns := [], harness := (true, "e9b2e994aadfc061521514bcd4a240060ea8e6881e9414a367ce99bcdafe4543"), looks := false }, kinds := [], alts := [], laidByText := true, laidKinds := [.data], laidTests := true, laidLooks := .later }
def ParensWithinUptoCardSaid : Prop := Claim7.holds Tryd.pinned (.plain (OpenSpec.upto parensWithinSpec)) parensWithinUptoCard

/-- THE SECOND FORM's CARD OF 'lorgnettelaw08.ParensBack'. -/
def parensBackUptoCard : Claim7 := { stood := { row := parensBackUptoRow, standIns := [], harness := (true, "e9b2e994aadfc061521514bcd4a240060ea8e6881e9414a367ce99bcdafe4543"), looks := false }, kinds := [], alts := [], laidByText := true, laidKinds := [.data], laidTests := true, laidLooks := .later }
def ParensBackUptoCardSaid : Prop := Claim7.holds Tryd.pinned (.plain (OpenSpec.upto parensBackSpec)) parensBackUptoCard

/-- THE SECOND FORM's CARD OF 'lorgnettelaw08.ParensChildren'. -/
def parensChildrenUptoCard : Claim7 := { stood := { row := parensChildrenUptoRow, standIns := [], harness := (true, "e9b2e994aadfc061521514bcd4a240060ea8e6881e9414a367ce99bcdafe4543"), looks := false }, kinds := [], alts := [], laidByText := true, laidKinds := [.data], laidTests := true, laidLooks := .later }
def ParensChildrenUptoCardSaid : Prop := Claim7.holds Tryd.pinned (.plain (OpenSpec.upto parensChildrenSpec)) parensChildrenUptoCard

/-- THE SECOND FORM's CARD OF 'lorgnettelaw08.ParensDirectory'. -/
def parensDirectoryUptoCard : Claim7 := { stood := { row := parensDirectoryUptoRow, standIns := [], harness := (true, "e9b2e994aadfc061521514bcd4a240060ea8e6881e9414a367ce99bcdafe4543"), looks := false }, kinds := [], alts := [], laidByText := true, laidKinds := [.data], laidTests := true, laidLooks := .later }
def ParensDirectoryUptoCardSaid : Prop := Claim7.holds Tryd.pinned (.plain (OpenSpec.upto parensDirectorySpec)) parensDirectoryUptoCard
end Rows
end Go.Proofs.YtelagemniheeoaaDoor
