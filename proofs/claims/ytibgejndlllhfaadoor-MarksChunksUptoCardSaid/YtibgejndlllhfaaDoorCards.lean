/-
  DERIVED. GIVEN WITH THE SEED: THE CARDS: each row of YtibgejndlllhfaaDoorRows.lean that lists a variable, with what it lists TIED to the program's text (the seventh form; the later family's looks); each row that meets fmt, with fmt's text TOLD by the authors' own Lean function (tested against real Go, not proved from fmt's source: count such statements apart). THE CARD IS WHAT COUNTS. Prove the row's statement (the work); the ties are given (YtibgejndlllhfaaDoorTie.lean); close each card by the builder's one call (the guide's Derived/Test/ToyasCard.lean, 'card_holds'). Laid BY PROGRAM, IN A SANDBOX (cutbox-door.mjs). By AI agents, Wed Nov 11 2026. No macro, syntax, notation, axiom, sorry.
-/
import Derived.Test.YtibgejndlllhfaaDoorRows
import GoSem.ClaimSeven
namespace Go.Proofs.YtibgejndlllhfaaDoor
namespace Rows

/-- THE TIED CARD OF 'lorgnettelaw07.MarksBuilds'. -/
def marksBuildsCard : Claim7 := { stood := { row := marksBuildsRow, standIns := [], harness := (true, "5e51787465101022c729c0825bf03d30b16f32df256ddfd33e589e7bc356fec7"), looks := false }, kinds := [], alts := [], laidByText := true, laidKinds := [.data], laidTests := true, laidLooks := .later }
def MarksBuildsCardSaid : Prop := Claim7.holds Tryd.pinned (.plain (OpenSpec.ofChange marksBuildsSpec)) marksBuildsCard

/-- THE TIED CARD OF 'lorgnettelaw07.MarksChunks'. -/
def marksChunksCard : Claim7 := { stood := { row := marksChunksRow, standIns := [], harness := (true, "5e51787465101022c729c0825bf03d30b16f32df256ddfd33e589e7bc356fec7"), looks := false }, kinds := [], alts := [], laidByText := true, laidKinds := [.data], laidTests := true, laidLooks := .later }
def MarksChunksCardSaid : Prop := Claim7.holds Tryd.pinned (.plain (OpenSpec.ofChange marksChunksSpec)) marksChunksCard

/-- THE TIED CARD OF 'lorgnettelaw07.MarksPlaces'. -/
def marksPlacesCard : Claim7 := { stood := { row := marksPlacesRow, standIns := [], harness := (true, "5e51787465101022c729c0825bf03d30b16f32df256ddfd33e589e7bc356fec7"), looks := false }, kinds := [], alts := [], laidByText := true, laidKinds := [.data], laidTests := true, laidLooks := .later }
def MarksPlacesCardSaid : Prop := Claim7.holds Tryd.pinned (.plain (OpenSpec.ofChange marksPlacesSpec)) marksPlacesCard

/-- THE TIED CARD OF 'lorgnettelaw07.MarksNexts'. -/
def marksNextsCard : Claim7 := { stood := { row := marksNextsRow, standIns := [], harness := (true, "5e51787465101022c729c0825bf03d30b16f32df256ddfd33e589e7bc356fec7"), looks := false }, kinds := [], alts := [], laidByText := true, laidKinds := [.data], laidTests := true, laidLooks := .later }
def MarksNextsCardSaid : Prop := Claim7.holds Tryd.pinned (.plain (OpenSpec.ofChange marksNextsSpec)) marksNextsCard

/-- THE TIED CARD OF 'lorgnettelaw07.MarksBrackets'. -/
def marksBracketsCard : Claim7 := { stood := { row := marksBracketsRow, standIns := [], harness := (true, "5e51787465101022c729c0825bf03d30b16f32df256ddfd33e589e7bc356fec7"), looks := false }, kinds := [], alts := [], laidByText := true, laidKinds := [.data], laidTests := true, laidLooks := .later }
def MarksBracketsCardSaid : Prop := Claim7.holds Tryd.pinned (.plain (OpenSpec.ofChange marksBracketsSpec)) marksBracketsCard

/-- THE TIED CARD OF 'lorgnettelaw07.MarksWords'. -/
def marksWordsCard : Claim7 := { stood := { row := marksWordsRow, standIns := [], harness := (true, "5e51787465101022c729c0825bf03d30b16f32df256ddfd33e589e7bc356fec7"), looks := false }, kinds := [], alts := [], laidByText := true, laidKinds := [.data], laidTests := true, laidLooks := .later }
def MarksWordsCardSaid : Prop := Claim7.holds Tryd.pinned (.plain (OpenSpec.ofChange marksWordsSpec)) marksWordsCard

/-- THE TIED CARD OF 'lorgnettelaw07.MarksOrder'. -/
def marksOrderCard : Claim7 := { stood := { row := marksOrderRow, standIns := [], harness := (true, "5e51787465101022c729c0825bf03d30b16f32df256ddfd33e589e7bc356fec7"), looks := false }, kinds := [], alts := [], laidByText := true, laidKinds := [.data], laidTests := true, laidLooks := .later }
def MarksOrderCardSaid : Prop := Claim7.holds Tryd.pinned (.plain (OpenSpec.ofChange marksOrderSpec)) marksOrderCard

/-- THE SECOND FORM's CARD OF 'lorgnettelaw07.MarksBuilds'. -/
def marksBuildsUptoCard : Claim7 := { stood := { row := marksBuildsUptoRow, standIns := [], harness := (true, "5e51787465101022c729c0825bf03d30b16f32df256ddfd33e589e7bc356fec7"), looks := false }, kinds := [], alts := [], laidByText := true, laidKinds := [.data], laidTests := true, laidLooks := .later }
def MarksBuildsUptoCardSaid : Prop := Claim7.holds Tryd.pinned (.plain (OpenSpec.upto marksBuildsSpec)) marksBuildsUptoCard

/-- THE SECOND FORM's CARD OF 'lorgnettelaw07.MarksChunks'. -/
def marksChunksUptoCard : Claim7 := { stood := { row := marksChunksUptoRow, standIns := [], harness := (true, "5e51787465101022c729c0825bf03d30b16f32df256ddfd33e589e7bc356fec7"), looks := false }, kinds := [], alts := [], laidByText := true, laidKinds := [.data], laidTests := true, laidLooks := .later }
def MarksChunksUptoCardSaid : Prop := Claim7.holds Tryd.pinned (.plain (OpenSpec.upto marksChunksSpec)) marksChunksUptoCard

/-- THE SECOND FORM's CARD OF 'lorgnettelaw07.MarksPlaces'. -/
def marksPlacesUptoCard : Claim7 := { stood := { row := marksPlacesUptoRow, standIns := [], harness := (true, "5e51787465101022c729c0825bf03d30b16f32df256ddfd33e589e7bc356fec7"), looks := false }, kinds := [], alts := [], laidByText := true, laidKinds := [.data], laidTests := true, laidLooks := .later }
def MarksPlacesUptoCardSaid : Prop := Claim7.holds Tryd.pinned (.plain (OpenSpec.upto marksPlacesSpec)) marksPlacesUptoCard

/-- THE SECOND FORM's CARD OF 'lorgnettelaw07.MarksNexts'. -/
def marksNextsUptoCard : Claim7 := { stood := { row := marksNextsUptoRow, standIns := [], harness := (true, "5e51787465101022c729c0825bf03d30b16f32df256ddfd33e589e7bc356fec7"), looks := false }, kinds := [], alts := [], laidByText := true, laidKinds := [.data], laidTests := true, laidLooks := .later }
def MarksNextsUptoCardSaid : Prop := Claim7.holds Tryd.pinned (.plain (OpenSpec.upto marksNextsSpec)) marksNextsUptoCard

/-- THE SECOND FORM's CARD OF 'lorgnettelaw07.MarksBrackets'. -/
def marksBracketsUptoCard : Claim7 := { stood := { row := marksBracketsUptoRow, standIns := [], harness := (true, "5e51787465101022c729c0825bf03d30b16f32df256ddfd33e589e7bc356fec7"), looks := false }, kinds := [], alts := [], laidByText := true, laidKinds := [.data], laidTests := true, laidLooks := .later }
def MarksBracketsUptoCardSaid : Prop := Claim7.holds Tryd.pinned (.plain (OpenSpec.upto marksBracketsSpec)) marksBracketsUptoCard

/-- THE SECOND FORM's CARD OF 'lorgnettelaw07.MarksWords'. -/
def marksWordsUptoCard : Claim7 := { stood := { row := marksWordsUptoRow, standIns := [], harness := (true, "5e51787465101022c729c0825bf03d30b16f32df256ddfd33e589e7bc356fec7"), looks := false }, kinds := [], alts := [], laidByText := true, laidKinds := [.data], laidTests := true, laidLooks := .later }
def MarksWordsUptoCardSaid : Prop := Claim7.holds Tryd.pinned (.plain (OpenSpec.upto marksWordsSpec)) marksWordsUptoCard

/-- THE SECOND FORM's CARD OF 'lorgnettelaw07.MarksOrder'. -/
def marksOrderUptoCard : Claim7 := { stood := { row := marksOrderUptoRow, standIns := [], harness := (true, "5e51787465101022c729c0825bf03d30b16f32df256ddfd33e589e7bc356fec7"), looks := false }, kinds := [], alts := [], laidByText := true, laidKinds := [.data], laidTests := true, laidLooks := .later }
def MarksOrderUptoCardSaid : Prop := Claim7.holds Tryd.pinned (.plain (OpenSpec.upto marksOrderSpec)) marksOrderUptoCard
end Rows
end Go.Proofs.YtibgejndlllhfaaDoor
