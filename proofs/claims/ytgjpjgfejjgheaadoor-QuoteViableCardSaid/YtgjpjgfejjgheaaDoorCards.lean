/-
  DERIVED. GIVEN WITH THE SEED: THE CARDS: each row of YtgjpjgfejjgheaaDoorRows.lean that lists a variable, with what it lists TIED to the program's text (the seventh form; the later family's looks); each row that meets fmt, with fmt's text TOLD by the authors' own Lean function (tested against real Go, not proved from fmt's source: count such statements apart). THE CARD IS WHAT COUNTS. Prove the row's statement (the work); the ties are given (YtgjpjgfejjgheaaDoorTie.lean); close each card by the builder's one call (the guide's Derived/Test/ToyasCard.lean, 'card_holds'). Laid BY PROGRAM, IN A SANDBOX (cutbox-door.mjs). By AI agents, Wed Nov 11 2026. No macro, syntax, notation, axiom, sorry.
-/
import Derived.Test.YtgjpjgfejjgheaaDoorRows
import GoSem.ClaimSeven
namespace Go.Proofs.YtgjpjgfejjgheaaDoor
namespace Rows

/-- THE TIED CARD OF 'lorgnettelaw05.QuoteWrites'. -/
def quoteWritesCard : Claim7 := { stood := { row := quoteWritesRow, standIns := [], harness := (true, "ebeeac1a1d2f4c9d48f4b0912119076b26f6437346629be53654fd733bee6f25"), looks := false }, kinds := [], alts := [], laidByText := true, laidKinds := [.data], laidTests := true, laidLooks := .later }
def QuoteWritesCardSaid : Prop := Claim7.holds Tryd.pinned (.plain (OpenSpec.ofChange quoteWritesSpec)) quoteWritesCard

/-- THE TIED CARD OF 'lorgnettelaw05.QuoteBack'. -/
def quoteBackCard : Claim7 := { stood := { row := quoteBackRow, standIns := [], harness := (true, "ebeeac1a1d2f4c9d48f4b0912119076b26f6437346629be53654fd733bee6f25"), looks := false }, kinds := [], alts := [], laidByText := true, laidKinds := [.data], laidTests := true, laidLooks := .later }
def QuoteBackCardSaid : Prop := Claim7.holds Tryd.pinned (.plain (OpenSpec.ofChange quoteBackSpec)) quoteBackCard

/-- THE TIED CARD OF 'lorgnettelaw05.QuoteSigns'. -/
def quoteSignsCard : Claim7 := { stood := { row := quoteSignsRow, standIns := [], harness := (true, "ebeeac1a1d2f4c9d48f4b0912119076b26f6437346629be53654fd733bee6f25"), looks := false }, kinds := [], alts := [], laidByText := true, laidKinds := [.data], laidTests := true, laidLooks := .later }
def QuoteSignsCardSaid : Prop := Claim7.holds Tryd.pinned (.plain (OpenSpec.ofChange quoteSignsSpec)) quoteSignsCard

/-- THE TIED CARD OF 'lorgnettelaw05.QuoteViable'. -/
def quoteViableCard : Claim7 := { stood := { row := quoteViableRow, standIns := [], harness := (true, "ebeeac1a1d2f4c9d48f4b0912119076b26f6437346629be53654fd733bee6f25"), looks := false }, kinds := [], alts := [], laidByText := true, laidKinds := [.data], laidTests := true, laidLooks := .later }
def QuoteViableCardSaid : Prop := Claim7.holds Tryd.pinned (.plain (OpenSpec.ofChange quoteViableSpec)) quoteViableCard

/-- THE SECOND FORM's CARD OF 'lorgnettelaw05.QuoteWrites'. -/
def quoteWritesUptoCard : Claim7 := { stood := { row := quoteWritesUptoRow, standIns := [], harness := (true, "ebeeac1a1d2f4c9d48f4b0912119076b26f6437346629be53654fd733bee6f25"), looks := false }, kinds := [], alts := [], laidByText := true, laidKinds := [.data], laidTests := true, laidLooks := .later }
def QuoteWritesUptoCardSaid : Prop := Claim7.holds Tryd.pinned (.plain (OpenSpec.upto quoteWritesSpec)) quoteWritesUptoCard

/-- THE SECOND FORM's CARD OF 'lorgnettelaw05.QuoteBack'. -/
def quoteBackUptoCard : Claim7 := { stood := { row := quoteBackUptoRow, standIns := [], harness := (true, "ebeeac1a1d2f4c9d48f4b0912119076b26f6437346629be53654fd733bee6f25"), looks := false }, kinds := [], alts := [], laidByText := true, laidKinds := [.data], laidTests := true, laidLooks := .later }
def QuoteBackUptoCardSaid : Prop := Claim7.holds Tryd.pinned (.plain (OpenSpec.upto quoteBackSpec)) quoteBackUptoCard

/-- THE SECOND FORM's CARD OF 'lorgnettelaw05.QuoteSigns'. -/
def quoteSignsUptoCard : Claim7 := { stood := { row := quoteSignsUptoRow, standIns := [], harness := (true, "ebeeac1a1d2f4c9d48f4b0912119076b26f6437346629be53654fd733bee6f25"), looks := false }, kinds := [], alts := [], laidByText := true, laidKinds := [.data], laidTests := true, laidLooks := .later }
def QuoteSignsUptoCardSaid : Prop := Claim7.holds Tryd.pinned (.plain (OpenSpec.upto quoteSignsSpec)) quoteSignsUptoCard

/-- THE SECOND FORM's CARD OF 'lorgnettelaw05.QuoteViable'. -/
def quoteViableUptoCard : Claim7 := { stood := { row := quoteViableUptoRow, standIns := [], harness := (true, "ebeeac1a1d2f4c9d48f4b0912119076b26f6437346629be53654fd733bee6f25"), looks := false }, kinds := [], alts := [], laidByText := true, laidKinds := [.data], laidTests := true, laidLooks := .later }
def QuoteViableUptoCardSaid : Prop := Claim7.holds Tryd.pinned (.plain (OpenSpec.upto quoteViableSpec)) quoteViableUptoCard
end Rows
end Go.Proofs.YtgjpjgfejjgheaaDoor
