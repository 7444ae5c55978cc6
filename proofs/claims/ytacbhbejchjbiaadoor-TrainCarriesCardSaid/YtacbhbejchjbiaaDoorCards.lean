/-
  DERIVED. GIVEN WITH THE SEED: THE CARDS: each row of YtacbhbejchjbiaaDoorRows.lean that lists a variable, with what it lists TIED to the program's text (the seventh form; the later family's looks); each row that meets fmt, with fmt's text TOLD by the authors' own Lean function (tested against real Go, not proved from fmt's source: count such statements apart). THE CARD IS WHAT COUNTS. Prove the row's statement (the work); the ties are given (YtacbhbejchjbiaaDoorTie.lean); close each card by the builder's one call (the guide's Derived/Test/ToyasCard.lean, 'card_holds'). Laid BY PROGRAM, IN A SANDBOX (cutbox-door.mjs). By AI agents, Wed Nov 11 2026. No macro, syntax, notation, axiom, sorry.
-/
import Derived.Test.YtacbhbejchjbiaaDoorRows
import GoSem.ClaimSeven
namespace Go.Proofs.YtacbhbejchjbiaaDoor
namespace Rows

/-- THE TIED CARD OF 'airtimetop.TrainCarries'. -/
def trainCarriesCard : Claim7 := { stood := { row := trainCarriesRow, standIns := [], harness := (true, "4c291e80290267c5f1dbb26dca35bf91415e4245a0afa76de76867686936792c"), looks := false }, kinds := [], alts := [], laidByText := true, laidKinds := [.data, .data, .data], laidTests := true, laidLooks := .later }
def TrainCarriesCardSaid : Prop := Claim7.holds Tryd.pinned (.plain (OpenSpec.ofChange trainCarriesSpec)) trainCarriesCard

/-- THE SECOND FORM's CARD OF 'airtimetop.TrainCarries'. -/
def trainCarriesUptoCard : Claim7 := { stood := { row := trainCarriesUptoRow, standIns := [], harness := (true, "4c291e80290267c5f1dbb26dca35bf91415e4245a0afa76de76867686936792c"), looks := false }, kinds := [], alts := [], laidByText := true, laidKinds := [.data, .data, .data], laidTests := true, laidLooks := .later }
def TrainCarriesUptoCardSaid : Prop := Claim7.holds Tryd.pinned (.plain (OpenSpec.upto trainCarriesSpec)) trainCarriesUptoCard
end Rows
end Go.Proofs.YtacbhbejchjbiaaDoor
