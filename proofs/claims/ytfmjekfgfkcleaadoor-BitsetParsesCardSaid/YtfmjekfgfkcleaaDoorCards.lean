/-
  DERIVED. GIVEN WITH THE SEED: THE CARDS: each row of YtfmjekfgfkcleaaDoorRows.lean that lists a variable, with what it lists TIED to the program's text (the seventh form; the later family's looks); each row that meets fmt, with fmt's text TOLD by the authors' own Lean function (tested against real Go, not proved from fmt's source: count such statements apart). THE CARD IS WHAT COUNTS. Prove the row's statement (the work); the ties are given (YtfmjekfgfkcleaaDoorTie.lean); close each card by the builder's one call (the guide's Derived/Test/ToyasCard.lean, 'card_holds'). Laid BY PROGRAM, IN A SANDBOX (cutbox-door.mjs). By AI agents, Wed Nov 11 2026. No macro, syntax, notation, axiom, sorry.
-/
import Derived.Test.YtfmjekfgfkcleaaDoorRows
import GoSem.ClaimSeven
namespace Go.Proofs.YtfmjekfgfkcleaaDoor
namespace Rows

/-- THE TIED CARD OF 'airtimelaw01.BitsetElements'. -/
def bitsetElementsCard : Claim7 := { stood := { row := bitsetElementsRow, standIns := [], harness := (true, "cc3d28190ef4db82cbd71905939360e9cadcafb8b0b3d09f4c6d7bcc4376f75e"), looks := true }, kinds := [], alts := [], laidByText := true, laidKinds := [.data, .data, .data, .sentinel, .sentinel], laidTests := true, laidLooks := .later }
def BitsetElementsCardSaid : Prop := Claim7.holds Tryd.pinned (.plain (OpenSpec.ofChange bitsetElementsSpec)) bitsetElementsCard

/-- THE TIED CARD OF 'airtimelaw01.BitsetCounts'. -/
def bitsetCountsCard : Claim7 := { stood := { row := bitsetCountsRow, standIns := [], harness := (true, "cc3d28190ef4db82cbd71905939360e9cadcafb8b0b3d09f4c6d7bcc4376f75e"), looks := true }, kinds := [], alts := [], laidByText := true, laidKinds := [.data, .data, .data, .sentinel, .sentinel], laidTests := true, laidLooks := .later }
def BitsetCountsCardSaid : Prop := Claim7.holds Tryd.pinned (.plain (OpenSpec.ofChange bitsetCountsSpec)) bitsetCountsCard

/-- THE TIED CARD OF 'airtimelaw01.BitsetMoves'. -/
def bitsetMovesCard : Claim7 := { stood := { row := bitsetMovesRow, standIns := [], harness := (true, "cc3d28190ef4db82cbd71905939360e9cadcafb8b0b3d09f4c6d7bcc4376f75e"), looks := true }, kinds := [], alts := [], laidByText := true, laidKinds := [.data, .data, .data, .sentinel, .sentinel], laidTests := true, laidLooks := .later }
def BitsetMovesCardSaid : Prop := Claim7.holds Tryd.pinned (.plain (OpenSpec.ofChange bitsetMovesSpec)) bitsetMovesCard

/-- THE TIED CARD OF 'airtimelaw01.BitsetStops'. -/
def bitsetStopsCard : Claim7 := { stood := { row := bitsetStopsRow, standIns := [], harness := (true, "cc3d28190ef4db82cbd71905939360e9cadcafb8b0b3d09f4c6d7bcc4376f75e"), looks := true }, kinds := [], alts := [], laidByText := true, laidKinds := [.data, .data, .data, .sentinel, .sentinel], laidTests := true, laidLooks := .later }
def BitsetStopsCardSaid : Prop := Claim7.holds Tryd.pinned (.plain (OpenSpec.ofChange bitsetStopsSpec)) bitsetStopsCard

/-- THE TIED CARD OF 'airtimelaw01.BitsetParses'. -/
def bitsetParsesCard : Claim7 := { stood := { row := bitsetParsesRow, standIns := [], harness := (true, "cc3d28190ef4db82cbd71905939360e9cadcafb8b0b3d09f4c6d7bcc4376f75e"), looks := true }, kinds := [], alts := [], laidByText := true, laidKinds := [.data, .data, .data, .sentinel, .sentinel], laidTests := true, laidLooks := .later }
def BitsetParsesCardSaid : Prop := Claim7.holds Tryd.pinned (.plain (OpenSpec.ofChange bitsetParsesSpec)) bitsetParsesCard

/-- THE TIED CARD OF 'airtimelaw01.BitsetSets'. -/
def bitsetSetsCard : Claim7 := { stood := { row := bitsetSetsRow, standIns := [], harness := (true, "cc3d28190ef4db82cbd71905939360e9cadcafb8b0b3d09f4c6d7bcc4376f75e"), looks := true }, kinds := [], alts := [], laidByText := true, laidKinds := [.data, .data, .data, .sentinel, .sentinel], laidTests := true, laidLooks := .later }
def BitsetSetsCardSaid : Prop := Claim7.holds Tryd.pinned (.plain (OpenSpec.ofChange bitsetSetsSpec)) bitsetSetsCard

/-- THE SECOND FORM's CARD OF 'airtimelaw01.BitsetElements'. -/
def bitsetElementsUptoCard : Claim7 := { stood := { row := bitsetElementsUptoRow, standIns := [], harness := (true, "cc3d28190ef4db82cbd71905939360e9cadcafb8b0b3d09f4c6d7bcc4376f75e"), looks := true }, kinds := [], alts := [], laidByText := true, laidKinds := [.data, .data, .data, .sentinel, .sentinel], laidTests := true, laidLooks := .later }
def BitsetElementsUptoCardSaid : Prop := Claim7.holds Tryd.pinned (.plain (OpenSpec.upto bitsetElementsSpec)) bitsetElementsUptoCard

/-- THE SECOND FORM's CARD OF 'airtimelaw01.BitsetCounts'. -/
def bitsetCountsUptoCard : Claim7 := { stood := { row := bitsetCountsUptoRow, standIns := [], harness := (true, "cc3d28190ef4db82cbd71905939360e9cadcafb8b0b3d09f4c6d7bcc4376f75e"), looks := true }, kinds := [], alts := [], laidByText := true, laidKinds := [.data, .data, .data, .sentinel, .sentinel], laidTests := true, laidLooks := .later }
def BitsetCountsUptoCardSaid : Prop := Claim7.holds Tryd.pinned (.plain (OpenSpec.upto bitsetCountsSpec)) bitsetCountsUptoCard

/-- THE SECOND FORM's CARD OF 'airtimelaw01.BitsetMoves'. -/
def bitsetMovesUptoCard : Claim7 := { stood := { row := bitsetMovesUptoRow, standIns := [], harness := (true, "cc3d28190ef4db82cbd71905939360e9cadcafb8b0b3d09f4c6d7bcc4376f75e"), looks := true }, kinds := [], alts := [], laidByText := true, laidKinds := [.data, .data, .data, .sentinel, .sentinel], laidTests := true, laidLooks := .later }
def BitsetMovesUptoCardSaid : Prop := Claim7.holds Tryd.pinned (.plain (OpenSpec.upto bitsetMovesSpec)) bitsetMovesUptoCard

/-- THE SECOND FORM's CARD OF 'airtimelaw01.BitsetStops'. -/
def bitsetStopsUptoCard : Claim7 := { stood := { row := bitsetStopsUptoRow, standIns := [], harness := (true, "cc3d28190ef4db82cbd71905939360e9cadcafb8b0b3d09f4c6d7bcc4376f75e"), looks := true }, kinds := [], alts := [], laidByText := true, laidKinds := [.data, .data, .data, .sentinel, .sentinel], laidTests := true, laidLooks := .later }
def BitsetStopsUptoCardSaid : Prop := Claim7.holds Tryd.pinned (.plain (OpenSpec.upto bitsetStopsSpec)) bitsetStopsUptoCard

/-- THE SECOND FORM's CARD OF 'airtimelaw01.BitsetParses'. -/
def bitsetParsesUptoCard : Claim7 := { stood := { row := bitsetParsesUptoRow, standIns := [], harness := (true, "cc3d28190ef4db82cbd71905939360e9cadcafb8b0b3d09f4c6d7bcc4376f75e"), looks := true }, kinds := [], alts := [], laidByText := true, laidKinds := [.data, .data, .data, .sentinel, .sentinel], laidTests := true, laidLooks := .later }
def BitsetParsesUptoCardSaid : Prop := Claim7.holds Tryd.pinned (.plain (OpenSpec.upto bitsetParsesSpec)) bitsetParsesUptoCard

/-- THE SECOND FORM's CARD OF 'airtimelaw01.BitsetSets'. -/
def bitsetSetsUptoCard : Claim7 := { stood := { row := bitsetSetsUptoRow, standIns := [], harness := (true, "cc3d28190ef4db82cbd71905939360e9cadcafb8b0b3d09f4c6d7bcc4376f75e"), looks := true }, kinds := [], alts := [], laidByText := true, laidKinds := [.data, .data, .data, .sentinel, .sentinel], laidTests := true, laidLooks := .later }
def BitsetSetsUptoCardSaid : Prop := Claim7.holds Tryd.pinned (.plain (OpenSpec.upto bitsetSetsSpec)) bitsetSetsUptoCard
end Rows
end Go.Proofs.YtfmjekfgfkcleaaDoor
