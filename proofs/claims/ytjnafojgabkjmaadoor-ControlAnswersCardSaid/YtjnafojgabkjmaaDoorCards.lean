/-
  DERIVED. GIVEN WITH THE SEED: THE CARDS: each row of YtjnafojgabkjmaaDoorRows.lean that lists a variable, with what it lists TIED to the program's text (the seventh form; the later family's looks); each row that meets fmt, with fmt's text TOLD by the authors' own Lean function (tested against real Go, not proved from fmt's source: count such statements apart). THE CARD IS WHAT COUNTS. Prove the row's statement (the work); the ties are given (YtjnafojgabkjmaaDoorTie.lean); close each card by the builder's one call (the guide's Derived/Test/ToyasCard.lean, 'card_holds'). Laid BY PROGRAM, IN A SANDBOX (cutbox-door.mjs). By AI agents, Wed Nov 11 2026. No macro, syntax, notation, axiom, sorry.
-/
import Derived.Test.YtjnafojgabkjmaaDoorRows
import GoSem.ClaimSeven
namespace Go.Proofs.YtjnafojgabkjmaaDoor
namespace Rows

/-- THE TIED CARD OF 'airtimelaw11.ControlAnswers'. -/
def controlAnswersCard : Claim7 := { stood := { row := controlAnswersRow, standIns := [], harness := (true, "1a81848083422a6e34c85423c9335b7904aa99f1b43f2e1671532c71f4f16b09"), looks := false }, kinds := [], alts := [], laidByText := true, laidKinds := [.data, .data], laidTests := true, laidLooks := .later }
def ControlAnswersCardSaid : Prop := Claim7.holds Tryd.pinned (.plain (OpenSpec.ofChange controlAnswersSpec)) controlAnswersCard

/-- THE TIED CARD OF 'airtimelaw11.ControlFrames'. -/
def controlFramesCard : Claim7 := { stood := { row := controlFramesRow, standIns := [], harness := (true, "1a81848083422a6e34c85423c9335b7904aa99f1b43f2e1671532c71f4f16b09"), looks := false }, kinds := [], alts := [], laidByText := true, laidKinds := [.data, .data], laidTests := true, laidLooks := .later }
def ControlFramesCardSaid : Prop := Claim7.holds Tryd.pinned (.plain (OpenSpec.ofChange controlFramesSpec)) controlFramesCard

/-- THE TIED CARD OF 'airtimelaw11.ControlResponds'. -/
def controlRespondsCard : Claim7 := { stood := { row := controlRespondsRow, standIns := [], harness := (true, "1a81848083422a6e34c85423c9335b7904aa99f1b43f2e1671532c71f4f16b09"), looks := false }, kinds := [], alts := [], laidByText := true, laidKinds := [.data, .data], laidTests := true, laidLooks := .later }
def ControlRespondsCardSaid : Prop := Claim7.holds Tryd.pinned (.plain (OpenSpec.ofChange controlRespondsSpec)) controlRespondsCard

/-- THE TIED CARD OF 'airtimelaw11.ControlBlocks'. -/
def controlBlocksCard : Claim7 := { stood := { row := controlBlocksRow, standIns := [], harness := (true, "1a81848083422a6e34c85423c9335b7904aa99f1b43f2e1671532c71f4f16b09"), looks := false }, kinds := [], alts := [], laidByText := true, laidKinds := [.data, .data], laidTests := true, laidLooks := .later }
def ControlBlocksCardSaid : Prop := Claim7.holds Tryd.pinned (.plain (OpenSpec.ofChange controlBlocksSpec)) controlBlocksCard

/-- THE TIED CARD OF 'airtimelaw11.ControlReads'. -/
def controlReadsCard : Claim7 := { stood := { row := controlReadsRow, standIns := [], harness := (true, "1a81848083422a6e34c85423c9335b7904aa99f1b43f2e1671532c71f4f16b09"), looks := false }, kinds := [], alts := [], laidByText := true, laidKinds := [.data, .data], laidTests := true, laidLooks := .later }
def ControlReadsCardSaid : Prop := Claim7.holds Tryd.pinned (.plain (OpenSpec.ofChange controlReadsSpec)) controlReadsCard

/-- THE SECOND FORM's CARD OF 'airtimelaw11.ControlAnswers'. -/
def controlAnswersUptoCard : Claim7 := { stood := { row := controlAnswersUptoRow, standIns := [], harness := (true, "1a81848083422a6e34c85423c9335b7904aa99f1b43f2e1671532c71f4f16b09"), looks := false }, kinds := [], alts := [], laidByText := true, laidKinds := [.data, .data], laidTests := true, laidLooks := .later }
def ControlAnswersUptoCardSaid : Prop := Claim7.holds Tryd.pinned (.plain (OpenSpec.upto controlAnswersSpec)) controlAnswersUptoCard

/-- THE SECOND FORM's CARD OF 'airtimelaw11.ControlFrames'. -/
def controlFramesUptoCard : Claim7 := { stood := { row := controlFramesUptoRow, standIns := [], harness := (true, "1a81848083422a6e34c85423c9335b7904aa99f1b43f2e1671532c71f4f16b09"), looks := false }, kinds := [], alts := [], laidByText := true, laidKinds := [.data, .data], laidTests := true, laidLooks := .later }
def ControlFramesUptoCardSaid : Prop := Claim7.holds Tryd.pinned (.plain (OpenSpec.upto controlFramesSpec)) controlFramesUptoCard

/-- THE SECOND FORM's CARD OF 'airtimelaw11.ControlResponds'. -/
def controlRespondsUptoCard : Claim7 := { stood := { row := controlRespondsUptoRow, standIns := [], harness := (true, "1a81848083422a6e34c85423c9335b7904aa99f1b43f2e1671532c71f4f16b09"), looks := false }, kinds := [], alts := [], laidByText := true, laidKinds := [.data, .data], laidTests := true, laidLooks := .later }
def ControlRespondsUptoCardSaid : Prop := Claim7.holds Tryd.pinned (.plain (OpenSpec.upto controlRespondsSpec)) controlRespondsUptoCard

/-- THE SECOND FORM's CARD OF 'airtimelaw11.ControlBlocks'. -/
def controlBlocksUptoCard : Claim7 := { stood := { row := controlBlocksUptoRow, standIns := [], harness := (true, "1a81848083422a6e34c85423c9335b7904aa99f1b43f2e1671532c71f4f16b09"), looks := false }, kinds := [], alts := [], laidByText := true, laidKinds := [.data, .data], laidTests := true, laidLooks := .later }
def ControlBlocksUptoCardSaid : Prop := Claim7.holds Tryd.pinned (.plain (OpenSpec.upto controlBlocksSpec)) controlBlocksUptoCard

/-- THE SECOND FORM's CARD OF 'airtimelaw11.ControlReads'. -/
def controlReadsUptoCard : Claim7 := { stood := { row := controlReadsUptoRow, standIns := [], harness := (true, "1a81848083422a6e34c85423c9335b7904aa99f1b43f2e1671532c71f4f16b09"), looks := false }, kinds := [], alts := [], laidByText := true, laidKinds := [.data, .data], laidTests := true, laidLooks := .later }
def ControlReadsUptoCardSaid : Prop := Claim7.holds Tryd.pinned (.plain (OpenSpec.upto controlReadsSpec)) controlReadsUptoCard
end Rows
end Go.Proofs.YtjnafojgabkjmaaDoor
