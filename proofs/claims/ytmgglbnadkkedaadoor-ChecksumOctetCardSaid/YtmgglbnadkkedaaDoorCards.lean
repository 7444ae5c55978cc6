/-
  DERIVED. GIVEN WITH THE SEED: THE CARDS: each row of YtmgglbnadkkedaaDoorRows.lean that lists a variable, with what it lists TIED to the program's text (the seventh form; the later family's looks); each row that meets fmt, with fmt's text TOLD by the authors' own Lean function (tested against real Go, not proved from fmt's source: count such statements apart). THE CARD IS WHAT COUNTS. Prove the row's statement (the work); the ties are given (YtmgglbnadkkedaaDoorTie.lean); close each card by the builder's one call (the guide's Derived/Test/ToyasCard.lean, 'card_holds'). Laid BY PROGRAM, IN A SANDBOX (cutbox-door.mjs). By AI agents, Wed Nov 11 2026. No macro, syntax, notation, axiom, sorry.
-/
import Derived.Test.YtmgglbnadkkedaaDoorRows
import GoSem.ClaimSeven
namespace Go.Proofs.YtmgglbnadkkedaaDoor
namespace Rows

/-- THE TIED CARD OF 'airtimelaw03.ChecksumSums'. -/
def checksumSumsCard : Claim7 := { stood := { row := checksumSumsRow, standIns := [], harness := (true, "f3b8ec0ce37515e261ef4b4fae9ee531627bfc390703db7ff44ea24c7565aa4e"), looks := false }, kinds := [], alts := [], laidByText := true, laidKinds := [.data, .data], laidTests := true, laidLooks := .later }
def ChecksumSumsCardSaid : Prop := Claim7.holds Tryd.pinned (.plain (OpenSpec.ofChange checksumSumsSpec)) checksumSumsCard

/-- THE TIED CARD OF 'airtimelaw03.ChecksumContinues'. -/
def checksumContinuesCard : Claim7 := { stood := { row := checksumContinuesRow, standIns := [], harness := (true, "f3b8ec0ce37515e261ef4b4fae9ee531627bfc390703db7ff44ea24c7565aa4e"), looks := false }, kinds := [], alts := [], laidByText := true, laidKinds := [.data, .data], laidTests := true, laidLooks := .later }
def ChecksumContinuesCardSaid : Prop := Claim7.holds Tryd.pinned (.plain (OpenSpec.ofChange checksumContinuesSpec)) checksumContinuesCard

/-- THE TIED CARD OF 'airtimelaw03.ChecksumOpens'. -/
def checksumOpensCard : Claim7 := { stood := { row := checksumOpensRow, standIns := [], harness := (true, "f3b8ec0ce37515e261ef4b4fae9ee531627bfc390703db7ff44ea24c7565aa4e"), looks := false }, kinds := [], alts := [], laidByText := true, laidKinds := [.data, .data], laidTests := true, laidLooks := .later }
def ChecksumOpensCardSaid : Prop := Claim7.holds Tryd.pinned (.plain (OpenSpec.ofChange checksumOpensSpec)) checksumOpensCard

/-- THE TIED CARD OF 'airtimelaw03.ChecksumParts'. -/
def checksumPartsCard : Claim7 := { stood := { row := checksumPartsRow, standIns := [], harness := (true, "f3b8ec0ce37515e261ef4b4fae9ee531627bfc390703db7ff44ea24c7565aa4e"), looks := false }, kinds := [], alts := [], laidByText := true, laidKinds := [.data, .data], laidTests := true, laidLooks := .later }
def ChecksumPartsCardSaid : Prop := Claim7.holds Tryd.pinned (.plain (OpenSpec.ofChange checksumPartsSpec)) checksumPartsCard

/-- THE TIED CARD OF 'airtimelaw03.ChecksumDetects'. -/
def checksumDetectsCard : Claim7 := { stood := { row := checksumDetectsRow, standIns := [], harness := (true, "f3b8ec0ce37515e261ef4b4fae9ee531627bfc390703db7ff44ea24c7565aa4e"), looks := false }, kinds := [], alts := [], laidByText := true, laidKinds := [.data, .data], laidTests := true, laidLooks := .later }
def ChecksumDetectsCardSaid : Prop := Claim7.holds Tryd.pinned (.plain (OpenSpec.ofChange checksumDetectsSpec)) checksumDetectsCard

/-- THE TIED CARD OF 'airtimelaw03.ChecksumOctet'. -/
def checksumOctetCard : Claim7 := { stood := { row := checksumOctetRow, standIns := [], harness := (true, "f3b8ec0ce37515e261ef4b4fae9ee531627bfc390703db7ff44ea24c7565aa4e"), looks := false }, kinds := [], alts := [], laidByText := true, laidKinds := [.data, .data], laidTests := true, laidLooks := .later }
def ChecksumOctetCardSaid : Prop := Claim7.holds Tryd.pinned (.plain (OpenSpec.ofChange checksumOctetSpec)) checksumOctetCard

/-- THE SECOND FORM's CARD OF 'airtimelaw03.ChecksumSums'. -/
def checksumSumsUptoCard : Claim7 := { stood := { row := checksumSumsUptoRow, standIns := [], harness := (true, "f3b8ec0ce37515e261ef4b4fae9ee531627bfc390703db7ff44ea24c7565aa4e"), looks := false }, kinds := [], alts := [], laidByText := true, laidKinds := [.data, .data], laidTests := true, laidLooks := .later }
def ChecksumSumsUptoCardSaid : Prop := Claim7.holds Tryd.pinned (.plain (OpenSpec.upto checksumSumsSpec)) checksumSumsUptoCard

/-- THE SECOND FORM's CARD OF 'airtimelaw03.ChecksumContinues'. -/
def checksumContinuesUptoCard : Claim7 := { stood := { row := checksumContinuesUptoRow, standIns := [], harness := (true, "f3b8ec0ce37515e261ef4b4fae9ee531627bfc390703db7ff44ea24c7565aa4e"), looks := false }, kinds := [], alts := [], laidByText := true, laidKinds := [.data, .data], laidTests := true, laidLooks := .later }
def ChecksumContinuesUptoCardSaid : Prop := Claim7.holds Tryd.pinned (.plain (OpenSpec.upto checksumContinuesSpec)) checksumContinuesUptoCard

/-- THE SECOND FORM's CARD OF 'airtimelaw03.ChecksumOpens'. -/
def checksumOpensUptoCard : Claim7 := { stood := { row := checksumOpensUptoRow, standIns := [], harness := (true, "f3b8ec0ce37515e261ef4b4fae9ee531627bfc390703db7ff44ea24c7565aa4e"), looks := false }, kinds := [], alts := [], laidByText := true, laidKinds := [.data, .data], laidTests := true, laidLooks := .later }
def ChecksumOpensUptoCardSaid : Prop := Claim7.holds Tryd.pinned (.plain (OpenSpec.upto checksumOpensSpec)) checksumOpensUptoCard

/-- THE SECOND FORM's CARD OF 'airtimelaw03.ChecksumParts'. -/
def checksumPartsUptoCard : Claim7 := { stood := { row := checksumPartsUptoRow, standIns := [], harness := (true, "f3b8ec0ce37515e261ef4b4fae9ee531627bfc390703db7ff44ea24c7565aa4e"), looks := false }, kinds := [], alts := [], laidByText := true, laidKinds := [.data, .data], laidTests := true, laidLooks := .later }
def ChecksumPartsUptoCardSaid : Prop := Claim7.holds Tryd.pinned (.plain (OpenSpec.upto checksumPartsSpec)) checksumPartsUptoCard

/-- THE SECOND FORM's CARD OF 'airtimelaw03.ChecksumDetects'. -/
def checksumDetectsUptoCard : Claim7 := { stood := { row := checksumDetectsUptoRow, standIns := [], harness := (true, "f3b8ec0ce37515e261ef4b4fae9ee531627bfc390703db7ff44ea24c7565aa4e"), looks := false }, kinds := [], alts := [], laidByText := true, laidKinds := [.data, .data], laidTests := true, laidLooks := .later }
def ChecksumDetectsUptoCardSaid : Prop := Claim7.holds Tryd.pinned (.plain (OpenSpec.upto checksumDetectsSpec)) checksumDetectsUptoCard

/-- THE SECOND FORM's CARD OF 'airtimelaw03.ChecksumOctet'. -/
def checksumOctetUptoCard : Claim7 := { stood := { row := checksumOctetUptoRow, standIns := [], harness := (true, "f3b8ec0ce37515e261ef4b4fae9ee531627bfc390703db7ff44ea24c7565aa4e"), looks := false }, kinds := [], alts := [], laidByText := true, laidKinds := [.data, .data], laidTests := true, laidLooks := .later }
def ChecksumOctetUptoCardSaid : Prop := Claim7.holds Tryd.pinned (.plain (OpenSpec.upto checksumOctetSpec)) checksumOctetUptoCard
end Rows
end Go.Proofs.YtmgglbnadkkedaaDoor
