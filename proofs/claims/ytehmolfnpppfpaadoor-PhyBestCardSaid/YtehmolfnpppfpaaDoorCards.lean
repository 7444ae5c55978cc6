/-
  DERIVED. GIVEN WITH THE SEED: THE CARDS: each row of YtehmolfnpppfpaaDoorRows.lean that lists a variable, with what it lists TIED to the program's text (the seventh form; the later family's looks); each row that meets fmt, with fmt's text TOLD by the authors' own Lean function (tested against real Go, not proved from fmt's source: count such statements apart). THE CARD IS WHAT COUNTS. Prove the row's statement (the work); the ties are given (YtehmolfnpppfpaaDoorTie.lean); close each card by the builder's one call (the guide's Derived/Test/ToyasCard.lean, 'card_holds'). Laid BY PROGRAM, IN A SANDBOX (cutbox-door.mjs). By AI agents, Wed Nov 11 2026. No macro, syntax, notation, axiom, sorry.
-/
import Derived.Test.YtehmolfnpppfpaaDoorRows
import GoSem.ClaimSeven
namespace Go.Proofs.YtehmolfnpppfpaaDoor
namespace Rows

/-- THE TIED CARD OF 'airtimelaw08.PhyFits'. -/
def phyFitsCard : Claim7 := { stood := { row := phyFitsRow, standIns := [], harness := (true, "76514264b56e6aeb84c25511a6f4796c622519f2064e426a30acbb2eead830b5"), looks := false }, kinds := [], alts := [], laidByText := true, laidKinds := [.data, .data, .data], laidTests := true, laidLooks := .later }
def PhyFitsCardSaid : Prop := Claim7.holds Tryd.pinned (.plain (OpenSpec.ofChange phyFitsSpec)) phyFitsCard

/-- THE TIED CARD OF 'airtimelaw08.PhyRates'. -/
def phyRatesCard : Claim7 := { stood := { row := phyRatesRow, standIns := [], harness := (true, "76514264b56e6aeb84c25511a6f4796c622519f2064e426a30acbb2eead830b5"), looks := false }, kinds := [], alts := [], laidByText := true, laidKinds := [.data, .data, .data], laidTests := true, laidLooks := .later }
def PhyRatesCardSaid : Prop := Claim7.holds Tryd.pinned (.plain (OpenSpec.ofChange phyRatesSpec)) phyRatesCard

/-- THE TIED CARD OF 'airtimelaw08.PhySlots'. -/
def phySlotsCard : Claim7 := { stood := { row := phySlotsRow, standIns := [], harness := (true, "76514264b56e6aeb84c25511a6f4796c622519f2064e426a30acbb2eead830b5"), looks := false }, kinds := [], alts := [], laidByText := true, laidKinds := [.data, .data, .data], laidTests := true, laidLooks := .later }
def PhySlotsCardSaid : Prop := Claim7.holds Tryd.pinned (.plain (OpenSpec.ofChange phySlotsSpec)) phySlotsCard

/-- THE TIED CARD OF 'airtimelaw08.PhyOrder'. -/
def phyOrderCard : Claim7 := { stood := { row := phyOrderRow, standIns := [], harness := (true, "76514264b56e6aeb84c25511a6f4796c622519f2064e426a30acbb2eead830b5"), looks := false }, kinds := [], alts := [], laidByText := true, laidKinds := [.data, .data, .data], laidTests := true, laidLooks := .later }
def PhyOrderCardSaid : Prop := Claim7.holds Tryd.pinned (.plain (OpenSpec.ofChange phyOrderSpec)) phyOrderCard

/-- THE TIED CARD OF 'airtimelaw08.PhyBest'. -/
def phyBestCard : Claim7 := { stood := { row := phyBestRow, standIns := [], harness := (true, "76514264b56e6aeb84c25511a6f4796c622519f2064e426a30acbb2eead830b5"), looks := false }, kinds := [], alts := [], laidByText := true, laidKinds := [.data, .data, .data], laidTests := true, laidLooks := .later }
def PhyBestCardSaid : Prop := Claim7.holds Tryd.pinned (.plain (OpenSpec.ofChange phyBestSpec)) phyBestCard

/-- THE SECOND FORM's CARD OF 'airtimelaw08.PhyFits'. -/
def phyFitsUptoCard : Claim7 := { stood := { row := phyFitsUptoRow, standIns := [], harness := (true, "76514264b56e6aeb84c25511a6f4796c622519f2064e426a30acbb2eead830b5"), looks := false }, kinds := [], alts := [], laidByText := true, laidKinds := [.data, .data, .data], laidTests := true, laidLooks := .later }
def PhyFitsUptoCardSaid : Prop := Claim7.holds Tryd.pinned (.plain (OpenSpec.upto phyFitsSpec)) phyFitsUptoCard

/-- THE SECOND FORM's CARD OF 'airtimelaw08.PhyRates'. -/
def phyRatesUptoCard : Claim7 := { stood := { row := phyRatesUptoRow, standIns := [], harness := (true, "76514264b56e6aeb84c25511a6f4796c622519f2064e426a30acbb2eead830b5"), looks := false }, kinds := [], alts := [], laidByText := true, laidKinds := [.data, .data, .data], laidTests := true, laidLooks := .later }
def PhyRatesUptoCardSaid : Prop := Claim7.holds Tryd.pinned (.plain (OpenSpec.upto phyRatesSpec)) phyRatesUptoCard

/-- THE SECOND FORM's CARD OF 'airtimelaw08.PhySlots'. -/
def phySlotsUptoCard : Claim7 := { stood := { row := phySlotsUptoRow, standIns := [], harness := (true, "76514264b56e6aeb84c25511a6f4796c622519f2064e426a30acbb2eead830b5"), looks := false }, kinds := [], alts := [], laidByText := true, laidKinds := [.data, .data, .data], laidTests := true, laidLooks := .later }
def PhySlotsUptoCardSaid : Prop := Claim7.holds Tryd.pinned (.plain (OpenSpec.upto phySlotsSpec)) phySlotsUptoCard

/-- THE SECOND FORM's CARD OF 'airtimelaw08.PhyOrder'. -/
def phyOrderUptoCard : Claim7 := { stood := { row := phyOrderUptoRow, standIns := [], harness := (true, "76514264b56e6aeb84c25511a6f4796c622519f2064e426a30acbb2eead830b5"), looks := false }, kinds := [], alts := [], laidByText := true, laidKinds := [.data, .data, .data], laidTests := true, laidLooks := .later }
def PhyOrderUptoCardSaid : Prop := Claim7.holds Tryd.pinned (.plain (OpenSpec.upto phyOrderSpec)) phyOrderUptoCard

/-- THE SECOND FORM's CARD OF 'airtimelaw08.PhyBest'. -/
def phyBestUptoCard : Claim7 := { stood := { row := phyBestUptoRow, standIns := [], harness := (true, "76514264b56e6aeb84c25511a6f4796c622519f2064e426a30acbb2eead830b5"), looks := false }, kinds := [], alts := [], laidByText := true, laidKinds := [.data, .data, .data], laidTests := true, laidLooks := .later }
def PhyBestUptoCardSaid : Prop := Claim7.holds Tryd.pinned (.plain (OpenSpec.upto phyBestSpec)) phyBestUptoCard
end Rows
end Go.Proofs.YtehmolfnpppfpaaDoor
