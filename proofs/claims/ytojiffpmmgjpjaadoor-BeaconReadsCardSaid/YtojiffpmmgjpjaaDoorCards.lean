/-
  DERIVED. GIVEN WITH THE SEED: THE CARDS: each row of YtojiffpmmgjpjaaDoorRows.lean that lists a variable, with what it lists TIED to the program's text (the seventh form; the later family's looks); each row that meets fmt, with fmt's text TOLD by the authors' own Lean function (tested against real Go, not proved from fmt's source: count such statements apart). THE CARD IS WHAT COUNTS. Prove the row's statement (the work); the ties are given (YtojiffpmmgjpjaaDoorTie.lean); close each card by the builder's one call (the guide's Derived/Test/ToyasCard.lean, 'card_holds'). Laid BY PROGRAM, IN A SANDBOX (cutbox-door.mjs). By AI agents, Wed Nov 11 2026. No macro, syntax, notation, axiom, sorry.
-/
import Derived.Test.YtojiffpmmgjpjaaDoorRows
import GoSem.ClaimSeven
namespace Go.Proofs.YtojiffpmmgjpjaaDoor
namespace Rows

/-- THE TIED CARD OF 'airtimelaw14.BeaconReads'. -/
def beaconReadsCard : Claim7 := { stood := { row := beaconReadsRow, standIns := [], harness := (true, "5f8c35436e546c54355bbdcbc8355ac330eeaf7f31f5a81e01445611b860ffa0"), looks := false }, kinds := [], alts := [], laidByText := true, laidKinds := [.data], laidTests := true, laidLooks := .later }
def BeaconReadsCardSaid : Prop := Claim7.holds Tryd.pinned (.plain (OpenSpec.ofChange beaconReadsSpec)) beaconReadsCard

/-- THE TIED CARD OF 'airtimelaw14.BeaconEncodes'. -/
def beaconEncodesCard : Claim7 := { stood := { row := beaconEncodesRow, standIns := [], harness := (true, "5f8c35436e546c54355bbdcbc8355ac330eeaf7f31f5a81e01445611b860ffa0"), looks := false }, kinds := [], alts := [], laidByText := true, laidKinds := [.data], laidTests := true, laidLooks := .later }
def BeaconEncodesCardSaid : Prop := Claim7.holds Tryd.pinned (.plain (OpenSpec.ofChange beaconEncodesSpec)) beaconEncodesCard

/-- THE TIED CARD OF 'airtimelaw14.BeaconDecodes'. -/
def beaconDecodesCard : Claim7 := { stood := { row := beaconDecodesRow, standIns := [], harness := (true, "5f8c35436e546c54355bbdcbc8355ac330eeaf7f31f5a81e01445611b860ffa0"), looks := false }, kinds := [], alts := [], laidByText := true, laidKinds := [.data], laidTests := true, laidLooks := .later }
def BeaconDecodesCardSaid : Prop := Claim7.holds Tryd.pinned (.plain (OpenSpec.ofChange beaconDecodesSpec)) beaconDecodesCard

/-- THE TIED CARD OF 'airtimelaw14.BeaconOnly'. -/
def beaconOnlyCard : Claim7 := { stood := { row := beaconOnlyRow, standIns := [], harness := (true, "5f8c35436e546c54355bbdcbc8355ac330eeaf7f31f5a81e01445611b860ffa0"), looks := false }, kinds := [], alts := [], laidByText := true, laidKinds := [.data], laidTests := true, laidLooks := .later }
def BeaconOnlyCardSaid : Prop := Claim7.holds Tryd.pinned (.plain (OpenSpec.ofChange beaconOnlySpec)) beaconOnlyCard

/-- THE SECOND FORM's CARD OF 'airtimelaw14.BeaconReads'. -/
def beaconReadsUptoCard : Claim7 := { stood := { row := beaconReadsUptoRow, standIns := [], harness := (true, "5f8c35436e546c54355bbdcbc8355ac330eeaf7f31f5a81e01445611b860ffa0"), looks := false }, kinds := [], alts := [], laidByText := true, laidKinds := [.data], laidTests := true, laidLooks := .later }
def BeaconReadsUptoCardSaid : Prop := Claim7.holds Tryd.pinned (.plain (OpenSpec.upto beaconReadsSpec)) beaconReadsUptoCard

/-- THE SECOND FORM's CARD OF 'airtimelaw14.BeaconEncodes'. -/
def beaconEncodesUptoCard : Claim7 := { stood := { row := beaconEncodesUptoRow, standIns := [], harness := (true, "5f8c35436e546c54355bbdcbc8355ac330eeaf7f31f5a81e01445611b860ffa0"), looks := false }, kinds := [], alts := [], laidByText := true, laidKinds := [.data], laidTests := true, laidLooks := .later }
def BeaconEncodesUptoCardSaid : Prop := Claim7.holds Tryd.pinned (.plain (OpenSpec.upto beaconEncodesSpec)) beaconEncodesUptoCard

/-- THE SECOND FORM's CARD OF 'airtimelaw14.BeaconDecodes'. -/
def beaconDecodesUptoCard : Claim7 := { stood := { row := beaconDecodesUptoRow, standIns := [], harness := (true, "5f8c35436e546c54355bbdcbc8355ac330eeaf7f31f5a81e01445611b860ffa0"), looks := false }, kinds := [], alts := [], laidByText := true, laidKinds := [.data], laidTests := true, laidLooks := .later }
def BeaconDecodesUptoCardSaid : Prop := Claim7.holds Tryd.pinned (.plain (OpenSpec.upto beaconDecodesSpec)) beaconDecodesUptoCard

/-- THE SECOND FORM's CARD OF 'airtimelaw14.BeaconOnly'. -/
def beaconOnlyUptoCard : Claim7 := { stood := { row := beaconOnlyUptoRow, standIns := [], harness := (true, "5f8c35436e546c54355bbdcbc8355ac330eeaf7f31f5a81e01445611b860ffa0"), looks := false }, kinds := [], alts := [], laidByText := true, laidKinds := [.data], laidTests := true, laidLooks := .later }
def BeaconOnlyUptoCardSaid : Prop := Claim7.holds Tryd.pinned (.plain (OpenSpec.upto beaconOnlySpec)) beaconOnlyUptoCard
end Rows
end Go.Proofs.YtojiffpmmgjpjaaDoor
