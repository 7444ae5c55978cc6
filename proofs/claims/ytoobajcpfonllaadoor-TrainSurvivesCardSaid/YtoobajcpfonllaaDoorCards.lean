/-
  DERIVED. GIVEN WITH THE SEED: THE CARDS: each row of YtoobajcpfonllaaDoorRows.lean that lists a variable, with what it lists TIED to the program's text (the seventh form; the later family's looks); each row that meets fmt, with fmt's text TOLD by the authors' own Lean function (tested against real Go, not proved from fmt's source: count such statements apart). THE CARD IS WHAT COUNTS. Prove the row's statement (the work); the ties are given (YtoobajcpfonllaaDoorTie.lean); close each card by the builder's one call (the guide's Derived/Test/ToyasCard.lean, 'card_holds'). Laid BY PROGRAM, IN A SANDBOX (cutbox-door.mjs). By AI agents, Wed Nov 11 2026. No macro, syntax, notation, axiom, sorry.
-/
import Derived.Test.YtoobajcpfonllaaDoorRows
import GoSem.ClaimSeven
namespace Go.Proofs.YtoobajcpfonllaaDoor
namespace Rows

/-- THE TIED CARD OF 'airtimelaw17.TrainSurvives'. -/
def trainSurvivesCard : Claim7 := { stood := { row := trainSurvivesRow, standIns := [], harness := (true, "2e04e5fe5543036a24fe7dbe7c572963dde52a114e7e9b323e26d136b829397c"), looks := false }, kinds := [], alts := [], laidByText := true, laidKinds := [.data], laidTests := true, laidLooks := .later }
def TrainSurvivesCardSaid : Prop := Claim7.holds Tryd.pinned (.plain (OpenSpec.ofChange trainSurvivesSpec)) trainSurvivesCard

/-- THE TIED CARD OF 'airtimelaw17.TrainEncodes'. -/
def trainEncodesCard : Claim7 := { stood := { row := trainEncodesRow, standIns := [], harness := (true, "2e04e5fe5543036a24fe7dbe7c572963dde52a114e7e9b323e26d136b829397c"), looks := false }, kinds := [], alts := [], laidByText := true, laidKinds := [.data], laidTests := true, laidLooks := .later }
def TrainEncodesCardSaid : Prop := Claim7.holds Tryd.pinned (.plain (OpenSpec.ofChange trainEncodesSpec)) trainEncodesCard

/-- THE TIED CARD OF 'airtimelaw17.TrainDecodes'. -/
def trainDecodesCard : Claim7 := { stood := { row := trainDecodesRow, standIns := [], harness := (true, "2e04e5fe5543036a24fe7dbe7c572963dde52a114e7e9b323e26d136b829397c"), looks := false }, kinds := [], alts := [], laidByText := true, laidKinds := [.data], laidTests := true, laidLooks := .later }
def TrainDecodesCardSaid : Prop := Claim7.holds Tryd.pinned (.plain (OpenSpec.ofChange trainDecodesSpec)) trainDecodesCard

/-- THE TIED CARD OF 'airtimelaw17.TrainFinds'. -/
def trainFindsCard : Claim7 := { stood := { row := trainFindsRow, standIns := [], harness := (true, "2e04e5fe5543036a24fe7dbe7c572963dde52a114e7e9b323e26d136b829397c"), looks := false }, kinds := [], alts := [], laidByText := true, laidKinds := [.data], laidTests := true, laidLooks := .later }
def TrainFindsCardSaid : Prop := Claim7.holds Tryd.pinned (.plain (OpenSpec.ofChange trainFindsSpec)) trainFindsCard

/-- THE TIED CARD OF 'airtimelaw17.TrainFills'. -/
def trainFillsCard : Claim7 := { stood := { row := trainFillsRow, standIns := [], harness := (true, "2e04e5fe5543036a24fe7dbe7c572963dde52a114e7e9b323e26d136b829397c"), looks := false }, kinds := [], alts := [], laidByText := true, laidKinds := [.data], laidTests := true, laidLooks := .later }
def TrainFillsCardSaid : Prop := Claim7.holds Tryd.pinned (.plain (OpenSpec.ofChange trainFillsSpec)) trainFillsCard

/-- THE SECOND FORM's CARD OF 'airtimelaw17.TrainSurvives'. -/
def trainSurvivesUptoCard : Claim7 := { stood := { row := trainSurvivesUptoRow, standIns := [], harness := (true, "2e04e5fe5543036a24fe7dbe7c572963dde52a114e7e9b323e26d136b829397c"), looks := false }, kinds := [], alts := [], laidByText := true, laidKinds := [.data], laidTests := true, laidLooks := .later }
def TrainSurvivesUptoCardSaid : Prop := Claim7.holds Tryd.pinned (.plain (OpenSpec.upto trainSurvivesSpec)) trainSurvivesUptoCard

/-- THE SECOND FORM's CARD OF 'airtimelaw17.TrainEncodes'. -/
def trainEncodesUptoCard : Claim7 := { stood := { row := trainEncodesUptoRow, standIns := [], harness := (true, "2e04e5fe5543036a24fe7dbe7c572963dde52a114e7e9b323e26d136b829397c"), looks := false }, kinds := [], alts := [], laidByText := true, laidKinds := [.data], laidTests := true, laidLooks := .later }
def TrainEncodesUptoCardSaid : Prop := Claim7.holds Tryd.pinned (.plain (OpenSpec.upto trainEncodesSpec)) trainEncodesUptoCard

/-- THE SECOND FORM's CARD OF 'airtimelaw17.TrainDecodes'. -/
def trainDecodesUptoCard : Claim7 := { stood := { row := trainDecodesUptoRow, standIns := [], harness := (true, "2e04e5fe5543036a24fe7dbe7c572963dde52a114e7e9b323e26d136b829397c"), looks := false }, kinds := [], alts := [], laidByText := true, laidKinds := [.data], laidTests := true, laidLooks := .later }
def TrainDecodesUptoCardSaid : Prop := Claim7.holds Tryd.pinned (.plain (OpenSpec.upto trainDecodesSpec)) trainDecodesUptoCard

/-- THE SECOND FORM's CARD OF 'airtimelaw17.TrainFinds'. -/
def trainFindsUptoCard : Claim7 := { stood := { row := trainFindsUptoRow, standIns := [], harness := (true, "2e04e5fe5543036a24fe7dbe7c572963dde52a114e7e9b323e26d136b829397c"), looks := false }, kinds := [], alts := [], laidByText := true, laidKinds := [.data], laidTests := true, laidLooks := .later }
def TrainFindsUptoCardSaid : Prop := Claim7.holds Tryd.pinned (.plain (OpenSpec.upto trainFindsSpec)) trainFindsUptoCard

/-- THE SECOND FORM's CARD OF 'airtimelaw17.TrainFills'. -/
def trainFillsUptoCard : Claim7 := { stood := { row := trainFillsUptoRow, standIns := [], harness := (true, "2e04e5fe5543036a24fe7dbe7c572963dde52a114e7e9b323e26d136b829397c"), looks := false }, kinds := [], alts := [], laidByText := true, laidKinds := [.data], laidTests := true, laidLooks := .later }
def TrainFillsUptoCardSaid : Prop := Claim7.holds Tryd.pinned (.plain (OpenSpec.upto trainFillsSpec)) trainFillsUptoCard
end Rows
end Go.Proofs.YtoobajcpfonllaaDoor
