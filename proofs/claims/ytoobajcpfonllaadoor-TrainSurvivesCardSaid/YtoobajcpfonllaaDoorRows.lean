/-
  NARROWER THAN 'FOR EVERY INPUT', by the rows' own cells (each row's printed sentence says how): TrainSurvives: laid · TrainEncodes: laid · TrainDecodes: laid · TrainFinds: laid · TrainFills: laid.
  DERIVED. THE GIVEN ROWS OF THIS SEAT. 5 by the template 'for every input the law returns true; each argument reads behind the call as it read before'; 0 by the template 'total and deterministic' (their statements: YtoobajcpfonllaaDoorTotals.lean).
  GIVEN WITH THE SEED: the statements are not yours to turn. If you find one false, say at which input.
  Laid BY PROGRAM, IN A SANDBOX (cutbox-rows.mjs): the forced cells as the released guide's own fill.sh prints them over the translation 5fdc9dab8c56e92a… (all of the seat's roots in one cut). By AI agents, Wed Nov 11 2026. No macro, syntax, notation, axiom, sorry.
-/
import Derived.Test.YtoobajcpfonllaaDoorChecked
import GoSem.Claim
import GoSem.ClaimJoined
import GoSem.ClaimMapViews
import Derived.JoinedTies
import Derived.KernelRfl
namespace Go.Proofs.YtoobajcpfonllaaDoor
/- THE CELL 'sum', in the pinned program and in every row, IS THE sha256 OF THE DUMP (.gsa) THAT YtoobajcpfonllaaDoorProg.lean LOADS. Nothing in Lean hashes anything: it is a label: what it is worth is what the hold of that sum in a sandbox is worth. -/
noncomputable def Tryd.pinned : Pinned := { name := "ytoobajcpfonllaadoor", sum := "5fdc9dab8c56e92a5bbc0e6af658e45ac9a6a41304c43ad895c93d39d03e74c4", checked := Tryd.checked }
namespace Rows
def none {H : Type} : Left H := { results := [], args := [] }

/- WHAT THE LISTED PACKAGE-LEVEL VARIABLES READ AS WHEN THE CALL BEGINS. Each datum BY PROGRAM (the guide's laid-datum.mjs) off the statement by which the dump's own 'gosem.cut.vars' lays the variable. In a bare row this is a premise. The card (YtoobajcpfonllaaDoorCards.lean) ties it to the program's text. -/
def laid_airtime_checksum_steps8 {H : Type} : DataW H := .agg [.lit (.int .u8 0), .lit (.int .u8 7), .lit (.int .u8 14), .lit (.int .u8 9), .lit (.int .u8 28), .lit (.int .u8 27), .lit (.int .u8 18), .lit (.int .u8 21), .lit (.int .u8 56), .lit (.int .u8 63), .lit (.int .u8 54), .lit (.int .u8 49), .lit (.int .u8 36), .lit (.int .u8 35), .lit (.int .u8 42), .lit (.int .u8 45)]

/-- 'airtimelaw17.TrainSurvives': WHATEVER THE INPUT: true; the input reads as it did. -/
def trainSurvivesSpec : ChangeSpec := { name := "trainSurvives", fn := fun _ => fun
  | [d1, d2, d3] => { results := [.lit (.bool true)], args := [d1, d2, d3] }
  | _ => none }
def trainSurvivesRow : OpenClaim := { program := "ytoobajcpfonllaadoor", sum := "5fdc9dab8c56e92a5bbc0e6af658e45ac9a6a41304c43ad895c93d39d03e74c4", func := "airtime/airtimelaw17.TrainSurvives", spec := "trainSurvives", named := ["airtime/checksum.steps8"], apart := false, laid := [("airtime/checksum.steps8", laid_airtime_checksum_steps8)] }
def TrainSurvivesSaid : Prop := trainSurvivesRow.holds Tryd.pinned (OpenSpec.ofChange trainSurvivesSpec)

/-- ITS FALSE NEIGHBOUR: 'it returns false'. Refute it at one input. -/
def trainSurvivesWrong : ChangeSpec := { name := "trainSurvives", fn := fun _ => fun
  | [d1, d2, d3] => { results := [.lit (.bool false)], args := [d1, d2, d3] }
  | _ => none }
def TrainSurvivesWrongFalsely : Prop := trainSurvivesRow.holds Tryd.pinned (OpenSpec.ofChange trainSurvivesWrong)

/-- 'airtimelaw17.TrainEncodes': WHATEVER THE INPUT: true; the input reads as it did. -/
def trainEncodesSpec : ChangeSpec := { name := "trainEncodes", fn := fun _ => fun
  | [d] => { results := [.lit (.bool true)], args := [d] }
  | _ => none }
def trainEncodesRow : OpenClaim := { program := "ytoobajcpfonllaadoor", sum := "5fdc9dab8c56e92a5bbc0e6af658e45ac9a6a41304c43ad895c93d39d03e74c4", func := "airtime/airtimelaw17.TrainEncodes", spec := "trainEncodes", named := ["airtime/checksum.steps8"], apart := false, laid := [("airtime/checksum.steps8", laid_airtime_checksum_steps8)] }
def TrainEncodesSaid : Prop := trainEncodesRow.holds Tryd.pinned (OpenSpec.ofChange trainEncodesSpec)

/-- ITS FALSE NEIGHBOUR: 'it returns false'. Refute it at one input. -/
def trainEncodesWrong : ChangeSpec := { name := "trainEncodes", fn := fun _ => fun
  | [d] => { results := [.lit (.bool false)], args := [d] }
  | _ => none }
def TrainEncodesWrongFalsely : Prop := trainEncodesRow.holds Tryd.pinned (OpenSpec.ofChange trainEncodesWrong)

/-- 'airtimelaw17.TrainDecodes': WHATEVER THE INPUT: true; the input reads as it did. -/
def trainDecodesSpec : ChangeSpec := { name := "trainDecodes", fn := fun _ => fun
  | [d] => { results := [.lit (.bool true)], args := [d] }
  | _ => none }
def trainDecodesRow : OpenClaim := { program := "ytoobajcpfonllaadoor", sum := "5fdc9dab8c56e92a5bbc0e6af658e45ac9a6a41304c43ad895c93d39d03e74c4", func := "airtime/airtimelaw17.TrainDecodes", spec := "trainDecodes", named := ["airtime/checksum.steps8"], apart := false, laid := [("airtime/checksum.steps8", laid_airtime_checksum_steps8)] }
def TrainDecodesSaid : Prop := trainDecodesRow.holds Tryd.pinned (OpenSpec.ofChange trainDecodesSpec)

/-- ITS FALSE NEIGHBOUR: 'it returns false'. Refute it at one input. -/
def trainDecodesWrong : ChangeSpec := { name := "trainDecodes", fn := fun _ => fun
  | [d] => { results := [.lit (.bool false)], args := [d] }
  | _ => none }
def TrainDecodesWrongFalsely : Prop := trainDecodesRow.holds Tryd.pinned (OpenSpec.ofChange trainDecodesWrong)

/-- 'airtimelaw17.TrainFinds': WHATEVER THE INPUT: true; the input reads as it did. -/
def trainFindsSpec : ChangeSpec := { name := "trainFinds", fn := fun _ => fun
  | [d] => { results := [.lit (.bool true)], args := [d] }
  | _ => none }
def trainFindsRow : OpenClaim := { program := "ytoobajcpfonllaadoor", sum := "5fdc9dab8c56e92a5bbc0e6af658e45ac9a6a41304c43ad895c93d39d03e74c4", func := "airtime/airtimelaw17.TrainFinds", spec := "trainFinds", named := ["airtime/checksum.steps8"], apart := false, laid := [("airtime/checksum.steps8", laid_airtime_checksum_steps8)] }
def TrainFindsSaid : Prop := trainFindsRow.holds Tryd.pinned (OpenSpec.ofChange trainFindsSpec)

/-- ITS FALSE NEIGHBOUR: 'it returns false'. Refute it at one input. -/
def trainFindsWrong : ChangeSpec := { name := "trainFinds", fn := fun _ => fun
  | [d] => { results := [.lit (.bool false)], args := [d] }
  | _ => none }
def TrainFindsWrongFalsely : Prop := trainFindsRow.holds Tryd.pinned (OpenSpec.ofChange trainFindsWrong)

/-- 'airtimelaw17.TrainFills': WHATEVER THE INPUT: true; the input reads as it did. -/
def trainFillsSpec : ChangeSpec := { name := "trainFills", fn := fun _ => fun
  | [d1, d2] => { results := [.lit (.bool true)], args := [d1, d2] }
  | _ => none }
def trainFillsRow : OpenClaim := { program := "ytoobajcpfonllaadoor", sum := "5fdc9dab8c56e92a5bbc0e6af658e45ac9a6a41304c43ad895c93d39d03e74c4", func := "airtime/airtimelaw17.TrainFills", spec := "trainFills", named := ["airtime/checksum.steps8"], apart := false, laid := [("airtime/checksum.steps8", laid_airtime_checksum_steps8)] }
def TrainFillsSaid : Prop := trainFillsRow.holds Tryd.pinned (OpenSpec.ofChange trainFillsSpec)

/-- ITS FALSE NEIGHBOUR: 'it returns false'. Refute it at one input. -/
def trainFillsWrong : ChangeSpec := { name := "trainFills", fn := fun _ => fun
  | [d1, d2] => { results := [.lit (.bool false)], args := [d1, d2] }
  | _ => none }
def TrainFillsWrongFalsely : Prop := trainFillsRow.holds Tryd.pinned (OpenSpec.ofChange trainFillsWrong)

/- THE SECOND FORM. 'bulk': how many values and letters a reading holds, each counted each time it is reached (what is shared counts as often as it is met; a slice's spare places count too). A statement '..UptoSaid' is the law's where the arguments, and the package variables that the reading takes, are together of bulk at most 1048576: NARROWER than '..Said'. Prove '..Said' where nothing that the law and all that it calls make is longer than what came in: it says more and counts as full. Else prove '..UptoSaid'. A law counts once. -/
mutual
def uptoBulk {H : Type} : DataW H → Nat
  | .lit (.string bytes) => bytes.length + 1
  | .lit _ => 1
  | .nil => 1
  | .ptr d => uptoBulk d + 1
  | .slice elems spare => uptoBulkAll elems + uptoBulkAll spare + 1
  | .agg parts => uptoBulkAll parts + 1
  | .iface _ d => uptoBulk d + 1
  | .map entries => uptoBulkEntries entries + 1
  | .held _ => 1
def uptoBulkAll {H : Type} : List (DataW H) → Nat
  | [] => 0
  | d :: r => uptoBulk d + uptoBulkAll r
def uptoBulkEntries {H : Type} : List (Lit × DataW H) → Nat
  | [] => 0
  | x :: r => uptoBulkEntry x + uptoBulkEntries r
def uptoBulkEntry {H : Type} : Lit × DataW H → Nat
  | (.string bytes, d) => bytes.length + uptoBulk d + 1
  | (_, d) => uptoBulk d + 1
 end
def uptoSmall : (H : Type) → List (DataW H) → Bool := fun _ ds => decide (uptoBulkAll ds ≤ 1048576)
def OpenSpec.upto (s : _root_.Go.ChangeSpec) : _root_.Go.OpenSpec := { _root_.Go.OpenSpec.ofChange s with cond := some uptoSmall }

/-- 'airtimelaw17.TrainSurvives', WHERE WHAT IT READS IS OF BULK AT MOST 1048576: true; the input reads as it did. -/
def trainSurvivesUptoRow : OpenClaim := { program := "ytoobajcpfonllaadoor", sum := "5fdc9dab8c56e92a5bbc0e6af658e45ac9a6a41304c43ad895c93d39d03e74c4", func := "airtime/airtimelaw17.TrainSurvives", spec := "trainSurvives", named := ["airtime/checksum.steps8"], apart := false, laid := [("airtime/checksum.steps8", laid_airtime_checksum_steps8)], narrowed := true }
def TrainSurvivesUptoSaid : Prop := trainSurvivesUptoRow.holds Tryd.pinned (OpenSpec.upto trainSurvivesSpec)

/-- 'airtimelaw17.TrainEncodes', WHERE WHAT IT READS IS OF BULK AT MOST 1048576: true; the input reads as it did. -/
def trainEncodesUptoRow : OpenClaim := { program := "ytoobajcpfonllaadoor", sum := "5fdc9dab8c56e92a5bbc0e6af658e45ac9a6a41304c43ad895c93d39d03e74c4", func := "airtime/airtimelaw17.TrainEncodes", spec := "trainEncodes", named := ["airtime/checksum.steps8"], apart := false, laid := [("airtime/checksum.steps8", laid_airtime_checksum_steps8)], narrowed := true }
def TrainEncodesUptoSaid : Prop := trainEncodesUptoRow.holds Tryd.pinned (OpenSpec.upto trainEncodesSpec)

/-- 'airtimelaw17.TrainDecodes', WHERE WHAT IT READS IS OF BULK AT MOST 1048576: true; the input reads as it did. -/
def trainDecodesUptoRow : OpenClaim := { program := "ytoobajcpfonllaadoor", sum := "5fdc9dab8c56e92a5bbc0e6af658e45ac9a6a41304c43ad895c93d39d03e74c4", func := "airtime/airtimelaw17.TrainDecodes", spec := "trainDecodes", named := ["airtime/checksum.steps8"], apart := false, laid := [("airtime/checksum.steps8", laid_airtime_checksum_steps8)], narrowed := true }
def TrainDecodesUptoSaid : Prop := trainDecodesUptoRow.holds Tryd.pinned (OpenSpec.upto trainDecodesSpec)

/-- 'airtimelaw17.TrainFinds', WHERE WHAT IT READS IS OF BULK AT MOST 1048576: true; the input reads as it did. -/
def trainFindsUptoRow : OpenClaim := { program := "ytoobajcpfonllaadoor", sum := "5fdc9dab8c56e92a5bbc0e6af658e45ac9a6a41304c43ad895c93d39d03e74c4", func := "airtime/airtimelaw17.TrainFinds", spec := "trainFinds", named := ["airtime/checksum.steps8"], apart := false, laid := [("airtime/checksum.steps8", laid_airtime_checksum_steps8)], narrowed := true }
def TrainFindsUptoSaid : Prop := trainFindsUptoRow.holds Tryd.pinned (OpenSpec.upto trainFindsSpec)

/-- 'airtimelaw17.TrainFills', WHERE WHAT IT READS IS OF BULK AT MOST 1048576: true; the input reads as it did. -/
def trainFillsUptoRow : OpenClaim := { program := "ytoobajcpfonllaadoor", sum := "5fdc9dab8c56e92a5bbc0e6af658e45ac9a6a41304c43ad895c93d39d03e74c4", func := "airtime/airtimelaw17.TrainFills", spec := "trainFills", named := ["airtime/checksum.steps8"], apart := false, laid := [("airtime/checksum.steps8", laid_airtime_checksum_steps8)], narrowed := true }
def TrainFillsUptoSaid : Prop := trainFillsUptoRow.holds Tryd.pinned (OpenSpec.upto trainFillsSpec)

end Rows
end Go.Proofs.YtoobajcpfonllaaDoor
