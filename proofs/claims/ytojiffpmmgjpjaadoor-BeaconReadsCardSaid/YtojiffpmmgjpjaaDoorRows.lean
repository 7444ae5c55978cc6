/-
  NARROWER THAN 'FOR EVERY INPUT', by the rows' own cells (each row's printed sentence says how): BeaconReads: laid · BeaconEncodes: laid · BeaconDecodes: laid · BeaconOnly: laid.
  DERIVED. THE GIVEN ROWS OF THIS SEAT. 4 by the template 'for every input the law returns true; each argument reads behind the call as it read before'; 0 by the template 'total and deterministic' (their statements: YtojiffpmmgjpjaaDoorTotals.lean).
  GIVEN WITH THE SEED: the statements are not yours to turn. If you find one false, say at which input.
  Laid BY PROGRAM, IN A SANDBOX (cutbox-rows.mjs): the forced cells as the released guide's own fill.sh prints them over the translation f5c246feccbcac81… (all of the seat's roots in one cut). By AI agents, Wed Nov 11 2026. No macro, syntax, notation, axiom, sorry.
-/
import Derived.Test.YtojiffpmmgjpjaaDoorChecked
import GoSem.Claim
import GoSem.ClaimJoined
import GoSem.ClaimMapViews
import Derived.JoinedTies
import Derived.KernelRfl
namespace Go.Proofs.YtojiffpmmgjpjaaDoor
/- THE CELL 'sum', in the pinned program and in every row, IS THE sha256 OF THE DUMP (.gsa) THAT YtojiffpmmgjpjaaDoorProg.lean LOADS. Nothing in Lean hashes anything: it is a label: what it is worth is what the hold of that sum in a sandbox is worth. -/
noncomputable def Tryd.pinned : Pinned := { name := "ytojiffpmmgjpjaadoor", sum := "f5c246feccbcac81168539638be8600ea799435ea2b12da26f8dcb6d266b8dbc", checked := Tryd.checked }
namespace Rows
def none {H : Type} : Left H := { results := [], args := [] }

/- WHAT THE LISTED PACKAGE-LEVEL VARIABLES READ AS WHEN THE CALL BEGINS. Each datum BY PROGRAM (the guide's laid-datum.mjs) off the statement by which the dump's own 'gosem.cut.vars' lays the variable. In a bare row this is a premise. The card (YtojiffpmmgjpjaaDoorCards.lean) ties it to the program's text. -/
def laid_airtime_beacon_known {H : Type} : DataW H := .agg [.lit (.int .i64 0), .lit (.int .i64 3), .lit (.int .i64 5), .lit (.int .i64 11), .lit (.int .i64 12), .lit (.int .i64 37)]

/-- 'airtimelaw14.BeaconReads': WHATEVER THE INPUT: true; the input reads as it did. -/
def beaconReadsSpec : ChangeSpec := { name := "beaconReads", fn := fun _ => fun
  | [d1, d2, d3] => { results := [.lit (.bool true)], args := [d1, d2, d3] }
  | _ => none }
def beaconReadsRow : OpenClaim := { program := "ytojiffpmmgjpjaadoor", sum := "f5c246feccbcac81168539638be8600ea799435ea2b12da26f8dcb6d266b8dbc", func := "airtime/airtimelaw14.BeaconReads", spec := "beaconReads", named := ["airtime/beacon.known"], apart := false, laid := [("airtime/beacon.known", laid_airtime_beacon_known)] }
def BeaconReadsSaid : Prop := beaconReadsRow.holds Tryd.pinned (OpenSpec.ofChange beaconReadsSpec)

/-- ITS FALSE NEIGHBOUR: 'it returns false'. Refute it at one input. -/
def beaconReadsWrong : ChangeSpec := { name := "beaconReads", fn := fun _ => fun
  | [d1, d2, d3] => { results := [.lit (.bool false)], args := [d1, d2, d3] }
  | _ => none }
def BeaconReadsWrongFalsely : Prop := beaconReadsRow.holds Tryd.pinned (OpenSpec.ofChange beaconReadsWrong)

/-- 'airtimelaw14.BeaconEncodes': WHATEVER THE INPUT: true; the input reads as it did. -/
def beaconEncodesSpec : ChangeSpec := { name := "beaconEncodes", fn := fun _ => fun
  | [d] => { results := [.lit (.bool true)], args := [d] }
  | _ => none }
def beaconEncodesRow : OpenClaim := { program := "ytojiffpmmgjpjaadoor", sum := "f5c246feccbcac81168539638be8600ea799435ea2b12da26f8dcb6d266b8dbc", func := "airtime/airtimelaw14.BeaconEncodes", spec := "beaconEncodes", named := ["airtime/beacon.known"], apart := false, laid := [("airtime/beacon.known", laid_airtime_beacon_known)] }
def BeaconEncodesSaid : Prop := beaconEncodesRow.holds Tryd.pinned (OpenSpec.ofChange beaconEncodesSpec)

/-- ITS FALSE NEIGHBOUR: 'it returns false'. Refute it at one input. -/
def beaconEncodesWrong : ChangeSpec := { name := "beaconEncodes", fn := fun _ => fun
  | [d] => { results := [.lit (.bool false)], args := [d] }
  | _ => none }
def BeaconEncodesWrongFalsely : Prop := beaconEncodesRow.holds Tryd.pinned (OpenSpec.ofChange beaconEncodesWrong)

/-- 'airtimelaw14.BeaconDecodes': WHATEVER THE INPUT: true; the input reads as it did. -/
def beaconDecodesSpec : ChangeSpec := { name := "beaconDecodes", fn := fun _ => fun
  | [d] => { results := [.lit (.bool true)], args := [d] }
  | _ => none }
def beaconDecodesRow : OpenClaim := { program := "ytojiffpmmgjpjaadoor", sum := "f5c246feccbcac81168539638be8600ea799435ea2b12da26f8dcb6d266b8dbc", func := "airtime/airtimelaw14.BeaconDecodes", spec := "beaconDecodes", named := ["airtime/beacon.known"], apart := false, laid := [("airtime/beacon.known", laid_airtime_beacon_known)] }
def BeaconDecodesSaid : Prop := beaconDecodesRow.holds Tryd.pinned (OpenSpec.ofChange beaconDecodesSpec)

/-- ITS FALSE NEIGHBOUR: 'it returns false'. Refute it at one input. -/
def beaconDecodesWrong : ChangeSpec := { name := "beaconDecodes", fn := fun _ => fun
  | [d] => { results := [.lit (.bool false)], args := [d] }
  | _ => none }
def BeaconDecodesWrongFalsely : Prop := beaconDecodesRow.holds Tryd.pinned (OpenSpec.ofChange beaconDecodesWrong)

/-- 'airtimelaw14.BeaconOnly': WHATEVER THE INPUT: true; the input reads as it did. -/
def beaconOnlySpec : ChangeSpec := { name := "beaconOnly", fn := fun _ => fun
  | [d] => { results := [.lit (.bool true)], args := [d] }
  | _ => none }
def beaconOnlyRow : OpenClaim := { program := "ytojiffpmmgjpjaadoor", sum := "f5c246feccbcac81168539638be8600ea799435ea2b12da26f8dcb6d266b8dbc", func := "airtime/airtimelaw14.BeaconOnly", spec := "beaconOnly", named := ["airtime/beacon.known"], apart := false, laid := [("airtime/beacon.known", laid_airtime_beacon_known)] }
def BeaconOnlySaid : Prop := beaconOnlyRow.holds Tryd.pinned (OpenSpec.ofChange beaconOnlySpec)

/-- ITS FALSE NEIGHBOUR: 'it returns false'. Refute it at one input. -/
def beaconOnlyWrong : ChangeSpec := { name := "beaconOnly", fn := fun _ => fun
  | [d] => { results := [.lit (.bool false)], args := [d] }
  | _ => none }
def BeaconOnlyWrongFalsely : Prop := beaconOnlyRow.holds Tryd.pinned (OpenSpec.ofChange beaconOnlyWrong)

/- THE SECOND FORM. 'bulk': how many values and letters a reading holds, each counted each time it is reached (what is shared counts as often as it is met; a slice's spare places count too). A statement '..UptoSaid' is the law's where the arguments, and the package variables that the reading takes, are together of bulk at most 1048576: NARROWER than '..Said'. Prove '..Said' where nothing that the law and all that it calls make is longer than what came in: it says more and counts as full. Else prove '..UptoSaid'. A law counts once. -/
mutual
def uptoBulk {H : Type} : DataW H → Nat
  | .lit (.string bytes) => bytes.length + 1
  | .lit _ => 1
  | .nil => 1
  | .ptr d => uptoBulk d + 1
  | .slice elems spare => uptoBulkAll elems + uptoBulkAll spare + 1
  | .agg parts => uptoBulkAll parts + 1
  | .iface _ d => uptoBulk d + 1
  | .map entries => uptoBulkEntries entries + 1
  | .held _ => 1
def uptoBulkAll {H : Type} : List (DataW H) → Nat
  | [] => 0
  | d :: r => uptoBulk d + uptoBulkAll r
def uptoBulkEntries {H : Type} : List (Lit × DataW H) → Nat
  | [] => 0
  | x :: r => uptoBulkEntry x + uptoBulkEntries r
def uptoBulkEntry {H : Type} : Lit × DataW H → Nat
  | (.string bytes, d) => bytes.length + uptoBulk d + 1
  | (_, d) => uptoBulk d + 1
 end
def uptoSmall : (H : Type) → List (DataW H) → Bool := fun _ ds => decide (uptoBulkAll ds ≤ 1048576)
def OpenSpec.upto (s : _root_.Go.ChangeSpec) : _root_.Go.OpenSpec := { _root_.Go.OpenSpec.ofChange s with cond := some uptoSmall }

/-- 'airtimelaw14.BeaconReads', WHERE WHAT IT READS IS OF BULK AT MOST 1048576: true; the input reads as it did. -/
def beaconReadsUptoRow : OpenClaim := { program := "ytojiffpmmgjpjaadoor", sum := "f5c246feccbcac81168539638be8600ea799435ea2b12da26f8dcb6d266b8dbc", func := "airtime/airtimelaw14.BeaconReads", spec := "beaconReads", named := ["airtime/beacon.known"], apart := false, laid := [("airtime/beacon.known", laid_airtime_beacon_known)], narrowed := true }
def BeaconReadsUptoSaid : Prop := beaconReadsUptoRow.holds Tryd.pinned (OpenSpec.upto beaconReadsSpec)

/-- 'airtimelaw14.BeaconEncodes', WHERE WHAT IT READS IS OF BULK AT MOST 1048576: true; the input reads as it did. -/
def beaconEncodesUptoRow : OpenClaim := { program := "ytojiffpmmgjpjaadoor", sum := "f5c246feccbcac81168539638be8600ea799435ea2b12da26f8dcb6d266b8dbc", func := "airtime/airtimelaw14.BeaconEncodes", spec := "beaconEncodes", named := ["airtime/beacon.known"], apart := false, laid := [("airtime/beacon.known", laid_airtime_beacon_known)], narrowed := true }
def BeaconEncodesUptoSaid : Prop := beaconEncodesUptoRow.holds Tryd.pinned (OpenSpec.upto beaconEncodesSpec)

/-- 'airtimelaw14.BeaconDecodes', WHERE WHAT IT READS IS OF BULK AT MOST 1048576: true; the input reads as it did. -/
def beaconDecodesUptoRow : OpenClaim := { program := "ytojiffpmmgjpjaadoor", sum := "f5c246feccbcac81168539638be8600ea799435ea2b12da26f8dcb6d266b8dbc", func := "airtime/airtimelaw14.BeaconDecodes", spec := "beaconDecodes", named := ["airtime/beacon.known"], apart := false, laid := [("airtime/beacon.known", laid_airtime_beacon_known)], narrowed := true }
def BeaconDecodesUptoSaid : Prop := beaconDecodesUptoRow.holds Tryd.pinned (OpenSpec.upto beaconDecodesSpec)

/-- 'airtimelaw14.BeaconOnly', WHERE WHAT IT READS IS OF BULK AT MOST 1048576: true; the input reads as it did. -/
def beaconOnlyUptoRow : OpenClaim := { program := "ytojiffpmmgjpjaadoor", sum := "f5c246feccbcac81168539638be8600ea799435ea2b12da26f8dcb6d266b8dbc", func := "airtime/airtimelaw14.BeaconOnly", spec := "beaconOnly", named := ["airtime/beacon.known"], apart := false, laid := [("airtime/beacon.known", laid_airtime_beacon_known)], narrowed := true }
def BeaconOnlyUptoSaid : Prop := beaconOnlyUptoRow.holds Tryd.pinned (OpenSpec.upto beaconOnlySpec)

end Rows
end Go.Proofs.YtojiffpmmgjpjaaDoor
