/-
  NARROWER THAN 'FOR EVERY INPUT', by the rows' own cells (each row's printed sentence says how): ControlAnswers: laid · ControlFrames: laid · ControlResponds: laid · ControlBlocks: laid · ControlReads: laid.
  DERIVED. THE GIVEN ROWS OF THIS SEAT. 5 by the template 'for every input the law returns true; each argument reads behind the call as it read before'; 0 by the template 'total and deterministic' (their statements: YtjnafojgabkjmaaDoorTotals.lean).
  GIVEN WITH THE SEED: the statements are not yours to turn. If you find one false, say at which input.
  Laid BY PROGRAM, IN A SANDBOX (cutbox-rows.mjs): the forced cells as the released guide's own fill.sh prints them over the translation 91795d22c914b755… (all of the seat's roots in one cut). By AI agents, Wed Nov 11 2026. No macro, syntax, notation, axiom, sorry.
-/
import Derived.Test.YtjnafojgabkjmaaDoorChecked
import GoSem.Claim
import GoSem.ClaimJoined
import GoSem.ClaimMapViews
import Derived.JoinedTies
import Derived.KernelRfl
namespace Go.Proofs.YtjnafojgabkjmaaDoor
/- THE CELL 'sum', in the pinned program and in every row, IS THE sha256 OF THE DUMP (.gsa) THAT YtjnafojgabkjmaaDoorProg.lean LOADS. Nothing in Lean hashes anything: it is a label: what it is worth is what the hold of that sum in a sandbox is worth. -/
noncomputable def Tryd.pinned : Pinned := { name := "ytjnafojgabkjmaadoor", sum := "91795d22c914b7554c34503de3dc770bf2632cbabeed07f7ed6c40b633195836", checked := Tryd.checked }
namespace Rows
def none {H : Type} : Left H := { results := [], args := [] }

/- WHAT THE LISTED PACKAGE-LEVEL VARIABLES READ AS WHEN THE CALL BEGINS. Each datum BY PROGRAM (the guide's laid-datum.mjs) off the statement by which the dump's own 'gosem.cut.vars' lays the variable. In a bare row this is a premise. The card (YtjnafojgabkjmaaDoorCards.lean) ties it to the program's text. -/
def laid_airtime_phy_dataBits {H : Type} : DataW H := .agg [.lit (.int .i64 24), .lit (.int .i64 36), .lit (.int .i64 48), .lit (.int .i64 72), .lit (.int .i64 96), .lit (.int .i64 144), .lit (.int .i64 192), .lit (.int .i64 216)]
def laid_airtime_header_kinds {H : Type} : DataW H := .agg [.agg [.lit (.string []), .lit (.int .i64 0), .lit (.int .i64 0), .lit (.int .i64 0), .lit (.int .i64 0)], .agg [.lit (.string [98, 101, 97, 99, 111, 110]), .lit (.int .i64 1), .lit (.int .i64 0), .lit (.int .i64 24), .lit (.int .i64 18181)], .agg [.lit (.string [112, 114, 111, 98, 101, 45, 114, 101, 113, 117, 101, 115, 116]), .lit (.int .i64 1), .lit (.int .i64 0), .lit (.int .i64 24), .lit (.int .i64 18181)], .agg [.lit (.string [112, 114, 111, 98, 101, 45, 114, 101, 115, 112, 111, 110, 115, 101]), .lit (.int .i64 1), .lit (.int .i64 14), .lit (.int .i64 24), .lit (.int .i64 18181)], .agg [.lit (.string [97, 117, 116, 104]), .lit (.int .i64 1), .lit (.int .i64 14), .lit (.int .i64 24), .lit (.int .i64 18181)], .agg [.lit (.string [97, 115, 115, 111, 99, 45, 114, 101, 113, 117, 101, 115, 116]), .lit (.int .i64 2), .lit (.int .i64 14), .lit (.int .i64 24), .lit (.int .i64 18181)], .agg [.lit (.string [97, 115, 115, 111, 99, 45, 114, 101, 115, 112, 111, 110, 115, 101]), .lit (.int .i64 2), .lit (.int .i64 14), .lit (.int .i64 24), .lit (.int .i64 18181)], .agg [.lit (.string [114, 101, 97, 115, 115, 111, 99, 45, 114, 101, 113, 117, 101, 115, 116]), .lit (.int .i64 2), .lit (.int .i64 14), .lit (.int .i64 24), .lit (.int .i64 18181)], .agg [.lit (.string [114, 101, 97, 115, 115, 111, 99, 45, 114, 101, 115, 112, 111, 110, 115, 101]), .lit (.int .i64 2), .lit (.int .i64 14), .lit (.int .i64 24), .lit (.int .i64 18181)], .agg [.lit (.string [100, 105, 115, 97, 115, 115, 111, 99]), .lit (.int .i64 2), .lit (.int .i64 14), .lit (.int .i64 24), .lit (.int .i64 18181)], .agg [.lit (.string [100, 101, 97, 117, 116, 104]), .lit (.int .i64 1), .lit (.int .i64 14), .lit (.int .i64 24), .lit (.int .i64 18181)], .agg [.lit (.string [97, 99, 116, 105, 111, 110]), .lit (.int .i64 3), .lit (.int .i64 14), .lit (.int .i64 24), .lit (.int .i64 18181)], .agg [.lit (.string [114, 116, 115]), .lit (.int .i64 1), .lit (.int .i64 13), .lit (.int .i64 16), .lit (.int .i64 256)], .agg [.lit (.string [99, 116, 115]), .lit (.int .i64 1), .lit (.int .i64 0), .lit (.int .i64 10), .lit (.int .i64 0)], .agg [.lit (.string [97, 99, 107]), .lit (.int .i64 1), .lit (.int .i64 0), .lit (.int .i64 10), .lit (.int .i64 0)], .agg [.lit (.string [98, 108, 111, 99, 107, 45, 114, 101, 113, 117, 101, 115, 116]), .lit (.int .i64 3), .lit (.int .i64 16), .lit (.int .i64 16), .lit (.int .i64 16640)], .agg [.lit (.string [98, 108, 111, 99, 107, 45, 97, 99, 107]), .lit (.int .i64 3), .lit (.int .i64 0), .lit (.int .i64 16), .lit (.int .i64 16640)], .agg [.lit (.string [112, 111, 108, 108]), .lit (.int .i64 3), .lit (.int .i64 14), .lit (.int .i64 16), .lit (.int .i64 256)], .agg [.lit (.string [100, 97, 116, 97]), .lit (.int .i64 3), .lit (.int .i64 14), .lit (.int .i64 27), .lit (.int .i64 32767)], .agg [.lit (.string [110, 117, 108, 108]), .lit (.int .i64 3), .lit (.int .i64 14), .lit (.int .i64 25), .lit (.int .i64 6109)]]

/-- 'airtimelaw11.ControlAnswers': WHATEVER THE INPUT: true; the input reads as it did. -/
def controlAnswersSpec : ChangeSpec := { name := "controlAnswers", fn := fun _ => fun
  | [d1, d2, d3, d4, d5, d6] => { results := [.lit (.bool true)], args := [d1, d2, d3, d4, d5, d6] }
  | _ => none }
def controlAnswersRow : OpenClaim := { program := "ytjnafojgabkjmaadoor", sum := "91795d22c914b7554c34503de3dc770bf2632cbabeed07f7ed6c40b633195836", func := "airtime/airtimelaw11.ControlAnswers", spec := "controlAnswers", named := ["airtime/header.kinds", "airtime/phy.dataBits"], apart := false, laid := [("airtime/phy.dataBits", laid_airtime_phy_dataBits), ("airtime/header.kinds", laid_airtime_header_kinds)] }
def ControlAnswersSaid : Prop := controlAnswersRow.holds Tryd.pinned (OpenSpec.ofChange controlAnswersSpec)

/-- ITS FALSE NEIGHBOUR: 'it returns false'. Refute it at one input. -/
def controlAnswersWrong : ChangeSpec := { name := "controlAnswers", fn := fun _ => fun
  | [d1, d2, d3, d4, d5, d6] => { results := [.lit (.bool false)], args := [d1, d2, d3, d4, d5, d6] }
  | _ => none }
def ControlAnswersWrongFalsely : Prop := controlAnswersRow.holds Tryd.pinned (OpenSpec.ofChange controlAnswersWrong)

/-- 'airtimelaw11.ControlFrames': WHATEVER THE INPUT: true; the input reads as it did. -/
def controlFramesSpec : ChangeSpec := { name := "controlFrames", fn := fun _ => fun
  | [d1, d2, d3, d4] => { results := [.lit (.bool true)], args := [d1, d2, d3, d4] }
  | _ => none }
def controlFramesRow : OpenClaim := { program := "ytjnafojgabkjmaadoor", sum := "91795d22c914b7554c34503de3dc770bf2632cbabeed07f7ed6c40b633195836", func := "airtime/airtimelaw11.ControlFrames", spec := "controlFrames", named := ["airtime/header.kinds", "airtime/phy.dataBits"], apart := false, laid := [("airtime/phy.dataBits", laid_airtime_phy_dataBits), ("airtime/header.kinds", laid_airtime_header_kinds)] }
def ControlFramesSaid : Prop := controlFramesRow.holds Tryd.pinned (OpenSpec.ofChange controlFramesSpec)

/-- ITS FALSE NEIGHBOUR: 'it returns false'. Refute it at one input. -/
def controlFramesWrong : ChangeSpec := { name := "controlFrames", fn := fun _ => fun
  | [d1, d2, d3, d4] => { results := [.lit (.bool false)], args := [d1, d2, d3, d4] }
  | _ => none }
def ControlFramesWrongFalsely : Prop := controlFramesRow.holds Tryd.pinned (OpenSpec.ofChange controlFramesWrong)

/-- 'airtimelaw11.ControlResponds': WHATEVER THE INPUT: true; the input reads as it did. -/
def controlRespondsSpec : ChangeSpec := { name := "controlResponds", fn := fun _ => fun
  | [d] => { results := [.lit (.bool true)], args := [d] }
  | _ => none }
def controlRespondsRow : OpenClaim := { program := "ytjnafojgabkjmaadoor", sum := "91795d22c914b7554c34503de3dc770bf2632cbabeed07f7ed6c40b633195836", func := "airtime/airtimelaw11.ControlResponds", spec := "controlResponds", named := ["airtime/header.kinds", "airtime/phy.dataBits"], apart := false, laid := [("airtime/phy.dataBits", laid_airtime_phy_dataBits), ("airtime/header.kinds", laid_airtime_header_kinds)] }
def ControlRespondsSaid : Prop := controlRespondsRow.holds Tryd.pinned (OpenSpec.ofChange controlRespondsSpec)

/-- ITS FALSE NEIGHBOUR: 'it returns false'. Refute it at one input. -/
def controlRespondsWrong : ChangeSpec := { name := "controlResponds", fn := fun _ => fun
  | [d] => { results := [.lit (.bool false)], args := [d] }
  | _ => none }
def ControlRespondsWrongFalsely : Prop := controlRespondsRow.holds Tryd.pinned (OpenSpec.ofChange controlRespondsWrong)

/-- 'airtimelaw11.ControlBlocks': WHATEVER THE INPUT: true; the input reads as it did. -/
def controlBlocksSpec : ChangeSpec := { name := "controlBlocks", fn := fun _ => fun
  | [d1, d2, d3, d4] => { results := [.lit (.bool true)], args := [d1, d2, d3, d4] }
  | _ => none }
def controlBlocksRow : OpenClaim := { program := "ytjnafojgabkjmaadoor", sum := "91795d22c914b7554c34503de3dc770bf2632cbabeed07f7ed6c40b633195836", func := "airtime/airtimelaw11.ControlBlocks", spec := "controlBlocks", named := ["airtime/header.kinds", "airtime/phy.dataBits"], apart := false, laid := [("airtime/phy.dataBits", laid_airtime_phy_dataBits), ("airtime/header.kinds", laid_airtime_header_kinds)] }
def ControlBlocksSaid : Prop := controlBlocksRow.holds Tryd.pinned (OpenSpec.ofChange controlBlocksSpec)

/-- ITS FALSE NEIGHBOUR: 'it returns false'. Refute it at one input. -/
def controlBlocksWrong : ChangeSpec := { name := "controlBlocks", fn := fun _ => fun
  | [d1, d2, d3, d4] => { results := [.lit (.bool false)], args := [d1, d2, d3, d4] }
  | _ => none }
def ControlBlocksWrongFalsely : Prop := controlBlocksRow.holds Tryd.pinned (OpenSpec.ofChange controlBlocksWrong)

/-- 'airtimelaw11.ControlReads': WHATEVER THE INPUT: true; the input reads as it did. -/
def controlReadsSpec : ChangeSpec := { name := "controlReads", fn := fun _ => fun
  | [d] => { results := [.lit (.bool true)], args := [d] }
  | _ => none }
def controlReadsRow : OpenClaim := { program := "ytjnafojgabkjmaadoor", sum := "91795d22c914b7554c34503de3dc770bf2632cbabeed07f7ed6c40b633195836", func := "airtime/airtimelaw11.ControlReads", spec := "controlReads", named := ["airtime/header.kinds", "airtime/phy.dataBits"], apart := false, laid := [("airtime/phy.dataBits", laid_airtime_phy_dataBits), ("airtime/header.kinds", laid_airtime_header_kinds)] }
def ControlReadsSaid : Prop := controlReadsRow.holds Tryd.pinned (OpenSpec.ofChange controlReadsSpec)

/-- ITS FALSE NEIGHBOUR: 'it returns false'. Refute it at one input. -/
def controlReadsWrong : ChangeSpec := { name := "controlReads", fn := fun _ => fun
  | [d] => { results := [.lit (.bool false)], args := [d] }
  | _ => none }
def ControlReadsWrongFalsely : Prop := controlReadsRow.holds Tryd.pinned (OpenSpec.ofChange controlReadsWrong)

/- THE SECOND FORM. 'bulk': how many values and letters a reading holds, each counted each time it is reached (what is shared counts as often as it is met; a slice's spare places count too). A statement '..UptoSaid' is the law's where the arguments, and the package variables that the reading takes, are together of bulk at most 1048576: NARROWER than '..Said'. Prove '..Said' where nothing that the law and all that it calls make is longer than what came in: it says more and counts as full. Else prove '..UptoSaid'. A law counts once. -/
mutual
def uptoBulk {H : Type} : DataW H → Nat
  | .lit (.string bytes) => bytes.length + 1
  | .lit _ => 1
  | .nil => 1
  | .ptr d => uptoBulk d + 1
  | .slice elems spare => uptoBulkAll elems + uptoBulkAll spare + 1
  | .agg parts => uptoBulkAll parts + 1
  | .iface _ d => uptoBulk d + 1
  | .map entries => uptoBulkEntries entries + 1
  | .held _ => 1
def uptoBulkAll {H : Type} : List (DataW H) → Nat
  | [] => 0
  | d :: r => uptoBulk d + uptoBulkAll r
def uptoBulkEntries {H : Type} : List (Lit × DataW H) → Nat
  | [] => 0
  | x :: r => uptoBulkEntry x + uptoBulkEntries r
def uptoBulkEntry {H : Type} : Lit × DataW H → Nat
  | (.string bytes, d) => bytes.length + uptoBulk d + 1
  | (_, d) => uptoBulk d + 1
 end
def uptoSmall : (H : Type) → List (DataW H) → Bool := fun _ ds => decide (uptoBulkAll ds ≤ 1048576)
def OpenSpec.upto (s : _root_.Go.ChangeSpec) : _root_.Go.OpenSpec := { _root_.Go.OpenSpec.ofChange s with cond := some uptoSmall }

/-- 'airtimelaw11.ControlAnswers', WHERE WHAT IT READS IS OF BULK AT MOST 1048576: true; the input reads as it did. -/
def controlAnswersUptoRow : OpenClaim := { program := "ytjnafojgabkjmaadoor", sum := "91795d22c914b7554c34503de3dc770bf2632cbabeed07f7ed6c40b633195836", func := "airtime/airtimelaw11.ControlAnswers", spec := "controlAnswers", named := ["airtime/header.kinds", "airtime/phy.dataBits"], apart := false, laid := [("airtime/phy.dataBits", laid_airtime_phy_dataBits), ("airtime/header.kinds", laid_airtime_header_kinds)], narrowed := true }
def ControlAnswersUptoSaid : Prop := controlAnswersUptoRow.holds Tryd.pinned (OpenSpec.upto controlAnswersSpec)

/-- 'airtimelaw11.ControlFrames', WHERE WHAT IT READS IS OF BULK AT MOST 1048576: true; the input reads as it did. -/
def controlFramesUptoRow : OpenClaim := { program := "ytjnafojgabkjmaadoor", sum := "91795d22c914b7554c34503de3dc770bf2632cbabeed07f7ed6c40b633195836", func := "airtime/airtimelaw11.ControlFrames", spec := "controlFrames", named := ["airtime/header.kinds", "airtime/phy.dataBits"], apart := false, laid := [("airtime/phy.dataBits", laid_airtime_phy_dataBits), ("airtime/header.kinds", laid_airtime_header_kinds)], narrowed := true }
def ControlFramesUptoSaid : Prop := controlFramesUptoRow.holds Tryd.pinned (OpenSpec.upto controlFramesSpec)

/-- 'airtimelaw11.ControlResponds', WHERE WHAT IT READS IS OF BULK AT MOST 1048576: true; the input reads as it did. -/
def controlRespondsUptoRow : OpenClaim := { program := "ytjnafojgabkjmaadoor", sum := "91795d22c914b7554c34503de3dc770bf2632cbabeed07f7ed6c40b633195836", func := "airtime/airtimelaw11.ControlResponds", spec := "controlResponds", named := ["airtime/header.kinds", "airtime/phy.dataBits"], apart := false, laid := [("airtime/phy.dataBits", laid_airtime_phy_dataBits), ("airtime/header.kinds", laid_airtime_header_kinds)], narrowed := true }
def ControlRespondsUptoSaid : Prop := controlRespondsUptoRow.holds Tryd.pinned (OpenSpec.upto controlRespondsSpec)

/-- 'airtimelaw11.ControlBlocks', WHERE WHAT IT READS IS OF BULK AT MOST 1048576: true; the input reads as it did. -/
def controlBlocksUptoRow : OpenClaim := { program := "ytjnafojgabkjmaadoor", sum := "91795d22c914b7554c34503de3dc770bf2632cbabeed07f7ed6c40b633195836", func := "airtime/airtimelaw11.ControlBlocks", spec := "controlBlocks", named := ["airtime/header.kinds", "airtime/phy.dataBits"], apart := false, laid := [("airtime/phy.dataBits", laid_airtime_phy_dataBits), ("airtime/header.kinds", laid_airtime_header_kinds)], narrowed := true }
def ControlBlocksUptoSaid : Prop := controlBlocksUptoRow.holds Tryd.pinned (OpenSpec.upto controlBlocksSpec)

/-- 'airtimelaw11.ControlReads', WHERE WHAT IT READS IS OF BULK AT MOST 1048576: true; the input reads as it did. -/
def controlReadsUptoRow : OpenClaim := { program := "ytjnafojgabkjmaadoor", sum := "91795d22c914b7554c34503de3dc770bf2632cbabeed07f7ed6c40b633195836", func := "airtime/airtimelaw11.ControlReads", spec := "controlReads", named := ["airtime/header.kinds", "airtime/phy.dataBits"], apart := false, laid := [("airtime/phy.dataBits", laid_airtime_phy_dataBits), ("airtime/header.kinds", laid_airtime_header_kinds)], narrowed := true }
def ControlReadsUptoSaid : Prop := controlReadsUptoRow.holds Tryd.pinned (OpenSpec.upto controlReadsSpec)

end Rows
end Go.Proofs.YtjnafojgabkjmaaDoor
