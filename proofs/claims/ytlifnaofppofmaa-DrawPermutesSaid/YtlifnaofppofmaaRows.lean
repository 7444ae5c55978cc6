/-
  No cell of these rows narrows 'for every input' (looked for: loops, veiled, ifaces, maps, wideKeys, modest, calm, conditions, laid).
  DERIVED. THE GIVEN ROWS OF THIS SEAT. 6 by the template 'for every input the law returns true; each argument reads behind the call as it read before'; 0 by the template 'total and deterministic' (their statements: YtlifnaofppofmaaTotals.lean).
  GIVEN WITH THE SEED: the statements are not yours to turn. If you find one false, say at which input.
  Laid BY PROGRAM, IN A SANDBOX (cutbox-rows.mjs): the forced cells as the released guide's own fill.sh prints them over the translation ef01e9789d8504fc… (all of the seat's roots in one cut). By AI agents, Wed Nov 11 2026. No macro, syntax, notation, axiom, sorry.
-/
import Derived.Test.YtlifnaofppofmaaChecked
import GoSem.Claim
import GoSem.ClaimJoined
import GoSem.ClaimMapViews
import Derived.JoinedTies
import Derived.KernelRfl
namespace Go.Proofs.Ytlifnaofppofmaa
/- THE CELL 'sum', in the pinned program and in every row, IS THE sha256 OF THE DUMP (.gsa) THAT YtlifnaofppofmaaProg.lean LOADS. Nothing in Lean hashes anything: it is a label: what it is worth is what the hold of that sum in a sandbox is worth. -/
noncomputable def Try.pinned : Pinned := { name := "ytlifnaofppofmaa", sum := "ef01e9789d8504fc04d7964ba66d90b3dde02339759aaa709c8ca5d05b0b0753", checked := Try.checked }
namespace Rows
def none {H : Type} : Left H := { results := [], args := [] }

/-- 'airtimelaw04.DrawSteps': WHATEVER THE INPUT: true; the input reads as it did. -/
def drawStepsSpec : ChangeSpec := { name := "drawSteps", fn := fun _ => fun
  | [d1, d2, d3] => { results := [.lit (.bool true)], args := [d1, d2, d3] }
  | _ => none }
def drawStepsRow : OpenClaim := { program := "ytlifnaofppofmaa", sum := "ef01e9789d8504fc04d7964ba66d90b3dde02339759aaa709c8ca5d05b0b0753", func := "airtime/airtimelaw04.DrawSteps", spec := "drawSteps", apart := false }
def DrawStepsSaid : Prop := drawStepsRow.holds Try.pinned (OpenSpec.ofChange drawStepsSpec)

/-- ITS FALSE NEIGHBOUR: 'it returns false'. Refute it at one input. -/
def drawStepsWrong : ChangeSpec := { name := "drawSteps", fn := fun _ => fun
  | [d1, d2, d3] => { results := [.lit (.bool false)], args := [d1, d2, d3] }
  | _ => none }
def DrawStepsWrongFalsely : Prop := drawStepsRow.holds Try.pinned (OpenSpec.ofChange drawStepsWrong)

/-- 'airtimelaw04.DrawNumbers': WHATEVER THE INPUT: true; the input reads as it did. -/
def drawNumbersSpec : ChangeSpec := { name := "drawNumbers", fn := fun _ => fun
  | [d1, d2] => { results := [.lit (.bool true)], args := [d1, d2] }
  | _ => none }
def drawNumbersRow : OpenClaim := { program := "ytlifnaofppofmaa", sum := "ef01e9789d8504fc04d7964ba66d90b3dde02339759aaa709c8ca5d05b0b0753", func := "airtime/airtimelaw04.DrawNumbers", spec := "drawNumbers", apart := false }
def DrawNumbersSaid : Prop := drawNumbersRow.holds Try.pinned (OpenSpec.ofChange drawNumbersSpec)

/-- ITS FALSE NEIGHBOUR: 'it returns false'. Refute it at one input. -/
def drawNumbersWrong : ChangeSpec := { name := "drawNumbers", fn := fun _ => fun
  | [d1, d2] => { results := [.lit (.bool false)], args := [d1, d2] }
  | _ => none }
def DrawNumbersWrongFalsely : Prop := drawNumbersRow.holds Try.pinned (OpenSpec.ofChange drawNumbersWrong)

/-- 'airtimelaw04.DrawOrders': WHATEVER THE INPUT: true; the input reads as it did. -/
def drawOrdersSpec : ChangeSpec := { name := "drawOrders", fn := fun _ => fun
  | [d1, d2] => { results := [.lit (.bool true)], args := [d1, d2] }
  | _ => none }
def drawOrdersRow : OpenClaim := { program := "ytlifnaofppofmaa", sum := "ef01e9789d8504fc04d7964ba66d90b3dde02339759aaa709c8ca5d05b0b0753", func := "airtime/airtimelaw04.DrawOrders", spec := "drawOrders", apart := false }
def DrawOrdersSaid : Prop := drawOrdersRow.holds Try.pinned (OpenSpec.ofChange drawOrdersSpec)

/-- ITS FALSE NEIGHBOUR: 'it returns false'. Refute it at one input. -/
def drawOrdersWrong : ChangeSpec := { name := "drawOrders", fn := fun _ => fun
  | [d1, d2] => { results := [.lit (.bool false)], args := [d1, d2] }
  | _ => none }
def DrawOrdersWrongFalsely : Prop := drawOrdersRow.holds Try.pinned (OpenSpec.ofChange drawOrdersWrong)

/-- 'airtimelaw04.DrawBelow': WHATEVER THE INPUT: true; the input reads as it did. -/
def drawBelowSpec : ChangeSpec := { name := "drawBelow", fn := fun _ => fun
  | [d1, d2, d3] => { results := [.lit (.bool true)], args := [d1, d2, d3] }
  | _ => none }
def drawBelowRow : OpenClaim := { program := "ytlifnaofppofmaa", sum := "ef01e9789d8504fc04d7964ba66d90b3dde02339759aaa709c8ca5d05b0b0753", func := "airtime/airtimelaw04.DrawBelow", spec := "drawBelow", apart := false }
def DrawBelowSaid : Prop := drawBelowRow.holds Try.pinned (OpenSpec.ofChange drawBelowSpec)

/-- ITS FALSE NEIGHBOUR: 'it returns false'. Refute it at one input. -/
def drawBelowWrong : ChangeSpec := { name := "drawBelow", fn := fun _ => fun
  | [d1, d2, d3] => { results := [.lit (.bool false)], args := [d1, d2, d3] }
  | _ => none }
def DrawBelowWrongFalsely : Prop := drawBelowRow.holds Try.pinned (OpenSpec.ofChange drawBelowWrong)

/-- 'airtimelaw04.DrawDiffers': WHATEVER THE INPUT: true; the input reads as it did. -/
def drawDiffersSpec : ChangeSpec := { name := "drawDiffers", fn := fun _ => fun
  | [d1, d2] => { results := [.lit (.bool true)], args := [d1, d2] }
  | _ => none }
def drawDiffersRow : OpenClaim := { program := "ytlifnaofppofmaa", sum := "ef01e9789d8504fc04d7964ba66d90b3dde02339759aaa709c8ca5d05b0b0753", func := "airtime/airtimelaw04.DrawDiffers", spec := "drawDiffers", apart := false }
def DrawDiffersSaid : Prop := drawDiffersRow.holds Try.pinned (OpenSpec.ofChange drawDiffersSpec)

/-- ITS FALSE NEIGHBOUR: 'it returns false'. Refute it at one input. -/
def drawDiffersWrong : ChangeSpec := { name := "drawDiffers", fn := fun _ => fun
  | [d1, d2] => { results := [.lit (.bool false)], args := [d1, d2] }
  | _ => none }
def DrawDiffersWrongFalsely : Prop := drawDiffersRow.holds Try.pinned (OpenSpec.ofChange drawDiffersWrong)

/-- 'airtimelaw04.DrawPermutes': WHATEVER THE INPUT: true; the input reads as it did. -/
def drawPermutesSpec : ChangeSpec := { name := "drawPermutes", fn := fun _ => fun
  | [d1, d2] => { results := [.lit (.bool true)], args := [d1, d2] }
  | _ => none }
def drawPermutesRow : OpenClaim := { program := "ytlifnaofppofmaa", sum := "ef01e9789d8504fc04d7964ba66d90b3dde02339759aaa709c8ca5d05b0b0753", func := "airtime/airtimelaw04.DrawPermutes", spec := "drawPermutes", apart := false }
def DrawPermutesSaid : Prop := drawPermutesRow.holds Try.pinned (OpenSpec.ofChange drawPermutesSpec)

/-- ITS FALSE NEIGHBOUR: 'it returns false'. Refute it at one input. -/
def drawPermutesWrong : ChangeSpec := { name := "drawPermutes", fn := fun _ => fun
  | [d1, d2] => { results := [.lit (.bool false)], args := [d1, d2] }
  | _ => none }
def DrawPermutesWrongFalsely : Prop := drawPermutesRow.holds Try.pinned (OpenSpec.ofChange drawPermutesWrong)

/- THE SECOND FORM. 'bulk': how many values and letters a reading holds, each counted each time it is reached (what is shared counts as often as it is met; a slice's spare places count too). A statement '..UptoSaid' is the law's where the arguments, and the package variables that the reading takes, are together of bulk at most 1048576: NARROWER than '..Said'. Prove '..Said' where nothing that the law and all that it calls make is longer than what came in: it says more and counts as full. Else prove '..UptoSaid'. A law counts once. -/
mutual
def uptoBulk {H : Type} : DataW H → Nat
  | .lit (.string bytes) => bytes.length + 1
  | .lit _ => 1
  | .nil => 1
  | .ptr d => uptoBulk d + 1
  | .slice elems spare => uptoBulkAll elems + uptoBulkAll spare + 1
  | .agg parts => uptoBulkAll parts + 1
  | .iface _ d => uptoBulk d + 1
  | .map entries => uptoBulkEntries entries + 1
  | .held _ => 1
def uptoBulkAll {H : Type} : List (DataW H) → Nat
  | [] => 0
  | d :: r => uptoBulk d + uptoBulkAll r
def uptoBulkEntries {H : Type} : List (Lit × DataW H) → Nat
  | [] => 0
  | x :: r => uptoBulkEntry x + uptoBulkEntries r
def uptoBulkEntry {H : Type} : Lit × DataW H → Nat
  | (.string bytes, d) => bytes.length + uptoBulk d + 1
  | (_, d) => uptoBulk d + 1
 end
def uptoSmall : (H : Type) → List (DataW H) → Bool := fun _ ds => decide (uptoBulkAll ds ≤ 1048576)
def OpenSpec.upto (s : _root_.Go.ChangeSpec) : _root_.Go.OpenSpec := { _root_.Go.OpenSpec.ofChange s with cond := some uptoSmall }

/-- 'airtimelaw04.DrawSteps', WHERE WHAT IT READS IS OF BULK AT MOST 1048576: true; the input reads as it did. -/
def drawStepsUptoRow : OpenClaim := { program := "ytlifnaofppofmaa", sum := "ef01e9789d8504fc04d7964ba66d90b3dde02339759aaa709c8ca5d05b0b0753", func := "airtime/airtimelaw04.DrawSteps", spec := "drawSteps", apart := false, narrowed := true }
def DrawStepsUptoSaid : Prop := drawStepsUptoRow.holds Try.pinned (OpenSpec.upto drawStepsSpec)

/-- 'airtimelaw04.DrawNumbers', WHERE WHAT IT READS IS OF BULK AT MOST 1048576: true; the input reads as it did. -/
def drawNumbersUptoRow : OpenClaim := { program := "ytlifnaofppofmaa", sum := "ef01e9789d8504fc04d7964ba66d90b3dde02339759aaa709c8ca5d05b0b0753", func := "airtime/airtimelaw04.DrawNumbers", spec := "drawNumbers", apart := false, narrowed := true }
def DrawNumbersUptoSaid : Prop := drawNumbersUptoRow.holds Try.pinned (OpenSpec.upto drawNumbersSpec)

/-- 'airtimelaw04.DrawOrders', WHERE WHAT IT READS IS OF BULK AT MOST 1048576: true; the input reads as it did. -/
def drawOrdersUptoRow : OpenClaim := { program := "ytlifnaofppofmaa", sum := "ef01e9789d8504fc04d7964ba66d90b3dde02339759aaa709c8ca5d05b0b0753", func := "airtime/airtimelaw04.DrawOrders", spec := "drawOrders", apart := false, narrowed := true }
def DrawOrdersUptoSaid : Prop := drawOrdersUptoRow.holds Try.pinned (OpenSpec.upto drawOrdersSpec)

/-- 'airtimelaw04.DrawBelow', WHERE WHAT IT READS IS OF BULK AT MOST 1048576: true; the input reads as it did. -/
def drawBelowUptoRow : OpenClaim := { program := "ytlifnaofppofmaa", sum := "ef01e9789d8504fc04d7964ba66d90b3dde02339759aaa709c8ca5d05b0b0753", func := "airtime/airtimelaw04.DrawBelow", spec := "drawBelow", apart := false, narrowed := true }
def DrawBelowUptoSaid : Prop := drawBelowUptoRow.holds Try.pinned (OpenSpec.upto drawBelowSpec)

/-- 'airtimelaw04.DrawDiffers', WHERE WHAT IT READS IS OF BULK AT MOST 1048576: true; the input reads as it did. -/
def drawDiffersUptoRow : OpenClaim := { program := "ytlifnaofppofmaa", sum := "ef01e9789d8504fc04d7964ba66d90b3dde02339759aaa709c8ca5d05b0b0753", func := "airtime/airtimelaw04.DrawDiffers", spec := "drawDiffers", apart := false, narrowed := true }
def DrawDiffersUptoSaid : Prop := drawDiffersUptoRow.holds Try.pinned (OpenSpec.upto drawDiffersSpec)

/-- 'airtimelaw04.DrawPermutes', WHERE WHAT IT READS IS OF BULK AT MOST 1048576: true; the input reads as it did. -/
def drawPermutesUptoRow : OpenClaim := { program := "ytlifnaofppofmaa", sum := "ef01e9789d8504fc04d7964ba66d90b3dde02339759aaa709c8ca5d05b0b0753", func := "airtime/airtimelaw04.DrawPermutes", spec := "drawPermutes", apart := false, narrowed := true }
def DrawPermutesUptoSaid : Prop := drawPermutesUptoRow.holds Try.pinned (OpenSpec.upto drawPermutesSpec)

end Rows
end Go.Proofs.Ytlifnaofppofmaa
