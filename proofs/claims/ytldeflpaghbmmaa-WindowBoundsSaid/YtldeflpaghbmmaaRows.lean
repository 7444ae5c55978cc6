/-
  No cell of these rows narrows 'for every input' (looked for: loops, veiled, ifaces, maps, wideKeys, modest, calm, conditions, laid).
  DERIVED. THE GIVEN ROWS OF THIS SEAT. 6 by the template 'for every input the law returns true; each argument reads behind the call as it read before'; 0 by the template 'total and deterministic' (their statements: YtldeflpaghbmmaaTotals.lean).
  GIVEN WITH THE SEED: the statements are not yours to turn. If you find one false, say at which input.
  Laid BY PROGRAM, IN A SANDBOX (cutbox-rows.mjs): the forced cells as the released guide's own fill.sh prints them over the translation 116658c0e38041e0… (all of the seat's roots in one cut). By AI agents, Wed Nov 11 2026. No macro, syntax, notation, axiom, sorry.
-/
import Derived.Test.YtldeflpaghbmmaaChecked
import GoSem.Claim
import GoSem.ClaimJoined
import GoSem.ClaimMapViews
import Derived.JoinedTies
import Derived.KernelRfl
namespace Go.Proofs.Ytldeflpaghbmmaa
/- THE CELL 'sum', in the pinned program and in every row, IS THE sha256 OF THE DUMP (.gsa) THAT YtldeflpaghbmmaaProg.lean LOADS. Nothing in Lean hashes anything: it is a label: what it is worth is what the hold of that sum in a sandbox is worth. -/
noncomputable def Try.pinned : Pinned := { name := "ytldeflpaghbmmaa", sum := "116658c0e38041e012ced0c61b1bbb8d2b020383eac245fcd2a4a0391cba232d", checked := Try.checked }
namespace Rows
def none {H : Type} : Left H := { results := [], args := [] }

/-- 'airtimelaw22.WindowChecks': WHATEVER THE INPUT: true; the input reads as it did. -/
def windowChecksSpec : ChangeSpec := { name := "windowChecks", fn := fun _ => fun
  | [d1, d2] => { results := [.lit (.bool true)], args := [d1, d2] }
  | _ => none }
def windowChecksRow : OpenClaim := { program := "ytldeflpaghbmmaa", sum := "116658c0e38041e012ced0c61b1bbb8d2b020383eac245fcd2a4a0391cba232d", func := "airtime/airtimelaw22.WindowChecks", spec := "windowChecks", unfollowed := true, recurses := true, apart := false }
def WindowChecksSaid : Prop := windowChecksRow.holds Try.pinned (OpenSpec.ofChange windowChecksSpec)

/-- ITS FALSE NEIGHBOUR: 'it returns false'. Refute it at one input. -/
def windowChecksWrong : ChangeSpec := { name := "windowChecks", fn := fun _ => fun
  | [d1, d2] => { results := [.lit (.bool false)], args := [d1, d2] }
  | _ => none }
def WindowChecksWrongFalsely : Prop := windowChecksRow.holds Try.pinned (OpenSpec.ofChange windowChecksWrong)

/-- 'airtimelaw22.WindowPuts': WHATEVER THE INPUT: true; the input reads as it did. -/
def windowPutsSpec : ChangeSpec := { name := "windowPuts", fn := fun _ => fun
  | [d1, d2, d3] => { results := [.lit (.bool true)], args := [d1, d2, d3] }
  | _ => none }
def windowPutsRow : OpenClaim := { program := "ytldeflpaghbmmaa", sum := "116658c0e38041e012ced0c61b1bbb8d2b020383eac245fcd2a4a0391cba232d", func := "airtime/airtimelaw22.WindowPuts", spec := "windowPuts", unfollowed := true, recurses := true, apart := false }
def WindowPutsSaid : Prop := windowPutsRow.holds Try.pinned (OpenSpec.ofChange windowPutsSpec)

/-- ITS FALSE NEIGHBOUR: 'it returns false'. Refute it at one input. -/
def windowPutsWrong : ChangeSpec := { name := "windowPuts", fn := fun _ => fun
  | [d1, d2, d3] => { results := [.lit (.bool false)], args := [d1, d2, d3] }
  | _ => none }
def WindowPutsWrongFalsely : Prop := windowPutsRow.holds Try.pinned (OpenSpec.ofChange windowPutsWrong)

/-- 'airtimelaw22.WindowAcks': WHATEVER THE INPUT: true; the input reads as it did. -/
def windowAcksSpec : ChangeSpec := { name := "windowAcks", fn := fun _ => fun
  | [d1, d2] => { results := [.lit (.bool true)], args := [d1, d2] }
  | _ => none }
def windowAcksRow : OpenClaim := { program := "ytldeflpaghbmmaa", sum := "116658c0e38041e012ced0c61b1bbb8d2b020383eac245fcd2a4a0391cba232d", func := "airtime/airtimelaw22.WindowAcks", spec := "windowAcks", unfollowed := true, recurses := true, apart := false }
def WindowAcksSaid : Prop := windowAcksRow.holds Try.pinned (OpenSpec.ofChange windowAcksSpec)

/-- ITS FALSE NEIGHBOUR: 'it returns false'. Refute it at one input. -/
def windowAcksWrong : ChangeSpec := { name := "windowAcks", fn := fun _ => fun
  | [d1, d2] => { results := [.lit (.bool false)], args := [d1, d2] }
  | _ => none }
def WindowAcksWrongFalsely : Prop := windowAcksRow.holds Try.pinned (OpenSpec.ofChange windowAcksWrong)

/-- 'airtimelaw22.WindowResets': WHATEVER THE INPUT: true; the input reads as it did. -/
def windowResetsSpec : ChangeSpec := { name := "windowResets", fn := fun _ => fun
  | [d1, d2] => { results := [.lit (.bool true)], args := [d1, d2] }
  | _ => none }
def windowResetsRow : OpenClaim := { program := "ytldeflpaghbmmaa", sum := "116658c0e38041e012ced0c61b1bbb8d2b020383eac245fcd2a4a0391cba232d", func := "airtime/airtimelaw22.WindowResets", spec := "windowResets", unfollowed := true, recurses := true, apart := false }
def WindowResetsSaid : Prop := windowResetsRow.holds Try.pinned (OpenSpec.ofChange windowResetsSpec)

/-- ITS FALSE NEIGHBOUR: 'it returns false'. Refute it at one input. -/
def windowResetsWrong : ChangeSpec := { name := "windowResets", fn := fun _ => fun
  | [d1, d2] => { results := [.lit (.bool false)], args := [d1, d2] }
  | _ => none }
def WindowResetsWrongFalsely : Prop := windowResetsRow.holds Try.pinned (OpenSpec.ofChange windowResetsWrong)

/-- 'airtimelaw22.WindowBounds': WHATEVER THE INPUT: true; the input reads as it did. -/
def windowBoundsSpec : ChangeSpec := { name := "windowBounds", fn := fun _ => fun
  | [d1, d2] => { results := [.lit (.bool true)], args := [d1, d2] }
  | _ => none }
def windowBoundsRow : OpenClaim := { program := "ytldeflpaghbmmaa", sum := "116658c0e38041e012ced0c61b1bbb8d2b020383eac245fcd2a4a0391cba232d", func := "airtime/airtimelaw22.WindowBounds", spec := "windowBounds", unfollowed := true, recurses := true, apart := false }
def WindowBoundsSaid : Prop := windowBoundsRow.holds Try.pinned (OpenSpec.ofChange windowBoundsSpec)

/-- ITS FALSE NEIGHBOUR: 'it returns false'. Refute it at one input. -/
def windowBoundsWrong : ChangeSpec := { name := "windowBounds", fn := fun _ => fun
  | [d1, d2] => { results := [.lit (.bool false)], args := [d1, d2] }
  | _ => none }
def WindowBoundsWrongFalsely : Prop := windowBoundsRow.holds Try.pinned (OpenSpec.ofChange windowBoundsWrong)

/-- 'airtimelaw22.WindowSingle': WHATEVER THE INPUT: true; the input reads as it did. -/
def windowSingleSpec : ChangeSpec := { name := "windowSingle", fn := fun _ => fun
  | [d1, d2] => { results := [.lit (.bool true)], args := [d1, d2] }
  | _ => none }
def windowSingleRow : OpenClaim := { program := "ytldeflpaghbmmaa", sum := "116658c0e38041e012ced0c61b1bbb8d2b020383eac245fcd2a4a0391cba232d", func := "airtime/airtimelaw22.WindowSingle", spec := "windowSingle", unfollowed := true, recurses := true, apart := false }
def WindowSingleSaid : Prop := windowSingleRow.holds Try.pinned (OpenSpec.ofChange windowSingleSpec)

/-- ITS FALSE NEIGHBOUR: 'it returns false'. Refute it at one input. -/
def windowSingleWrong : ChangeSpec := { name := "windowSingle", fn := fun _ => fun
  | [d1, d2] => { results := [.lit (.bool false)], args := [d1, d2] }
  | _ => none }
def WindowSingleWrongFalsely : Prop := windowSingleRow.holds Try.pinned (OpenSpec.ofChange windowSingleWrong)

/- THE SECOND FORM. 'bulk': how many values and letters a reading holds, each counted each time it is reached (what is shared counts as often as it is met; a slice's spare places count too). A statement '..UptoSaid' is the law's where the arguments, and the package variables that the reading takes, are together of bulk at most 1048576: NARROWER than '..Said'. Prove '..Said' where nothing that the law and all that it calls make is longer than what came in: it says more and counts as full. Else prove '..UptoSaid'. A law counts once. -/
mutual
def uptoBulk {H : Type} : DataW H → Nat
  | .lit (.string bytes) => bytes.length + 1
  | .lit _ => 1
  | .nil => 1
  | .ptr d => uptoBulk d + 1
  | .slice elems spare => uptoBulkAll elems + uptoBulkAll spare + 1
  | .agg parts => uptoBulkAll parts + 1
  | .iface _ d => uptoBulk d + 1
  | .map entries => uptoBulkEntries entries + 1
  | .held _ => 1
def uptoBulkAll {H : Type} : List (DataW H) → Nat
  | [] => 0
  | d :: r => uptoBulk d + uptoBulkAll r
def uptoBulkEntries {H : Type} : List (Lit × DataW H) → Nat
  | [] => 0
  | x :: r => uptoBulkEntry x + uptoBulkEntries r
def uptoBulkEntry {H : Type} : Lit × DataW H → Nat
  | (.string bytes, d) => bytes.length + uptoBulk d + 1
  | (_, d) => uptoBulk d + 1
 end
def uptoSmall : (H : Type) → List (DataW H) → Bool := fun _ ds => decide (uptoBulkAll ds ≤ 1048576)
def OpenSpec.upto (s : _root_.Go.ChangeSpec) : _root_.Go.OpenSpec := { _root_.Go.OpenSpec.ofChange s with cond := some uptoSmall }

/-- 'airtimelaw22.WindowChecks', WHERE WHAT IT READS IS OF BULK AT MOST 1048576: true; the input reads as it did. -/
def windowChecksUptoRow : OpenClaim := { program := "ytldeflpaghbmmaa", sum := "116658c0e38041e012ced0c61b1bbb8d2b020383eac245fcd2a4a0391cba232d", func := "airtime/airtimelaw22.WindowChecks", spec := "windowChecks", unfollowed := true, recurses := true, apart := false, narrowed := true }
def WindowChecksUptoSaid : Prop := windowChecksUptoRow.holds Try.pinned (OpenSpec.upto windowChecksSpec)

/-- 'airtimelaw22.WindowPuts', WHERE WHAT IT READS IS OF BULK AT MOST 1048576: true; the input reads as it did. -/
def windowPutsUptoRow : OpenClaim := { program := "ytldeflpaghbmmaa", sum := "116658c0e38041e012ced0c61b1bbb8d2b020383eac245fcd2a4a0391cba232d", func := "airtime/airtimelaw22.WindowPuts", spec := "windowPuts", unfollowed := true, recurses := true, apart := false, narrowed := true }
def WindowPutsUptoSaid : Prop := windowPutsUptoRow.holds Try.pinned (OpenSpec.upto windowPutsSpec)

/-- 'airtimelaw22.WindowAcks', WHERE WHAT IT READS IS OF BULK AT MOST 1048576: true; the input reads as it did. -/
def windowAcksUptoRow : OpenClaim := { program := "ytldeflpaghbmmaa", sum := "116658c0e38041e012ced0c61b1bbb8d2b020383eac245fcd2a4a0391cba232d", func := "airtime/airtimelaw22.WindowAcks", spec := "windowAcks", unfollowed := true, recurses := true, apart := false, narrowed := true }
def WindowAcksUptoSaid : Prop := windowAcksUptoRow.holds Try.pinned (OpenSpec.upto windowAcksSpec)

/-- 'airtimelaw22.WindowResets', WHERE WHAT IT READS IS OF BULK AT MOST 1048576: true; the input reads as it did. -/
def windowResetsUptoRow : OpenClaim := { program := "ytldeflpaghbmmaa", sum := "116658c0e38041e012ced0c61b1bbb8d2b020383eac245fcd2a4a0391cba232d", func := "airtime/airtimelaw22.WindowResets", spec := "windowResets", unfollowed := true, recurses := true, apart := false, narrowed := true }
def WindowResetsUptoSaid : Prop := windowResetsUptoRow.holds Try.pinned (OpenSpec.upto windowResetsSpec)

/-- 'airtimelaw22.WindowBounds', WHERE WHAT IT READS IS OF BULK AT MOST 1048576: true; the input reads as it did. -/
def windowBoundsUptoRow : OpenClaim := { program := "ytldeflpaghbmmaa", sum := "116658c0e38041e012ced0c61b1bbb8d2b020383eac245fcd2a4a0391cba232d", func := "airtime/airtimelaw22.WindowBounds", spec := "windowBounds", unfollowed := true, recurses := true, apart := false, narrowed := true }
def WindowBoundsUptoSaid : Prop := windowBoundsUptoRow.holds Try.pinned (OpenSpec.upto windowBoundsSpec)

/-- 'airtimelaw22.WindowSingle', WHERE WHAT IT READS IS OF BULK AT MOST 1048576: true; the input reads as it did. -/
def windowSingleUptoRow : OpenClaim := { program := "ytldeflpaghbmmaa", sum := "116658c0e38041e012ced0c61b1bbb8d2b020383eac245fcd2a4a0391cba232d", func := "airtime/airtimelaw22.WindowSingle", spec := "windowSingle", unfollowed := true, recurses := true, apart := false, narrowed := true }
def WindowSingleUptoSaid : Prop := windowSingleUptoRow.holds Try.pinned (OpenSpec.upto windowSingleSpec)

end Rows
end Go.Proofs.Ytldeflpaghbmmaa
