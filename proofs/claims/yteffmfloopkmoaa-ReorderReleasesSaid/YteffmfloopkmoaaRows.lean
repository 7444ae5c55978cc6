/-
  No cell of these rows narrows 'for every input' (looked for: loops, veiled, ifaces, maps, wideKeys, modest, calm, conditions, laid).
  DERIVED. THE GIVEN ROWS OF THIS SEAT. 4 by the template 'for every input the law returns true; each argument reads behind the call as it read before'; 0 by the template 'total and deterministic' (their statements: YteffmfloopkmoaaTotals.lean).
  GIVEN WITH THE SEED: the statements are not yours to turn. If you find one false, say at which input.
  Laid BY PROGRAM, IN A SANDBOX (cutbox-rows.mjs): the forced cells as the released guide's own fill.sh prints them over the translation a1efb2695fa0509e… (all of the seat's roots in one cut). By AI agents, Wed Nov 11 2026. No macro, syntax, notation, axiom, sorry.
-/
import Derived.Test.YteffmfloopkmoaaChecked
import GoSem.Claim
import GoSem.ClaimJoined
import GoSem.ClaimMapViews
import Derived.JoinedTies
import Derived.KernelRfl
namespace Go.Proofs.Yteffmfloopkmoaa
/- THE CELL 'sum', in the pinned program and in every row, IS THE sha256 OF THE DUMP (.gsa) THAT YteffmfloopkmoaaProg.lean LOADS. Nothing in Lean hashes anything: it is a label: what it is worth is what the hold of that sum in a sandbox is worth. -/
noncomputable def Try.pinned : Pinned := { name := "yteffmfloopkmoaa", sum := "a1efb2695fa0509e6ba75056ec48a0605d9292d11c024cdbff681c623f182a53", checked := Try.checked }
namespace Rows
def none {H : Type} : Left H := { results := [], args := [] }

/-- 'airtimelaw20.ReorderReleases': WHATEVER THE INPUT: true; the input reads as it did. -/
def reorderReleasesSpec : ChangeSpec := { name := "reorderReleases", fn := fun _ => fun
  | [d1, d2, d3] => { results := [.lit (.bool true)], args := [d1, d2, d3] }
  | _ => none }
def reorderReleasesRow : OpenClaim := { program := "yteffmfloopkmoaa", sum := "a1efb2695fa0509e6ba75056ec48a0605d9292d11c024cdbff681c623f182a53", func := "airtime/airtimelaw20.ReorderReleases", spec := "reorderReleases", inPlace := ["slices.overlaps[airtime/api.Held]"], unfollowed := true, recurses := true, apart := false }
def ReorderReleasesSaid : Prop := reorderReleasesRow.holds Try.pinned (OpenSpec.ofChange reorderReleasesSpec)

/-- ITS FALSE NEIGHBOUR: 'it returns false'. Refute it at one input. -/
def reorderReleasesWrong : ChangeSpec := { name := "reorderReleases", fn := fun _ => fun
  | [d1, d2, d3] => { results := [.lit (.bool false)], args := [d1, d2, d3] }
  | _ => none }
def ReorderReleasesWrongFalsely : Prop := reorderReleasesRow.holds Try.pinned (OpenSpec.ofChange reorderReleasesWrong)

/-- 'airtimelaw20.ReorderChecks': WHATEVER THE INPUT: true; the input reads as it did. -/
def reorderChecksSpec : ChangeSpec := { name := "reorderChecks", fn := fun _ => fun
  | [d1, d2, d3] => { results := [.lit (.bool true)], args := [d1, d2, d3] }
  | _ => none }
def reorderChecksRow : OpenClaim := { program := "yteffmfloopkmoaa", sum := "a1efb2695fa0509e6ba75056ec48a0605d9292d11c024cdbff681c623f182a53", func := "airtime/airtimelaw20.ReorderChecks", spec := "reorderChecks", inPlace := ["slices.overlaps[airtime/api.Held]"], unfollowed := true, recurses := true, apart := false }
def ReorderChecksSaid : Prop := reorderChecksRow.holds Try.pinned (OpenSpec.ofChange reorderChecksSpec)

/-- ITS FALSE NEIGHBOUR: 'it returns false'. Refute it at one input. -/
def reorderChecksWrong : ChangeSpec := { name := "reorderChecks", fn := fun _ => fun
  | [d1, d2, d3] => { results := [.lit (.bool false)], args := [d1, d2, d3] }
  | _ => none }
def ReorderChecksWrongFalsely : Prop := reorderChecksRow.holds Try.pinned (OpenSpec.ofChange reorderChecksWrong)

/-- 'airtimelaw20.ReorderSteps': WHATEVER THE INPUT: true; the input reads as it did. -/
def reorderStepsSpec : ChangeSpec := { name := "reorderSteps", fn := fun _ => fun
  | [d1, d2] => { results := [.lit (.bool true)], args := [d1, d2] }
  | _ => none }
def reorderStepsRow : OpenClaim := { program := "yteffmfloopkmoaa", sum := "a1efb2695fa0509e6ba75056ec48a0605d9292d11c024cdbff681c623f182a53", func := "airtime/airtimelaw20.ReorderSteps", spec := "reorderSteps", inPlace := ["slices.overlaps[airtime/api.Held]"], unfollowed := true, recurses := true, apart := false }
def ReorderStepsSaid : Prop := reorderStepsRow.holds Try.pinned (OpenSpec.ofChange reorderStepsSpec)

/-- ITS FALSE NEIGHBOUR: 'it returns false'. Refute it at one input. -/
def reorderStepsWrong : ChangeSpec := { name := "reorderSteps", fn := fun _ => fun
  | [d1, d2] => { results := [.lit (.bool false)], args := [d1, d2] }
  | _ => none }
def ReorderStepsWrongFalsely : Prop := reorderStepsRow.holds Try.pinned (OpenSpec.ofChange reorderStepsWrong)

/-- 'airtimelaw20.ReorderRuns': WHATEVER THE INPUT: true; the input reads as it did. -/
def reorderRunsSpec : ChangeSpec := { name := "reorderRuns", fn := fun _ => fun
  | [d1, d2, d3] => { results := [.lit (.bool true)], args := [d1, d2, d3] }
  | _ => none }
def reorderRunsRow : OpenClaim := { program := "yteffmfloopkmoaa", sum := "a1efb2695fa0509e6ba75056ec48a0605d9292d11c024cdbff681c623f182a53", func := "airtime/airtimelaw20.ReorderRuns", spec := "reorderRuns", inPlace := ["slices.overlaps[airtime/api.Held]"], unfollowed := true, recurses := true, apart := false }
def ReorderRunsSaid : Prop := reorderRunsRow.holds Try.pinned (OpenSpec.ofChange reorderRunsSpec)

/-- ITS FALSE NEIGHBOUR: 'it returns false'. Refute it at one input. -/
def reorderRunsWrong : ChangeSpec := { name := "reorderRuns", fn := fun _ => fun
  | [d1, d2, d3] => { results := [.lit (.bool false)], args := [d1, d2, d3] }
  | _ => none }
def ReorderRunsWrongFalsely : Prop := reorderRunsRow.holds Try.pinned (OpenSpec.ofChange reorderRunsWrong)

/- THE SECOND FORM. 'bulk': how many values and letters a reading holds, each counted each time it is reached (what is shared counts as often as it is met; a slice's spare places count too). A statement '..UptoSaid' is the law's where the arguments, and the package variables that the reading takes, are together of bulk at most 1048576: NARROWER than '..Said'. Prove '..Said' where nothing that the law and all that it calls make is longer than what came in: it says more and counts as full. Else prove '..UptoSaid'. A law counts once. -/
mutual
def uptoBulk {H : Type} : DataW H → Nat
  | .lit (.string bytes) => bytes.length + 1
  | .lit _ => 1
  | .nil => 1
  | .ptr d => uptoBulk d + 1
  | .slice elems spare => uptoBulkAll elems + uptoBulkAll spare + 1
  | .agg parts => uptoBulkAll parts + 1
  | .iface _ d => uptoBulk d + 1
  | .map entries => uptoBulkEntries entries + 1
  | .held _ => 1
def uptoBulkAll {H : Type} : List (DataW H) → Nat
  | [] => 0
  | d :: r => uptoBulk d + uptoBulkAll r
def uptoBulkEntries {H : Type} : List (Lit × DataW H) → Nat
  | [] => 0
  | x :: r => uptoBulkEntry x + uptoBulkEntries r
def uptoBulkEntry {H : Type} : Lit × DataW H → Nat
  | (.string bytes, d) => bytes.length + uptoBulk d + 1
  | (_, d) => uptoBulk d + 1
 end
def uptoSmall : (H : Type) → List (DataW H) → Bool := fun _ ds => decide (uptoBulkAll ds ≤ 1048576)
def OpenSpec.upto (s : _root_.Go.ChangeSpec) : _root_.Go.OpenSpec := { _root_.Go.OpenSpec.ofChange s with cond := some uptoSmall }

/-- 'airtimelaw20.ReorderReleases', WHERE WHAT IT READS IS OF BULK AT MOST 1048576: true; the input reads as it did. -/
def reorderReleasesUptoRow : OpenClaim := { program := "yteffmfloopkmoaa", sum := "a1efb2695fa0509e6ba75056ec48a0605d9292d11c024cdbff681c623f182a53", func := "airtime/airtimelaw20.ReorderReleases", spec := "reorderReleases", inPlace := ["slices.overlaps[airtime/api.Held]"], unfollowed := true, recurses := true, apart := false, narrowed := true }
def ReorderReleasesUptoSaid : Prop := reorderReleasesUptoRow.holds Try.pinned (OpenSpec.upto reorderReleasesSpec)

/-- 'airtimelaw20.ReorderChecks', WHERE WHAT IT READS IS OF BULK AT MOST 1048576: true; the input reads as it did. -/
def reorderChecksUptoRow : OpenClaim := { program := "yteffmfloopkmoaa", sum := "a1efb2695fa0509e6ba75056ec48a0605d9292d11c024cdbff681c623f182a53", func := "airtime/airtimelaw20.ReorderChecks", spec := "reorderChecks", inPlace := ["slices.overlaps[airtime/api.Held]"], unfollowed := true, recurses := true, apart := false, narrowed := true }
def ReorderChecksUptoSaid : Prop := reorderChecksUptoRow.holds Try.pinned (OpenSpec.upto reorderChecksSpec)

/-- 'airtimelaw20.ReorderSteps', WHERE WHAT IT READS IS OF BULK AT MOST 1048576: true; the input reads as it did. -/
def reorderStepsUptoRow : OpenClaim := { program := "yteffmfloopkmoaa", sum := "a1efb2695fa0509e6ba75056ec48a0605d9292d11c024cdbff681c623f182a53", func := "airtime/airtimelaw20.ReorderSteps", spec := "reorderSteps", inPlace := ["slices.overlaps[airtime/api.Held]"], unfollowed := true, recurses := true, apart := false, narrowed := true }
def ReorderStepsUptoSaid : Prop := reorderStepsUptoRow.holds Try.pinned (OpenSpec.upto reorderStepsSpec)

/-- 'airtimelaw20.ReorderRuns', WHERE WHAT IT READS IS OF BULK AT MOST 1048576: true; the input reads as it did. -/
def reorderRunsUptoRow : OpenClaim := { program := "yteffmfloopkmoaa", sum := "a1efb2695fa0509e6ba75056ec48a0605d9292d11c024cdbff681c623f182a53", func := "airtime/airtimelaw20.ReorderRuns", spec := "reorderRuns", inPlace := ["slices.overlaps[airtime/api.Held]"], unfollowed := true, recurses := true, apart := false, narrowed := true }
def ReorderRunsUptoSaid : Prop := reorderRunsUptoRow.holds Try.pinned (OpenSpec.upto reorderRunsSpec)

end Rows
end Go.Proofs.Yteffmfloopkmoaa
