/-
  No cell of these rows narrows 'for every input' (looked for: loops, veiled, ifaces, maps, wideKeys, modest, calm, conditions, laid).
  DERIVED. THE GIVEN ROWS OF THIS SEAT. 4 by the template 'for every input the law returns true; each argument reads behind the call as it read before'; 0 by the template 'total and deterministic' (their statements: YtbcbfilpkjgclaaTotals.lean).
  GIVEN WITH THE SEED: the statements are not yours to turn. If you find one false, say at which input.
  Laid BY PROGRAM, IN A SANDBOX (cutbox-rows.mjs): the forced cells as the released guide's own fill.sh prints them over the translation 5cf683fc29852247… (all of the seat's roots in one cut). By AI agents, Wed Nov 11 2026. No macro, syntax, notation, axiom, sorry.
-/
import Derived.Test.YtbcbfilpkjgclaaChecked
import GoSem.Claim
import GoSem.ClaimJoined
import GoSem.ClaimMapViews
import Derived.JoinedTies
import Derived.KernelRfl
namespace Go.Proofs.Ytbcbfilpkjgclaa
/- THE CELL 'sum', in the pinned program and in every row, IS THE sha256 OF THE DUMP (.gsa) THAT YtbcbfilpkjgclaaProg.lean LOADS. Nothing in Lean hashes anything: it is a label: what it is worth is what the hold of that sum in a sandbox is worth. -/
noncomputable def Try.pinned : Pinned := { name := "ytbcbfilpkjgclaa", sum := "5cf683fc29852247fecf29b13c73643e28332d0abe50a10201ab278fd3503880", checked := Try.checked }
namespace Rows
def none {H : Type} : Left H := { results := [], args := [] }

/-- 'airtimelaw18.FragmentSplits': WHATEVER THE INPUT: true; the input reads as it did. -/
def fragmentSplitsSpec : ChangeSpec := { name := "fragmentSplits", fn := fun _ => fun
  | [d1, d2, d3] => { results := [.lit (.bool true)], args := [d1, d2, d3] }
  | _ => none }
def fragmentSplitsRow : OpenClaim := { program := "ytbcbfilpkjgclaa", sum := "5cf683fc29852247fecf29b13c73643e28332d0abe50a10201ab278fd3503880", func := "airtime/airtimelaw18.FragmentSplits", spec := "fragmentSplits", apart := false }
def FragmentSplitsSaid : Prop := fragmentSplitsRow.holds Try.pinned (OpenSpec.ofChange fragmentSplitsSpec)

/-- ITS FALSE NEIGHBOUR: 'it returns false'. Refute it at one input. -/
def fragmentSplitsWrong : ChangeSpec := { name := "fragmentSplits", fn := fun _ => fun
  | [d1, d2, d3] => { results := [.lit (.bool false)], args := [d1, d2, d3] }
  | _ => none }
def FragmentSplitsWrongFalsely : Prop := fragmentSplitsRow.holds Try.pinned (OpenSpec.ofChange fragmentSplitsWrong)

/-- 'airtimelaw18.FragmentAdds': WHATEVER THE INPUT: true; the input reads as it did. -/
def fragmentAddsSpec : ChangeSpec := { name := "fragmentAdds", fn := fun _ => fun
  | [d1, d2] => { results := [.lit (.bool true)], args := [d1, d2] }
  | _ => none }
def fragmentAddsRow : OpenClaim := { program := "ytbcbfilpkjgclaa", sum := "5cf683fc29852247fecf29b13c73643e28332d0abe50a10201ab278fd3503880", func := "airtime/airtimelaw18.FragmentAdds", spec := "fragmentAdds", apart := false }
def FragmentAddsSaid : Prop := fragmentAddsRow.holds Try.pinned (OpenSpec.ofChange fragmentAddsSpec)

/-- ITS FALSE NEIGHBOUR: 'it returns false'. Refute it at one input. -/
def fragmentAddsWrong : ChangeSpec := { name := "fragmentAdds", fn := fun _ => fun
  | [d1, d2] => { results := [.lit (.bool false)], args := [d1, d2] }
  | _ => none }
def FragmentAddsWrongFalsely : Prop := fragmentAddsRow.holds Try.pinned (OpenSpec.ofChange fragmentAddsWrong)

/-- 'airtimelaw18.FragmentPieces': WHATEVER THE INPUT: true; the input reads as it did. -/
def fragmentPiecesSpec : ChangeSpec := { name := "fragmentPieces", fn := fun _ => fun
  | [d1, d2] => { results := [.lit (.bool true)], args := [d1, d2] }
  | _ => none }
def fragmentPiecesRow : OpenClaim := { program := "ytbcbfilpkjgclaa", sum := "5cf683fc29852247fecf29b13c73643e28332d0abe50a10201ab278fd3503880", func := "airtime/airtimelaw18.FragmentPieces", spec := "fragmentPieces", apart := false }
def FragmentPiecesSaid : Prop := fragmentPiecesRow.holds Try.pinned (OpenSpec.ofChange fragmentPiecesSpec)

/-- ITS FALSE NEIGHBOUR: 'it returns false'. Refute it at one input. -/
def fragmentPiecesWrong : ChangeSpec := { name := "fragmentPieces", fn := fun _ => fun
  | [d1, d2] => { results := [.lit (.bool false)], args := [d1, d2] }
  | _ => none }
def FragmentPiecesWrongFalsely : Prop := fragmentPiecesRow.holds Try.pinned (OpenSpec.ofChange fragmentPiecesWrong)

/-- 'airtimelaw18.FragmentReassembles': WHATEVER THE INPUT: true; the input reads as it did. -/
def fragmentReassemblesSpec : ChangeSpec := { name := "fragmentReassembles", fn := fun _ => fun
  | [d1, d2, d3] => { results := [.lit (.bool true)], args := [d1, d2, d3] }
  | _ => none }
def fragmentReassemblesRow : OpenClaim := { program := "ytbcbfilpkjgclaa", sum := "5cf683fc29852247fecf29b13c73643e28332d0abe50a10201ab278fd3503880", func := "airtime/airtimelaw18.FragmentReassembles", spec := "fragmentReassembles", apart := false }
def FragmentReassemblesSaid : Prop := fragmentReassemblesRow.holds Try.pinned (OpenSpec.ofChange fragmentReassemblesSpec)

/-- ITS FALSE NEIGHBOUR: 'it returns false'. Refute it at one input. -/
def fragmentReassemblesWrong : ChangeSpec := { name := "fragmentReassembles", fn := fun _ => fun
  | [d1, d2, d3] => { results := [.lit (.bool false)], args := [d1, d2, d3] }
  | _ => none }
def FragmentReassemblesWrongFalsely : Prop := fragmentReassemblesRow.holds Try.pinned (OpenSpec.ofChange fragmentReassemblesWrong)

/- THE SECOND FORM. 'bulk': how many values and letters a reading holds, each counted each time it is reached (what is shared counts as often as it is met; a slice's spare places count too). A statement '..UptoSaid' is the law's where the arguments, and the package variables that the reading takes, are together of bulk at most 1048576: NARROWER than '..Said'. Prove '..Said' where nothing that the law and all that it calls make is longer than what came in: it says more and counts as full. Else prove '..UptoSaid'. A law counts once. -/
mutual
def uptoBulk {H : Type} : DataW H → Nat
  | .lit (.string bytes) => bytes.length + 1
  | .lit _ => 1
  | .nil => 1
  | .ptr d => uptoBulk d + 1
  | .slice elems spare => uptoBulkAll elems + uptoBulkAll spare + 1
  | .agg parts => uptoBulkAll parts + 1
  | .iface _ d => uptoBulk d + 1
  | .map entries => uptoBulkEntries entries + 1
  | .held _ => 1
def uptoBulkAll {H : Type} : List (DataW H) → Nat
  | [] => 0
  | d :: r => uptoBulk d + uptoBulkAll r
def uptoBulkEntries {H : Type} : List (Lit × DataW H) → Nat
  | [] => 0
  | x :: r => uptoBulkEntry x + uptoBulkEntries r
def uptoBulkEntry {H : Type} : Lit × DataW H → Nat
  | (.string bytes, d) => bytes.length + uptoBulk d + 1
  | (_, d) => uptoBulk d + 1
 end
def uptoSmall : (H : Type) → List (DataW H) → Bool := fun _ ds => decide (uptoBulkAll ds ≤ 1048576)
def OpenSpec.upto (s : _root_.Go.ChangeSpec) : _root_.Go.OpenSpec := { _root_.Go.OpenSpec.ofChange s with cond := some uptoSmall }

/-- 'airtimelaw18.FragmentSplits', WHERE WHAT IT READS IS OF BULK AT MOST 1048576: true; the input reads as it did. -/
def fragmentSplitsUptoRow : OpenClaim := { program := "ytbcbfilpkjgclaa", sum := "5cf683fc29852247fecf29b13c73643e28332d0abe50a10201ab278fd3503880", func := "airtime/airtimelaw18.FragmentSplits", spec := "fragmentSplits", apart := false, narrowed := true }
def FragmentSplitsUptoSaid : Prop := fragmentSplitsUptoRow.holds Try.pinned (OpenSpec.upto fragmentSplitsSpec)

/-- 'airtimelaw18.FragmentAdds', WHERE WHAT IT READS IS OF BULK AT MOST 1048576: true; the input reads as it did. -/
def fragmentAddsUptoRow : OpenClaim := { program := "ytbcbfilpkjgclaa", sum := "5cf683fc29852247fecf29b13c73643e28332d0abe50a10201ab278fd3503880", func := "airtime/airtimelaw18.FragmentAdds", spec := "fragmentAdds", apart := false, narrowed := true }
def FragmentAddsUptoSaid : Prop := fragmentAddsUptoRow.holds Try.pinned (OpenSpec.upto fragmentAddsSpec)

/-- 'airtimelaw18.FragmentPieces', WHERE WHAT IT READS IS OF BULK AT MOST 1048576: true; the input reads as it did. -/
def fragmentPiecesUptoRow : OpenClaim := { program := "ytbcbfilpkjgclaa", sum := "5cf683fc29852247fecf29b13c73643e28332d0abe50a10201ab278fd3503880", func := "airtime/airtimelaw18.FragmentPieces", spec := "fragmentPieces", apart := false, narrowed := true }
def FragmentPiecesUptoSaid : Prop := fragmentPiecesUptoRow.holds Try.pinned (OpenSpec.upto fragmentPiecesSpec)

/-- 'airtimelaw18.FragmentReassembles', WHERE WHAT IT READS IS OF BULK AT MOST 1048576: true; the input reads as it did. -/
def fragmentReassemblesUptoRow : OpenClaim := { program := "ytbcbfilpkjgclaa", sum := "5cf683fc29852247fecf29b13c73643e28332d0abe50a10201ab278fd3503880", func := "airtime/airtimelaw18.FragmentReassembles", spec := "fragmentReassembles", apart := false, narrowed := true }
def FragmentReassemblesUptoSaid : Prop := fragmentReassemblesUptoRow.holds Try.pinned (OpenSpec.upto fragmentReassemblesSpec)

end Rows
end Go.Proofs.Ytbcbfilpkjgclaa
