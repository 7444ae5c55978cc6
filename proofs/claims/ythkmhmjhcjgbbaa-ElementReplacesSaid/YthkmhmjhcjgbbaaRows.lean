/-
  No cell of these rows narrows 'for every input' (looked for: loops, veiled, ifaces, maps, wideKeys, modest, calm, conditions, laid).
  DERIVED. THE GIVEN ROWS OF THIS SEAT. 5 by the template 'for every input the law returns true; each argument reads behind the call as it read before'; 0 by the template 'total and deterministic' (their statements: YthkmhmjhcjgbbaaTotals.lean).
  GIVEN WITH THE SEED: the statements are not yours to turn. If you find one false, say at which input.
  Laid BY PROGRAM, IN A SANDBOX (cutbox-rows.mjs): the forced cells as the released guide's own fill.sh prints them over the translation 8bb214262f9d994b… (all of the seat's roots in one cut). By AI agents, Wed Nov 11 2026. No macro, syntax, notation, axiom, sorry.
-/
import Derived.Test.YthkmhmjhcjgbbaaChecked
import GoSem.Claim
import GoSem.ClaimJoined
import GoSem.ClaimMapViews
import Derived.JoinedTies
import Derived.KernelRfl
namespace Go.Proofs.Ythkmhmjhcjgbbaa
/- THE CELL 'sum', in the pinned program and in every row, IS THE sha256 OF THE DUMP (.gsa) THAT YthkmhmjhcjgbbaaProg.lean LOADS. Nothing in Lean hashes anything: it is a label: what it is worth is what the hold of that sum in a sandbox is worth. -/
noncomputable def Try.pinned : Pinned := { name := "ythkmhmjhcjgbbaa", sum := "8bb214262f9d994bc2bd9c5344a5fb1151a2abaad00ad426853f59c769172f61", checked := Try.checked }
namespace Rows
def none {H : Type} : Left H := { results := [], args := [] }

/-- 'airtimelaw09.ElementEncodes': WHATEVER THE INPUT: true; the input reads as it did. -/
def elementEncodesSpec : ChangeSpec := { name := "elementEncodes", fn := fun _ => fun
  | [d] => { results := [.lit (.bool true)], args := [d] }
  | _ => none }
def elementEncodesRow : OpenClaim := { program := "ythkmhmjhcjgbbaa", sum := "8bb214262f9d994bc2bd9c5344a5fb1151a2abaad00ad426853f59c769172f61", func := "airtime/airtimelaw09.ElementEncodes", spec := "elementEncodes", apart := false }
def ElementEncodesSaid : Prop := elementEncodesRow.holds Try.pinned (OpenSpec.ofChange elementEncodesSpec)

/-- ITS FALSE NEIGHBOUR: 'it returns false'. Refute it at one input. -/
def elementEncodesWrong : ChangeSpec := { name := "elementEncodes", fn := fun _ => fun
  | [d] => { results := [.lit (.bool false)], args := [d] }
  | _ => none }
def ElementEncodesWrongFalsely : Prop := elementEncodesRow.holds Try.pinned (OpenSpec.ofChange elementEncodesWrong)

/-- 'airtimelaw09.ElementDecodes': WHATEVER THE INPUT: true; the input reads as it did. -/
def elementDecodesSpec : ChangeSpec := { name := "elementDecodes", fn := fun _ => fun
  | [d] => { results := [.lit (.bool true)], args := [d] }
  | _ => none }
def elementDecodesRow : OpenClaim := { program := "ythkmhmjhcjgbbaa", sum := "8bb214262f9d994bc2bd9c5344a5fb1151a2abaad00ad426853f59c769172f61", func := "airtime/airtimelaw09.ElementDecodes", spec := "elementDecodes", apart := false }
def ElementDecodesSaid : Prop := elementDecodesRow.holds Try.pinned (OpenSpec.ofChange elementDecodesSpec)

/-- ITS FALSE NEIGHBOUR: 'it returns false'. Refute it at one input. -/
def elementDecodesWrong : ChangeSpec := { name := "elementDecodes", fn := fun _ => fun
  | [d] => { results := [.lit (.bool false)], args := [d] }
  | _ => none }
def ElementDecodesWrongFalsely : Prop := elementDecodesRow.holds Try.pinned (OpenSpec.ofChange elementDecodesWrong)

/-- 'airtimelaw09.ElementReads': WHATEVER THE INPUT: true; the input reads as it did. -/
def elementReadsSpec : ChangeSpec := { name := "elementReads", fn := fun _ => fun
  | [d1, d2] => { results := [.lit (.bool true)], args := [d1, d2] }
  | _ => none }
def elementReadsRow : OpenClaim := { program := "ythkmhmjhcjgbbaa", sum := "8bb214262f9d994bc2bd9c5344a5fb1151a2abaad00ad426853f59c769172f61", func := "airtime/airtimelaw09.ElementReads", spec := "elementReads", apart := false }
def ElementReadsSaid : Prop := elementReadsRow.holds Try.pinned (OpenSpec.ofChange elementReadsSpec)

/-- ITS FALSE NEIGHBOUR: 'it returns false'. Refute it at one input. -/
def elementReadsWrong : ChangeSpec := { name := "elementReads", fn := fun _ => fun
  | [d1, d2] => { results := [.lit (.bool false)], args := [d1, d2] }
  | _ => none }
def ElementReadsWrongFalsely : Prop := elementReadsRow.holds Try.pinned (OpenSpec.ofChange elementReadsWrong)

/-- 'airtimelaw09.ElementFinds': WHATEVER THE INPUT: true; the input reads as it did. -/
def elementFindsSpec : ChangeSpec := { name := "elementFinds", fn := fun _ => fun
  | [d1, d2] => { results := [.lit (.bool true)], args := [d1, d2] }
  | _ => none }
def elementFindsRow : OpenClaim := { program := "ythkmhmjhcjgbbaa", sum := "8bb214262f9d994bc2bd9c5344a5fb1151a2abaad00ad426853f59c769172f61", func := "airtime/airtimelaw09.ElementFinds", spec := "elementFinds", apart := false }
def ElementFindsSaid : Prop := elementFindsRow.holds Try.pinned (OpenSpec.ofChange elementFindsSpec)

/-- ITS FALSE NEIGHBOUR: 'it returns false'. Refute it at one input. -/
def elementFindsWrong : ChangeSpec := { name := "elementFinds", fn := fun _ => fun
  | [d1, d2] => { results := [.lit (.bool false)], args := [d1, d2] }
  | _ => none }
def ElementFindsWrongFalsely : Prop := elementFindsRow.holds Try.pinned (OpenSpec.ofChange elementFindsWrong)

/-- 'airtimelaw09.ElementReplaces': WHATEVER THE INPUT: true; the input reads as it did. -/
def elementReplacesSpec : ChangeSpec := { name := "elementReplaces", fn := fun _ => fun
  | [d1, d2, d3] => { results := [.lit (.bool true)], args := [d1, d2, d3] }
  | _ => none }
def elementReplacesRow : OpenClaim := { program := "ythkmhmjhcjgbbaa", sum := "8bb214262f9d994bc2bd9c5344a5fb1151a2abaad00ad426853f59c769172f61", func := "airtime/airtimelaw09.ElementReplaces", spec := "elementReplaces", apart := false }
def ElementReplacesSaid : Prop := elementReplacesRow.holds Try.pinned (OpenSpec.ofChange elementReplacesSpec)

/-- ITS FALSE NEIGHBOUR: 'it returns false'. Refute it at one input. -/
def elementReplacesWrong : ChangeSpec := { name := "elementReplaces", fn := fun _ => fun
  | [d1, d2, d3] => { results := [.lit (.bool false)], args := [d1, d2, d3] }
  | _ => none }
def ElementReplacesWrongFalsely : Prop := elementReplacesRow.holds Try.pinned (OpenSpec.ofChange elementReplacesWrong)

/- THE SECOND FORM. 'bulk': how many values and letters a reading holds, each counted each time it is reached (what is shared counts as often as it is met; a slice's spare places count too). A statement '..UptoSaid' is the law's where the arguments, and the package variables that the reading takes, are together of bulk at most 1048576: NARROWER than '..Said'. Prove '..Said' where nothing that the law and all that it calls make is longer than what came in: it says more and counts as full. Else prove '..UptoSaid'. A law counts once. -/
mutual
def uptoBulk {H : Type} : DataW H → Nat
  | .lit (.string bytes) => bytes.length + 1
  | .lit _ => 1
  | .nil => 1
  | .ptr d => uptoBulk d + 1
  | .slice elems spare => uptoBulkAll elems + uptoBulkAll spare + 1
  | .agg parts => uptoBulkAll parts + 1
  | .iface _ d => uptoBulk d + 1
  | .map entries => uptoBulkEntries entries + 1
  | .held _ => 1
def uptoBulkAll {H : Type} : List (DataW H) → Nat
  | [] => 0
  | d :: r => uptoBulk d + uptoBulkAll r
def uptoBulkEntries {H : Type} : List (Lit × DataW H) → Nat
  | [] => 0
  | x :: r => uptoBulkEntry x + uptoBulkEntries r
def uptoBulkEntry {H : Type} : Lit × DataW H → Nat
  | (.string bytes, d) => bytes.length + uptoBulk d + 1
  | (_, d) => uptoBulk d + 1
 end
def uptoSmall : (H : Type) → List (DataW H) → Bool := fun _ ds => decide (uptoBulkAll ds ≤ 1048576)
def OpenSpec.upto (s : _root_.Go.ChangeSpec) : _root_.Go.OpenSpec := { _root_.Go.OpenSpec.ofChange s with cond := some uptoSmall }

/-- 'airtimelaw09.ElementEncodes', WHERE WHAT IT READS IS OF BULK AT MOST 1048576: true; the input reads as it did. -/
def elementEncodesUptoRow : OpenClaim := { program := "ythkmhmjhcjgbbaa", sum := "8bb214262f9d994bc2bd9c5344a5fb1151a2abaad00ad426853f59c769172f61", func := "airtime/airtimelaw09.ElementEncodes", spec := "elementEncodes", apart := false, narrowed := true }
def ElementEncodesUptoSaid : Prop := elementEncodesUptoRow.holds Try.pinned (OpenSpec.upto elementEncodesSpec)

/-- 'airtimelaw09.ElementDecodes', WHERE WHAT IT READS IS OF BULK AT MOST 1048576: true; the input reads as it did. -/
def elementDecodesUptoRow : OpenClaim := { program := "ythkmhmjhcjgbbaa", sum := "8bb214262f9d994bc2bd9c5344a5fb1151a2abaad00ad426853f59c769172f61", func := "airtime/airtimelaw09.ElementDecodes", spec := "elementDecodes", apart := false, narrowed := true }
def ElementDecodesUptoSaid : Prop := elementDecodesUptoRow.holds Try.pinned (OpenSpec.upto elementDecodesSpec)

/-- 'airtimelaw09.ElementReads', WHERE WHAT IT READS IS OF BULK AT MOST 1048576: true; the input reads as it did. -/
def elementReadsUptoRow : OpenClaim := { program := "ythkmhmjhcjgbbaa", sum := "8bb214262f9d994bc2bd9c5344a5fb1151a2abaad00ad426853f59c769172f61", func := "airtime/airtimelaw09.ElementReads", spec := "elementReads", apart := false, narrowed := true }
def ElementReadsUptoSaid : Prop := elementReadsUptoRow.holds Try.pinned (OpenSpec.upto elementReadsSpec)

/-- 'airtimelaw09.ElementFinds', WHERE WHAT IT READS IS OF BULK AT MOST 1048576: true; the input reads as it did. -/
def elementFindsUptoRow : OpenClaim := { program := "ythkmhmjhcjgbbaa", sum := "8bb214262f9d994bc2bd9c5344a5fb1151a2abaad00ad426853f59c769172f61", func := "airtime/airtimelaw09.ElementFinds", spec := "elementFinds", apart := false, narrowed := true }
def ElementFindsUptoSaid : Prop := elementFindsUptoRow.holds Try.pinned (OpenSpec.upto elementFindsSpec)

/-- 'airtimelaw09.ElementReplaces', WHERE WHAT IT READS IS OF BULK AT MOST 1048576: true; the input reads as it did. -/
def elementReplacesUptoRow : OpenClaim := { program := "ythkmhmjhcjgbbaa", sum := "8bb214262f9d994bc2bd9c5344a5fb1151a2abaad00ad426853f59c769172f61", func := "airtime/airtimelaw09.ElementReplaces", spec := "elementReplaces", apart := false, narrowed := true }
def ElementReplacesUptoSaid : Prop := elementReplacesUptoRow.holds Try.pinned (OpenSpec.upto elementReplacesSpec)

end Rows
end Go.Proofs.Ythkmhmjhcjgbbaa
