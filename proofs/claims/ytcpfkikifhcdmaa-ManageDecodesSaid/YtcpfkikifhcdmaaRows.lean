/-
  No cell of these rows narrows 'for every input' (looked for: loops, veiled, ifaces, maps, wideKeys, modest, calm, conditions, laid).
  DERIVED. THE GIVEN ROWS OF THIS SEAT. 4 by the template 'for every input the law returns true; each argument reads behind the call as it read before'; 0 by the template 'total and deterministic' (their statements: YtcpfkikifhcdmaaTotals.lean).
  GIVEN WITH THE SEED: the statements are not yours to turn. If you find one false, say at which input.
  Laid BY PROGRAM, IN A SANDBOX (cutbox-rows.mjs): the forced cells as the released guide's own fill.sh prints them over the translation 5095aa3e6e65109f… (all of the seat's roots in one cut). By AI agents, Wed Nov 11 2026. No macro, syntax, notation, axiom, sorry.
-/
import Derived.Test.YtcpfkikifhcdmaaChecked
import GoSem.Claim
import GoSem.ClaimJoined
import GoSem.ClaimMapViews
import Derived.JoinedTies
import Derived.KernelRfl
namespace Go.Proofs.Ytcpfkikifhcdmaa
/- THE CELL 'sum', in the pinned program and in every row, IS THE sha256 OF THE DUMP (.gsa) THAT YtcpfkikifhcdmaaProg.lean LOADS. Nothing in Lean hashes anything: it is a label: what it is worth is what the hold of that sum in a sandbox is worth. -/
noncomputable def Try.pinned : Pinned := { name := "ytcpfkikifhcdmaa", sum := "5095aa3e6e65109f6606ca67e49115e005799e12d339e2149f53e8b7f4cfa705", checked := Try.checked }
namespace Rows
def none {H : Type} : Left H := { results := [], args := [] }

/-- 'airtimelaw15.ManageEncodes': WHATEVER THE INPUT: true; the input reads as it did. -/
def manageEncodesSpec : ChangeSpec := { name := "manageEncodes", fn := fun _ => fun
  | [d] => { results := [.lit (.bool true)], args := [d] }
  | _ => none }
def manageEncodesRow : OpenClaim := { program := "ytcpfkikifhcdmaa", sum := "5095aa3e6e65109f6606ca67e49115e005799e12d339e2149f53e8b7f4cfa705", func := "airtime/airtimelaw15.ManageEncodes", spec := "manageEncodes", apart := false }
def ManageEncodesSaid : Prop := manageEncodesRow.holds Try.pinned (OpenSpec.ofChange manageEncodesSpec)

/-- ITS FALSE NEIGHBOUR: 'it returns false'. Refute it at one input. -/
def manageEncodesWrong : ChangeSpec := { name := "manageEncodes", fn := fun _ => fun
  | [d] => { results := [.lit (.bool false)], args := [d] }
  | _ => none }
def ManageEncodesWrongFalsely : Prop := manageEncodesRow.holds Try.pinned (OpenSpec.ofChange manageEncodesWrong)

/-- 'airtimelaw15.ManageDecodes': WHATEVER THE INPUT: true; the input reads as it did. -/
def manageDecodesSpec : ChangeSpec := { name := "manageDecodes", fn := fun _ => fun
  | [d1, d2] => { results := [.lit (.bool true)], args := [d1, d2] }
  | _ => none }
def manageDecodesRow : OpenClaim := { program := "ytcpfkikifhcdmaa", sum := "5095aa3e6e65109f6606ca67e49115e005799e12d339e2149f53e8b7f4cfa705", func := "airtime/airtimelaw15.ManageDecodes", spec := "manageDecodes", apart := false }
def ManageDecodesSaid : Prop := manageDecodesRow.holds Try.pinned (OpenSpec.ofChange manageDecodesSpec)

/-- ITS FALSE NEIGHBOUR: 'it returns false'. Refute it at one input. -/
def manageDecodesWrong : ChangeSpec := { name := "manageDecodes", fn := fun _ => fun
  | [d1, d2] => { results := [.lit (.bool false)], args := [d1, d2] }
  | _ => none }
def ManageDecodesWrongFalsely : Prop := manageDecodesRow.holds Try.pinned (OpenSpec.ofChange manageDecodesWrong)

/-- 'airtimelaw15.ManageReads': WHATEVER THE INPUT: true; the input reads as it did. -/
def manageReadsSpec : ChangeSpec := { name := "manageReads", fn := fun _ => fun
  | [d1, d2] => { results := [.lit (.bool true)], args := [d1, d2] }
  | _ => none }
def manageReadsRow : OpenClaim := { program := "ytcpfkikifhcdmaa", sum := "5095aa3e6e65109f6606ca67e49115e005799e12d339e2149f53e8b7f4cfa705", func := "airtime/airtimelaw15.ManageReads", spec := "manageReads", apart := false }
def ManageReadsSaid : Prop := manageReadsRow.holds Try.pinned (OpenSpec.ofChange manageReadsSpec)

/-- ITS FALSE NEIGHBOUR: 'it returns false'. Refute it at one input. -/
def manageReadsWrong : ChangeSpec := { name := "manageReads", fn := fun _ => fun
  | [d1, d2] => { results := [.lit (.bool false)], args := [d1, d2] }
  | _ => none }
def ManageReadsWrongFalsely : Prop := manageReadsRow.holds Try.pinned (OpenSpec.ofChange manageReadsWrong)

/-- 'airtimelaw15.ManageExact': WHATEVER THE INPUT: true; the input reads as it did. -/
def manageExactSpec : ChangeSpec := { name := "manageExact", fn := fun _ => fun
  | [d1, d2] => { results := [.lit (.bool true)], args := [d1, d2] }
  | _ => none }
def manageExactRow : OpenClaim := { program := "ytcpfkikifhcdmaa", sum := "5095aa3e6e65109f6606ca67e49115e005799e12d339e2149f53e8b7f4cfa705", func := "airtime/airtimelaw15.ManageExact", spec := "manageExact", apart := false }
def ManageExactSaid : Prop := manageExactRow.holds Try.pinned (OpenSpec.ofChange manageExactSpec)

/-- ITS FALSE NEIGHBOUR: 'it returns false'. Refute it at one input. -/
def manageExactWrong : ChangeSpec := { name := "manageExact", fn := fun _ => fun
  | [d1, d2] => { results := [.lit (.bool false)], args := [d1, d2] }
  | _ => none }
def ManageExactWrongFalsely : Prop := manageExactRow.holds Try.pinned (OpenSpec.ofChange manageExactWrong)

/- THE SECOND FORM. 'bulk': how many values and letters a reading holds, each counted each time it is reached (what is shared counts as often as it is met; a slice's spare places count too). A statement '..UptoSaid' is the law's where the arguments, and the package variables that the reading takes, are together of bulk at most 1048576: NARROWER than '..Said'. Prove '..Said' where nothing that the law and all that it calls make is longer than what came in: it says more and counts as full. Else prove '..UptoSaid'. A law counts once. -/
mutual
def uptoBulk {H : Type} : DataW H → Nat
  | .lit (.string bytes) => bytes.length + 1
  | .lit _ => 1
  | .nil => 1
  | .ptr d => uptoBulk d + 1
  | .slice elems spare => uptoBulkAll elems + uptoBulkAll spare + 1
  | .agg parts => uptoBulkAll parts + 1
  | .iface _ d => uptoBulk d + 1
  | .map entries => uptoBulkEntries entries + 1
  | .held _ => 1
def uptoBulkAll {H : Type} : List (DataW H) → Nat
  | [] => 0
  | d :: r => uptoBulk d + uptoBulkAll r
def uptoBulkEntries {H : Type} : List (Lit × DataW H) → Nat
  | [] => 0
  | x :: r => uptoBulkEntry x + uptoBulkEntries r
def uptoBulkEntry {H : Type} : Lit × DataW H → Nat
  | (.string bytes, d) => bytes.length + uptoBulk d + 1
  | (_, d) => uptoBulk d + 1
 end
def uptoSmall : (H : Type) → List (DataW H) → Bool := fun _ ds => decide (uptoBulkAll ds ≤ 1048576)
def OpenSpec.upto (s : _root_.Go.ChangeSpec) : _root_.Go.OpenSpec := { _root_.Go.OpenSpec.ofChange s with cond := some uptoSmall }

/-- 'airtimelaw15.ManageEncodes', WHERE WHAT IT READS IS OF BULK AT MOST 1048576: true; the input reads as it did. -/
def manageEncodesUptoRow : OpenClaim := { program := "ytcpfkikifhcdmaa", sum := "5095aa3e6e65109f6606ca67e49115e005799e12d339e2149f53e8b7f4cfa705", func := "airtime/airtimelaw15.ManageEncodes", spec := "manageEncodes", apart := false, narrowed := true }
def ManageEncodesUptoSaid : Prop := manageEncodesUptoRow.holds Try.pinned (OpenSpec.upto manageEncodesSpec)

/-- 'airtimelaw15.ManageDecodes', WHERE WHAT IT READS IS OF BULK AT MOST 1048576: true; the input reads as it did. -/
def manageDecodesUptoRow : OpenClaim := { program := "ytcpfkikifhcdmaa", sum := "5095aa3e6e65109f6606ca67e49115e005799e12d339e2149f53e8b7f4cfa705", func := "airtime/airtimelaw15.ManageDecodes", spec := "manageDecodes", apart := false, narrowed := true }
def ManageDecodesUptoSaid : Prop := manageDecodesUptoRow.holds Try.pinned (OpenSpec.upto manageDecodesSpec)

/-- 'airtimelaw15.ManageReads', WHERE WHAT IT READS IS OF BULK AT MOST 1048576: true; the input reads as it did. -/
def manageReadsUptoRow : OpenClaim := { program := "ytcpfkikifhcdmaa", sum := "5095aa3e6e65109f6606ca67e49115e005799e12d339e2149f53e8b7f4cfa705", func := "airtime/airtimelaw15.ManageReads", spec := "manageReads", apart := false, narrowed := true }
def ManageReadsUptoSaid : Prop := manageReadsUptoRow.holds Try.pinned (OpenSpec.upto manageReadsSpec)

/-- 'airtimelaw15.ManageExact', WHERE WHAT IT READS IS OF BULK AT MOST 1048576: true; the input reads as it did. -/
def manageExactUptoRow : OpenClaim := { program := "ytcpfkikifhcdmaa", sum := "5095aa3e6e65109f6606ca67e49115e005799e12d339e2149f53e8b7f4cfa705", func := "airtime/airtimelaw15.ManageExact", spec := "manageExact", apart := false, narrowed := true }
def ManageExactUptoSaid : Prop := manageExactUptoRow.holds Try.pinned (OpenSpec.upto manageExactSpec)

end Rows
end Go.Proofs.Ytcpfkikifhcdmaa
