/-
  No cell of these rows narrows 'for every input' (looked for: loops, veiled, ifaces, maps, wideKeys, modest, calm, conditions, laid).
  DERIVED. THE GIVEN ROWS OF THIS SEAT. 5 by the template 'for every input the law returns true; each argument reads behind the call as it read before'; 0 by the template 'total and deterministic' (their statements: YtjpmjffamecddaaTotals.lean).
  GIVEN WITH THE SEED: the statements are not yours to turn. If you find one false, say at which input.
  Laid BY PROGRAM, IN A SANDBOX (cutbox-rows.mjs): the forced cells as the released guide's own fill.sh prints them over the translation 8a9b0c033d58a9c0… (all of the seat's roots in one cut). By AI agents, Wed Nov 11 2026. No macro, syntax, notation, axiom, sorry.
-/
import Derived.Test.YtjpmjffamecddaaChecked
import GoSem.Claim
import GoSem.ClaimJoined
import GoSem.ClaimMapViews
import Derived.JoinedTies
import Derived.KernelRfl
namespace Go.Proofs.Ytjpmjffamecddaa
/- THE CELL 'sum', in the pinned program and in every row, IS THE sha256 OF THE DUMP (.gsa) THAT YtjpmjffamecddaaProg.lean LOADS. Nothing in Lean hashes anything: it is a label: what it is worth is what the hold of that sum in a sandbox is worth. -/
noncomputable def Try.pinned : Pinned := { name := "ytjpmjffamecddaa", sum := "8a9b0c033d58a9c0c5ab4cb34e17a78845184e9bcd1a7e0cb05e46d483498dce", checked := Try.checked }
namespace Rows
def none {H : Type} : Left H := { results := [], args := [] }

/-- 'airtimelaw06.SequenceArithmetic': WHATEVER THE INPUT: true; the input reads as it did. -/
def sequenceArithmeticSpec : ChangeSpec := { name := "sequenceArithmetic", fn := fun _ => fun
  | [d1, d2] => { results := [.lit (.bool true)], args := [d1, d2] }
  | _ => none }
def sequenceArithmeticRow : OpenClaim := { program := "ytjpmjffamecddaa", sum := "8a9b0c033d58a9c0c5ab4cb34e17a78845184e9bcd1a7e0cb05e46d483498dce", func := "airtime/airtimelaw06.SequenceArithmetic", spec := "sequenceArithmetic", unfollowed := true, recurses := true, apart := false }
def SequenceArithmeticSaid : Prop := sequenceArithmeticRow.holds Try.pinned (OpenSpec.ofChange sequenceArithmeticSpec)

/-- ITS FALSE NEIGHBOUR: 'it returns false'. Refute it at one input. -/
def sequenceArithmeticWrong : ChangeSpec := { name := "sequenceArithmetic", fn := fun _ => fun
  | [d1, d2] => { results := [.lit (.bool false)], args := [d1, d2] }
  | _ => none }
def SequenceArithmeticWrongFalsely : Prop := sequenceArithmeticRow.holds Try.pinned (OpenSpec.ofChange sequenceArithmeticWrong)

/-- 'airtimelaw06.SequenceWindows': WHATEVER THE INPUT: true; the input reads as it did. -/
def sequenceWindowsSpec : ChangeSpec := { name := "sequenceWindows", fn := fun _ => fun
  | [d1, d2, d3] => { results := [.lit (.bool true)], args := [d1, d2, d3] }
  | _ => none }
def sequenceWindowsRow : OpenClaim := { program := "ytjpmjffamecddaa", sum := "8a9b0c033d58a9c0c5ab4cb34e17a78845184e9bcd1a7e0cb05e46d483498dce", func := "airtime/airtimelaw06.SequenceWindows", spec := "sequenceWindows", unfollowed := true, recurses := true, apart := false }
def SequenceWindowsSaid : Prop := sequenceWindowsRow.holds Try.pinned (OpenSpec.ofChange sequenceWindowsSpec)

/-- ITS FALSE NEIGHBOUR: 'it returns false'. Refute it at one input. -/
def sequenceWindowsWrong : ChangeSpec := { name := "sequenceWindows", fn := fun _ => fun
  | [d1, d2, d3] => { results := [.lit (.bool false)], args := [d1, d2, d3] }
  | _ => none }
def SequenceWindowsWrongFalsely : Prop := sequenceWindowsRow.holds Try.pinned (OpenSpec.ofChange sequenceWindowsWrong)

/-- 'airtimelaw06.SequenceOrder': WHATEVER THE INPUT: true; the input reads as it did. -/
def sequenceOrderSpec : ChangeSpec := { name := "sequenceOrder", fn := fun _ => fun
  | [d1, d2] => { results := [.lit (.bool true)], args := [d1, d2] }
  | _ => none }
def sequenceOrderRow : OpenClaim := { program := "ytjpmjffamecddaa", sum := "8a9b0c033d58a9c0c5ab4cb34e17a78845184e9bcd1a7e0cb05e46d483498dce", func := "airtime/airtimelaw06.SequenceOrder", spec := "sequenceOrder", unfollowed := true, recurses := true, apart := false }
def SequenceOrderSaid : Prop := sequenceOrderRow.holds Try.pinned (OpenSpec.ofChange sequenceOrderSpec)

/-- ITS FALSE NEIGHBOUR: 'it returns false'. Refute it at one input. -/
def sequenceOrderWrong : ChangeSpec := { name := "sequenceOrder", fn := fun _ => fun
  | [d1, d2] => { results := [.lit (.bool false)], args := [d1, d2] }
  | _ => none }
def SequenceOrderWrongFalsely : Prop := sequenceOrderRow.holds Try.pinned (OpenSpec.ofChange sequenceOrderWrong)

/-- 'airtimelaw06.SequenceShifts': WHATEVER THE INPUT: true; the input reads as it did. -/
def sequenceShiftsSpec : ChangeSpec := { name := "sequenceShifts", fn := fun _ => fun
  | [d1, d2, d3] => { results := [.lit (.bool true)], args := [d1, d2, d3] }
  | _ => none }
def sequenceShiftsRow : OpenClaim := { program := "ytjpmjffamecddaa", sum := "8a9b0c033d58a9c0c5ab4cb34e17a78845184e9bcd1a7e0cb05e46d483498dce", func := "airtime/airtimelaw06.SequenceShifts", spec := "sequenceShifts", unfollowed := true, recurses := true, apart := false }
def SequenceShiftsSaid : Prop := sequenceShiftsRow.holds Try.pinned (OpenSpec.ofChange sequenceShiftsSpec)

/-- ITS FALSE NEIGHBOUR: 'it returns false'. Refute it at one input. -/
def sequenceShiftsWrong : ChangeSpec := { name := "sequenceShifts", fn := fun _ => fun
  | [d1, d2, d3] => { results := [.lit (.bool false)], args := [d1, d2, d3] }
  | _ => none }
def SequenceShiftsWrongFalsely : Prop := sequenceShiftsRow.holds Try.pinned (OpenSpec.ofChange sequenceShiftsWrong)

/-- 'airtimelaw06.SequenceMembers': WHATEVER THE INPUT: true; the input reads as it did. -/
def sequenceMembersSpec : ChangeSpec := { name := "sequenceMembers", fn := fun _ => fun
  | [d1, d2, d3] => { results := [.lit (.bool true)], args := [d1, d2, d3] }
  | _ => none }
def sequenceMembersRow : OpenClaim := { program := "ytjpmjffamecddaa", sum := "8a9b0c033d58a9c0c5ab4cb34e17a78845184e9bcd1a7e0cb05e46d483498dce", func := "airtime/airtimelaw06.SequenceMembers", spec := "sequenceMembers", unfollowed := true, recurses := true, apart := false }
def SequenceMembersSaid : Prop := sequenceMembersRow.holds Try.pinned (OpenSpec.ofChange sequenceMembersSpec)

/-- ITS FALSE NEIGHBOUR: 'it returns false'. Refute it at one input. -/
def sequenceMembersWrong : ChangeSpec := { name := "sequenceMembers", fn := fun _ => fun
  | [d1, d2, d3] => { results := [.lit (.bool false)], args := [d1, d2, d3] }
  | _ => none }
def SequenceMembersWrongFalsely : Prop := sequenceMembersRow.holds Try.pinned (OpenSpec.ofChange sequenceMembersWrong)

/- THE SECOND FORM. 'bulk': how many values and letters a reading holds, each counted each time it is reached (what is shared counts as often as it is met; a slice's spare places count too). A statement '..UptoSaid' is the law's where the arguments, and the package variables that the reading takes, are together of bulk at most 1048576: NARROWER than '..Said'. Prove '..Said' where nothing that the law and all that it calls make is longer than what came in: it says more and counts as full. Else prove '..UptoSaid'. A law counts once. -/
mutual
def uptoBulk {H : Type} : DataW H → Nat
  | .lit (.string bytes) => bytes.length + 1
  | .lit _ => 1
  | .nil => 1
  | .ptr d => uptoBulk d + 1
  | .slice elems spare => uptoBulkAll elems + uptoBulkAll spare + 1
  | .agg parts => uptoBulkAll parts + 1
  | .iface _ d => uptoBulk d + 1
  | .map entries => uptoBulkEntries entries + 1
  | .held _ => 1
def uptoBulkAll {H : Type} : List (DataW H) → Nat
  | [] => 0
  | d :: r => uptoBulk d + uptoBulkAll r
def uptoBulkEntries {H : Type} : List (Lit × DataW H) → Nat
  | [] => 0
  | x :: r => uptoBulkEntry x + uptoBulkEntries r
def uptoBulkEntry {H : Type} : Lit × DataW H → Nat
  | (.string bytes, d) => bytes.length + uptoBulk d + 1
  | (_, d) => uptoBulk d + 1
 end
def uptoSmall : (H : Type) → List (DataW H) → Bool := fun _ ds => decide (uptoBulkAll ds ≤ 1048576)
def OpenSpec.upto (s : _root_.Go.ChangeSpec) : _root_.Go.OpenSpec := { _root_.Go.OpenSpec.ofChange s with cond := some uptoSmall }

/-- 'airtimelaw06.SequenceArithmetic', WHERE WHAT IT READS IS OF BULK AT MOST 1048576: true; the input reads as it did. -/
def sequenceArithmeticUptoRow : OpenClaim := { program := "ytjpmjffamecddaa", sum := "8a9b0c033d58a9c0c5ab4cb34e17a78845184e9bcd1a7e0cb05e46d483498dce", func := "airtime/airtimelaw06.SequenceArithmetic", spec := "sequenceArithmetic", unfollowed := true, recurses := true, apart := false, narrowed := true }
def SequenceArithmeticUptoSaid : Prop := sequenceArithmeticUptoRow.holds Try.pinned (OpenSpec.upto sequenceArithmeticSpec)

/-- 'airtimelaw06.SequenceWindows', WHERE WHAT IT READS IS OF BULK AT MOST 1048576: true; the input reads as it did. -/
def sequenceWindowsUptoRow : OpenClaim := { program := "ytjpmjffamecddaa", sum := "8a9b0c033d58a9c0c5ab4cb34e17a78845184e9bcd1a7e0cb05e46d483498dce", func := "airtime/airtimelaw06.SequenceWindows", spec := "sequenceWindows", unfollowed := true, recurses := true, apart := false, narrowed := true }
def SequenceWindowsUptoSaid : Prop := sequenceWindowsUptoRow.holds Try.pinned (OpenSpec.upto sequenceWindowsSpec)

/-- 'airtimelaw06.SequenceOrder', WHERE WHAT IT READS IS OF BULK AT MOST 1048576: true; the input reads as it did. -/
def sequenceOrderUptoRow : OpenClaim := { program := "ytjpmjffamecddaa", sum := "8a9b0c033d58a9c0c5ab4cb34e17a78845184e9bcd1a7e0cb05e46d483498dce", func := "airtime/airtimelaw06.SequenceOrder", spec := "sequenceOrder", unfollowed := true, recurses := true, apart := false, narrowed := true }
def SequenceOrderUptoSaid : Prop := sequenceOrderUptoRow.holds Try.pinned (OpenSpec.upto sequenceOrderSpec)

/-- 'airtimelaw06.SequenceShifts', WHERE WHAT IT READS IS OF BULK AT MOST 1048576: true; the input reads as it did. -/
def sequenceShiftsUptoRow : OpenClaim := { program := "ytjpmjffamecddaa", sum := "8a9b0c033d58a9c0c5ab4cb34e17a78845184e9bcd1a7e0cb05e46d483498dce", func := "airtime/airtimelaw06.SequenceShifts", spec := "sequenceShifts", unfollowed := true, recurses := true, apart := false, narrowed := true }
def SequenceShiftsUptoSaid : Prop := sequenceShiftsUptoRow.holds Try.pinned (OpenSpec.upto sequenceShiftsSpec)

/-- 'airtimelaw06.SequenceMembers', WHERE WHAT IT READS IS OF BULK AT MOST 1048576: true; the input reads as it did. -/
def sequenceMembersUptoRow : OpenClaim := { program := "ytjpmjffamecddaa", sum := "8a9b0c033d58a9c0c5ab4cb34e17a78845184e9bcd1a7e0cb05e46d483498dce", func := "airtime/airtimelaw06.SequenceMembers", spec := "sequenceMembers", unfollowed := true, recurses := true, apart := false, narrowed := true }
def SequenceMembersUptoSaid : Prop := sequenceMembersUptoRow.holds Try.pinned (OpenSpec.upto sequenceMembersSpec)

end Rows
end Go.Proofs.Ytjpmjffamecddaa
