/-
  No cell of these rows narrows 'for every input' (looked for: loops, veiled, ifaces, maps, wideKeys, modest, calm, conditions, laid).
  DERIVED. THE GIVEN ROWS OF THIS SEAT. 5 by the template 'for every input the law returns true; each argument reads behind the call as it read before'; 0 by the template 'total and deterministic' (their statements: YtjfhkheedcpimaaTotals.lean).
  GIVEN WITH THE SEED: the statements are not yours to turn. If you find one false, say at which input.
  Laid BY PROGRAM, IN A SANDBOX (cutbox-rows.mjs): the forced cells as the released guide's own fill.sh prints them over the translation a1d49d0ff0b17964… (all of the seat's roots in one cut). By AI agents, Wed Nov 11 2026. No macro, syntax, notation, axiom, sorry.
-/
import Derived.Test.YtjfhkheedcpimaaChecked
import GoSem.Claim
import GoSem.ClaimJoined
import GoSem.ClaimMapViews
import Derived.JoinedTies
import Derived.KernelRfl
namespace Go.Proofs.Ytjfhkheedcpimaa
/- THE CELL 'sum', in the pinned program and in every row, IS THE sha256 OF THE DUMP (.gsa) THAT YtjfhkheedcpimaaProg.lean LOADS. Nothing in Lean hashes anything: it is a label: what it is worth is what the hold of that sum in a sandbox is worth. -/
noncomputable def Try.pinned : Pinned := { name := "ytjfhkheedcpimaa", sum := "a1d49d0ff0b17964a553ca12b6771e9fec9cd09d81a85d6a08ea99686366b2ee", checked := Try.checked }
namespace Rows
def none {H : Type} : Left H := { results := [], args := [] }

/-- 'airtimelaw07.SpansOne': WHATEVER THE INPUT: true; the input reads as it did. -/
def spansOneSpec : ChangeSpec := { name := "spansOne", fn := fun _ => fun
  | [d1, d2, d3] => { results := [.lit (.bool true)], args := [d1, d2, d3] }
  | _ => none }
def spansOneRow : OpenClaim := { program := "ytjfhkheedcpimaa", sum := "a1d49d0ff0b17964a553ca12b6771e9fec9cd09d81a85d6a08ea99686366b2ee", func := "airtime/airtimelaw07.SpansOne", spec := "spansOne", unfollowed := true, recurses := true, apart := false }
def SpansOneSaid : Prop := spansOneRow.holds Try.pinned (OpenSpec.ofChange spansOneSpec)

/-- ITS FALSE NEIGHBOUR: 'it returns false'. Refute it at one input. -/
def spansOneWrong : ChangeSpec := { name := "spansOne", fn := fun _ => fun
  | [d1, d2, d3] => { results := [.lit (.bool false)], args := [d1, d2, d3] }
  | _ => none }
def SpansOneWrongFalsely : Prop := spansOneRow.holds Try.pinned (OpenSpec.ofChange spansOneWrong)

/-- 'airtimelaw07.SpansUnions': WHATEVER THE INPUT: true; the input reads as it did. -/
def spansUnionsSpec : ChangeSpec := { name := "spansUnions", fn := fun _ => fun
  | [d1, d2] => { results := [.lit (.bool true)], args := [d1, d2] }
  | _ => none }
def spansUnionsRow : OpenClaim := { program := "ytjfhkheedcpimaa", sum := "a1d49d0ff0b17964a553ca12b6771e9fec9cd09d81a85d6a08ea99686366b2ee", func := "airtime/airtimelaw07.SpansUnions", spec := "spansUnions", unfollowed := true, recurses := true, apart := false }
def SpansUnionsSaid : Prop := spansUnionsRow.holds Try.pinned (OpenSpec.ofChange spansUnionsSpec)

/-- ITS FALSE NEIGHBOUR: 'it returns false'. Refute it at one input. -/
def spansUnionsWrong : ChangeSpec := { name := "spansUnions", fn := fun _ => fun
  | [d1, d2] => { results := [.lit (.bool false)], args := [d1, d2] }
  | _ => none }
def SpansUnionsWrongFalsely : Prop := spansUnionsRow.holds Try.pinned (OpenSpec.ofChange spansUnionsWrong)

/-- 'airtimelaw07.SpansNext': WHATEVER THE INPUT: true; the input reads as it did. -/
def spansNextSpec : ChangeSpec := { name := "spansNext", fn := fun _ => fun
  | [d1, d2, d3] => { results := [.lit (.bool true)], args := [d1, d2, d3] }
  | _ => none }
def spansNextRow : OpenClaim := { program := "ytjfhkheedcpimaa", sum := "a1d49d0ff0b17964a553ca12b6771e9fec9cd09d81a85d6a08ea99686366b2ee", func := "airtime/airtimelaw07.SpansNext", spec := "spansNext", unfollowed := true, recurses := true, apart := false }
def SpansNextSaid : Prop := spansNextRow.holds Try.pinned (OpenSpec.ofChange spansNextSpec)

/-- ITS FALSE NEIGHBOUR: 'it returns false'. Refute it at one input. -/
def spansNextWrong : ChangeSpec := { name := "spansNext", fn := fun _ => fun
  | [d1, d2, d3] => { results := [.lit (.bool false)], args := [d1, d2, d3] }
  | _ => none }
def SpansNextWrongFalsely : Prop := spansNextRow.holds Try.pinned (OpenSpec.ofChange spansNextWrong)

/-- 'airtimelaw07.SpansTile': WHATEVER THE INPUT: true; the input reads as it did. -/
def spansTileSpec : ChangeSpec := { name := "spansTile", fn := fun _ => fun
  | [d1, d2, d3] => { results := [.lit (.bool true)], args := [d1, d2, d3] }
  | _ => none }
def spansTileRow : OpenClaim := { program := "ytjfhkheedcpimaa", sum := "a1d49d0ff0b17964a553ca12b6771e9fec9cd09d81a85d6a08ea99686366b2ee", func := "airtime/airtimelaw07.SpansTile", spec := "spansTile", unfollowed := true, recurses := true, apart := false }
def SpansTileSaid : Prop := spansTileRow.holds Try.pinned (OpenSpec.ofChange spansTileSpec)

/-- ITS FALSE NEIGHBOUR: 'it returns false'. Refute it at one input. -/
def spansTileWrong : ChangeSpec := { name := "spansTile", fn := fun _ => fun
  | [d1, d2, d3] => { results := [.lit (.bool false)], args := [d1, d2, d3] }
  | _ => none }
def SpansTileWrongFalsely : Prop := spansTileRow.holds Try.pinned (OpenSpec.ofChange spansTileWrong)

/-- 'airtimelaw07.SpansAgain': WHATEVER THE INPUT: true; the input reads as it did. -/
def spansAgainSpec : ChangeSpec := { name := "spansAgain", fn := fun _ => fun
  | [d] => { results := [.lit (.bool true)], args := [d] }
  | _ => none }
def spansAgainRow : OpenClaim := { program := "ytjfhkheedcpimaa", sum := "a1d49d0ff0b17964a553ca12b6771e9fec9cd09d81a85d6a08ea99686366b2ee", func := "airtime/airtimelaw07.SpansAgain", spec := "spansAgain", unfollowed := true, recurses := true, apart := false }
def SpansAgainSaid : Prop := spansAgainRow.holds Try.pinned (OpenSpec.ofChange spansAgainSpec)

/-- ITS FALSE NEIGHBOUR: 'it returns false'. Refute it at one input. -/
def spansAgainWrong : ChangeSpec := { name := "spansAgain", fn := fun _ => fun
  | [d] => { results := [.lit (.bool false)], args := [d] }
  | _ => none }
def SpansAgainWrongFalsely : Prop := spansAgainRow.holds Try.pinned (OpenSpec.ofChange spansAgainWrong)

/- THE SECOND FORM. 'bulk': how many values and letters a reading holds, each counted each time it is reached (what is shared counts as often as it is met; a slice's spare places count too). A statement '..UptoSaid' is the law's where the arguments, and the package variables that the reading takes, are together of bulk at most 1048576: NARROWER than '..Said'. Prove '..Said' where nothing that the law and all that it calls make is longer than what came in: it says more and counts as full. Else prove '..UptoSaid'. A law counts once. -/
mutual
def uptoBulk {H : Type} : DataW H → Nat
  | .lit (.string bytes) => bytes.length + 1
  | .lit _ => 1
  | .nil => 1
  | .ptr d => uptoBulk d + 1
  | .slice elems spare => uptoBulkAll elems + uptoBulkAll spare + 1
  | .agg parts => uptoBulkAll parts + 1
  | .iface _ d => uptoBulk d + 1
  | .map entries => uptoBulkEntries entries + 1
  | .held _ => 1
def uptoBulkAll {H : Type} : List (DataW H) → Nat
  | [] => 0
  | d :: r => uptoBulk d + uptoBulkAll r
def uptoBulkEntries {H : Type} : List (Lit × DataW H) → Nat
  | [] => 0
  | x :: r => uptoBulkEntry x + uptoBulkEntries r
def uptoBulkEntry {H : Type} : Lit × DataW H → Nat
  | (.string bytes, d) => bytes.length + uptoBulk d + 1
  | (_, d) => uptoBulk d + 1
 end
def uptoSmall : (H : Type) → List (DataW H) → Bool := fun _ ds => decide (uptoBulkAll ds ≤ 1048576)
def OpenSpec.upto (s : _root_.Go.ChangeSpec) : _root_.Go.OpenSpec := { _root_.Go.OpenSpec.ofChange s with cond := some uptoSmall }

/-- 'airtimelaw07.SpansOne', WHERE WHAT IT READS IS OF BULK AT MOST 1048576: true; the input reads as it did. -/
def spansOneUptoRow : OpenClaim := { program := "ytjfhkheedcpimaa", sum := "a1d49d0ff0b17964a553ca12b6771e9fec9cd09d81a85d6a08ea99686366b2ee", func := "airtime/airtimelaw07.SpansOne", spec := "spansOne", unfollowed := true, recurses := true, apart := false, narrowed := true }
def SpansOneUptoSaid : Prop := spansOneUptoRow.holds Try.pinned (OpenSpec.upto spansOneSpec)

/-- 'airtimelaw07.SpansUnions', WHERE WHAT IT READS IS OF BULK AT MOST 1048576: true; the input reads as it did. -/
def spansUnionsUptoRow : OpenClaim := { program := "ytjfhkheedcpimaa", sum := "a1d49d0ff0b17964a553ca12b6771e9fec9cd09d81a85d6a08ea99686366b2ee", func := "airtime/airtimelaw07.SpansUnions", spec := "spansUnions", unfollowed := true, recurses := true, apart := false, narrowed := true }
def SpansUnionsUptoSaid : Prop := spansUnionsUptoRow.holds Try.pinned (OpenSpec.upto spansUnionsSpec)

/-- 'airtimelaw07.SpansNext', WHERE WHAT IT READS IS OF BULK AT MOST 1048576: true; the input reads as it did. -/
def spansNextUptoRow : OpenClaim := { program := "ytjfhkheedcpimaa", sum := "a1d49d0ff0b17964a553ca12b6771e9fec9cd09d81a85d6a08ea99686366b2ee", func := "airtime/airtimelaw07.SpansNext", spec := "spansNext", unfollowed := true, recurses := true, apart := false, narrowed := true }
def SpansNextUptoSaid : Prop := spansNextUptoRow.holds Try.pinned (OpenSpec.upto spansNextSpec)

/-- 'airtimelaw07.SpansTile', WHERE WHAT IT READS IS OF BULK AT MOST 1048576: true; the input reads as it did. -/
def spansTileUptoRow : OpenClaim := { program := "ytjfhkheedcpimaa", sum := "a1d49d0ff0b17964a553ca12b6771e9fec9cd09d81a85d6a08ea99686366b2ee", func := "airtime/airtimelaw07.SpansTile", spec := "spansTile", unfollowed := true, recurses := true, apart := false, narrowed := true }
def SpansTileUptoSaid : Prop := spansTileUptoRow.holds Try.pinned (OpenSpec.upto spansTileSpec)

/-- 'airtimelaw07.SpansAgain', WHERE WHAT IT READS IS OF BULK AT MOST 1048576: true; the input reads as it did. -/
def spansAgainUptoRow : OpenClaim := { program := "ytjfhkheedcpimaa", sum := "a1d49d0ff0b17964a553ca12b6771e9fec9cd09d81a85d6a08ea99686366b2ee", func := "airtime/airtimelaw07.SpansAgain", spec := "spansAgain", unfollowed := true, recurses := true, apart := false, narrowed := true }
def SpansAgainUptoSaid : Prop := spansAgainUptoRow.holds Try.pinned (OpenSpec.upto spansAgainSpec)

end Rows
end Go.Proofs.Ytjfhkheedcpimaa
