/-
  No cell of these rows narrows 'for every input' (looked for: loops, veiled, ifaces, maps, wideKeys, modest, calm, conditions, laid).
  DERIVED. THE GIVEN ROWS OF THIS SEAT. 5 by the template 'for every input the law returns true; each argument reads behind the call as it read before'; 0 by the template 'total and deterministic' (their statements: YtacjdgglfeemcaaTotals.lean).
  GIVEN WITH THE SEED: the statements are not yours to turn. If you find one false, say at which input.
  Laid BY PROGRAM, IN A SANDBOX (cutbox-rows.mjs): the forced cells as the released guide's own fill.sh prints them over the translation b99a3a6f4747d7d9… (all of the seat's roots in one cut). By AI agents, Wed Nov 11 2026. No macro, syntax, notation, axiom, sorry.
-/
import Derived.Test.YtacjdgglfeemcaaChecked
import GoSem.Claim
import GoSem.ClaimJoined
import GoSem.ClaimMapViews
import Derived.JoinedTies
import Derived.KernelRfl
namespace Go.Proofs.Ytacjdgglfeemcaa
/- THE CELL 'sum', in the pinned program and in every row, IS THE sha256 OF THE DUMP (.gsa) THAT YtacjdgglfeemcaaProg.lean LOADS. Nothing in Lean hashes anything: it is a label: what it is worth is what the hold of that sum in a sandbox is worth. -/
noncomputable def Try.pinned : Pinned := { name := "ytacjdgglfeemcaa", sum := "b99a3a6f4747d7d9d9da9f035c39b7d5ccb0123087aa2b52f2a6b10abf9bc311", checked := Try.checked }
namespace Rows
def none {H : Type} : Left H := { results := [], args := [] }

/-- 'airtimelaw19.HistoryNotes': WHATEVER THE INPUT: true; the input reads as it did. -/
def historyNotesSpec : ChangeSpec := { name := "historyNotes", fn := fun _ => fun
  | [d1, d2, d3] => { results := [.lit (.bool true)], args := [d1, d2, d3] }
  | _ => none }
def historyNotesRow : OpenClaim := { program := "ytacjdgglfeemcaa", sum := "b99a3a6f4747d7d9d9da9f035c39b7d5ccb0123087aa2b52f2a6b10abf9bc311", func := "airtime/airtimelaw19.HistoryNotes", spec := "historyNotes", unfollowed := true, recurses := true, apart := false }
def HistoryNotesSaid : Prop := historyNotesRow.holds Try.pinned (OpenSpec.ofChange historyNotesSpec)

/-- ITS FALSE NEIGHBOUR: 'it returns false'. Refute it at one input. -/
def historyNotesWrong : ChangeSpec := { name := "historyNotes", fn := fun _ => fun
  | [d1, d2, d3] => { results := [.lit (.bool false)], args := [d1, d2, d3] }
  | _ => none }
def HistoryNotesWrongFalsely : Prop := historyNotesRow.holds Try.pinned (OpenSpec.ofChange historyNotesWrong)

/-- 'airtimelaw19.HistoryDetects': WHATEVER THE INPUT: true; the input reads as it did. -/
def historyDetectsSpec : ChangeSpec := { name := "historyDetects", fn := fun _ => fun
  | [d] => { results := [.lit (.bool true)], args := [d] }
  | _ => none }
def historyDetectsRow : OpenClaim := { program := "ytacjdgglfeemcaa", sum := "b99a3a6f4747d7d9d9da9f035c39b7d5ccb0123087aa2b52f2a6b10abf9bc311", func := "airtime/airtimelaw19.HistoryDetects", spec := "historyDetects", unfollowed := true, recurses := true, apart := false }
def HistoryDetectsSaid : Prop := historyDetectsRow.holds Try.pinned (OpenSpec.ofChange historyDetectsSpec)

/-- ITS FALSE NEIGHBOUR: 'it returns false'. Refute it at one input. -/
def historyDetectsWrong : ChangeSpec := { name := "historyDetects", fn := fun _ => fun
  | [d] => { results := [.lit (.bool false)], args := [d] }
  | _ => none }
def HistoryDetectsWrongFalsely : Prop := historyDetectsRow.holds Try.pinned (OpenSpec.ofChange historyDetectsWrong)

/-- 'airtimelaw19.HistoryTables': WHATEVER THE INPUT: true; the input reads as it did. -/
def historyTablesSpec : ChangeSpec := { name := "historyTables", fn := fun _ => fun
  | [d1, d2, d3] => { results := [.lit (.bool true)], args := [d1, d2, d3] }
  | _ => none }
def historyTablesRow : OpenClaim := { program := "ytacjdgglfeemcaa", sum := "b99a3a6f4747d7d9d9da9f035c39b7d5ccb0123087aa2b52f2a6b10abf9bc311", func := "airtime/airtimelaw19.HistoryTables", spec := "historyTables", unfollowed := true, recurses := true, apart := false }
def HistoryTablesSaid : Prop := historyTablesRow.holds Try.pinned (OpenSpec.ofChange historyTablesSpec)

/-- ITS FALSE NEIGHBOUR: 'it returns false'. Refute it at one input. -/
def historyTablesWrong : ChangeSpec := { name := "historyTables", fn := fun _ => fun
  | [d1, d2, d3] => { results := [.lit (.bool false)], args := [d1, d2, d3] }
  | _ => none }
def HistoryTablesWrongFalsely : Prop := historyTablesRow.holds Try.pinned (OpenSpec.ofChange historyTablesWrong)

/-- 'airtimelaw19.HistoryApart': WHATEVER THE INPUT: true; the input reads as it did. -/
def historyApartSpec : ChangeSpec := { name := "historyApart", fn := fun _ => fun
  | [d1, d2, d3] => { results := [.lit (.bool true)], args := [d1, d2, d3] }
  | _ => none }
def historyApartRow : OpenClaim := { program := "ytacjdgglfeemcaa", sum := "b99a3a6f4747d7d9d9da9f035c39b7d5ccb0123087aa2b52f2a6b10abf9bc311", func := "airtime/airtimelaw19.HistoryApart", spec := "historyApart", unfollowed := true, recurses := true, apart := false }
def HistoryApartSaid : Prop := historyApartRow.holds Try.pinned (OpenSpec.ofChange historyApartSpec)

/-- ITS FALSE NEIGHBOUR: 'it returns false'. Refute it at one input. -/
def historyApartWrong : ChangeSpec := { name := "historyApart", fn := fun _ => fun
  | [d1, d2, d3] => { results := [.lit (.bool false)], args := [d1, d2, d3] }
  | _ => none }
def HistoryApartWrongFalsely : Prop := historyApartRow.holds Try.pinned (OpenSpec.ofChange historyApartWrong)

/-- 'airtimelaw19.HistoryNil': WHATEVER THE INPUT: true; the input reads as it did. -/
def historyNilSpec : ChangeSpec := { name := "historyNil", fn := fun _ => fun
  | [d1, d2, d3] => { results := [.lit (.bool true)], args := [d1, d2, d3] }
  | _ => none }
def historyNilRow : OpenClaim := { program := "ytacjdgglfeemcaa", sum := "b99a3a6f4747d7d9d9da9f035c39b7d5ccb0123087aa2b52f2a6b10abf9bc311", func := "airtime/airtimelaw19.HistoryNil", spec := "historyNil", unfollowed := true, recurses := true, apart := false }
def HistoryNilSaid : Prop := historyNilRow.holds Try.pinned (OpenSpec.ofChange historyNilSpec)

/-- ITS FALSE NEIGHBOUR: 'it returns false'. Refute it at one input. -/
def historyNilWrong : ChangeSpec := { name := "historyNil", fn := fun _ => fun
  | [d1, d2, d3] => { results := [.lit (.bool false)], args := [d1, d2, d3] }
  | _ => none }
def HistoryNilWrongFalsely : Prop := historyNilRow.holds Try.pinned (OpenSpec.ofChange historyNilWrong)

/- THE SECOND FORM. 'bulk': how many values and letters a reading holds, each counted each time it is reached (what is shared counts as often as it is met; a slice's spare places count too). A statement '..UptoSaid' is the law's where the arguments, and the package variables that the reading takes, are together of bulk at most 1048576: NARROWER than '..Said'. Prove '..Said' where nothing that the law and all that it calls make is longer than what came in: it says more and counts as full. Else prove '..UptoSaid'. A law counts once. -/
mutual
def uptoBulk {H : Type} : DataW H → Nat
  | .lit (.string bytes) => bytes.length + 1
  | .lit _ => 1
  | .nil => 1
  | .ptr d => uptoBulk d + 1
  | .slice elems spare => uptoBulkAll elems + uptoBulkAll spare + 1
  | .agg parts => uptoBulkAll parts + 1
  | .iface _ d => uptoBulk d + 1
  | .map entries => uptoBulkEntries entries + 1
  | .held _ => 1
def uptoBulkAll {H : Type} : List (DataW H) → Nat
  | [] => 0
  | d :: r => uptoBulk d + uptoBulkAll r
def uptoBulkEntries {H : Type} : List (Lit × DataW H) → Nat
  | [] => 0
  | x :: r => uptoBulkEntry x + uptoBulkEntries r
def uptoBulkEntry {H : Type} : Lit × DataW H → Nat
  | (.string bytes, d) => bytes.length + uptoBulk d + 1
  | (_, d) => uptoBulk d + 1
 end
def uptoSmall : (H : Type) → List (DataW H) → Bool := fun _ ds => decide (uptoBulkAll ds ≤ 1048576)
def OpenSpec.upto (s : _root_.Go.ChangeSpec) : _root_.Go.OpenSpec := { _root_.Go.OpenSpec.ofChange s with cond := some uptoSmall }

/-- 'airtimelaw19.HistoryNotes', WHERE WHAT IT READS IS OF BULK AT MOST 1048576: true; the input reads as it did. -/
def historyNotesUptoRow : OpenClaim := { program := "ytacjdgglfeemcaa", sum := "b99a3a6f4747d7d9d9da9f035c39b7d5ccb0123087aa2b52f2a6b10abf9bc311", func := "airtime/airtimelaw19.HistoryNotes", spec := "historyNotes", unfollowed := true, recurses := true, apart := false, narrowed := true }
def HistoryNotesUptoSaid : Prop := historyNotesUptoRow.holds Try.pinned (OpenSpec.upto historyNotesSpec)

/-- 'airtimelaw19.HistoryDetects', WHERE WHAT IT READS IS OF BULK AT MOST 1048576: true; the input reads as it did. -/
def historyDetectsUptoRow : OpenClaim := { program := "ytacjdgglfeemcaa", sum := "b99a3a6f4747d7d9d9da9f035c39b7d5ccb0123087aa2b52f2a6b10abf9bc311", func := "airtime/airtimelaw19.HistoryDetects", spec := "historyDetects", unfollowed := true, recurses := true, apart := false, narrowed := true }
def HistoryDetectsUptoSaid : Prop := historyDetectsUptoRow.holds Try.pinned (OpenSpec.upto historyDetectsSpec)

/-- 'airtimelaw19.HistoryTables', WHERE WHAT IT READS IS OF BULK AT MOST 1048576: true; the input reads as it did. -/
def historyTablesUptoRow : OpenClaim := { program := "ytacjdgglfeemcaa", sum := "b99a3a6f4747d7d9d9da9f035c39b7d5ccb0123087aa2b52f2a6b10abf9bc311", func := "airtime/airtimelaw19.HistoryTables", spec := "historyTables", unfollowed := true, recurses := true, apart := false, narrowed := true }
def HistoryTablesUptoSaid : Prop := historyTablesUptoRow.holds Try.pinned (OpenSpec.upto historyTablesSpec)

/-- 'airtimelaw19.HistoryApart', WHERE WHAT IT READS IS OF BULK AT MOST 1048576: true; the input reads as it did. -/
def historyApartUptoRow : OpenClaim := { program := "ytacjdgglfeemcaa", sum := "b99a3a6f4747d7d9d9da9f035c39b7d5ccb0123087aa2b52f2a6b10abf9bc311", func := "airtime/airtimelaw19.HistoryApart", spec := "historyApart", unfollowed := true, recurses := true, apart := false, narrowed := true }
def HistoryApartUptoSaid : Prop := historyApartUptoRow.holds Try.pinned (OpenSpec.upto historyApartSpec)

/-- 'airtimelaw19.HistoryNil', WHERE WHAT IT READS IS OF BULK AT MOST 1048576: true; the input reads as it did. -/
def historyNilUptoRow : OpenClaim := { program := "ytacjdgglfeemcaa", sum := "b99a3a6f4747d7d9d9da9f035c39b7d5ccb0123087aa2b52f2a6b10abf9bc311", func := "airtime/airtimelaw19.HistoryNil", spec := "historyNil", unfollowed := true, recurses := true, apart := false, narrowed := true }
def HistoryNilUptoSaid : Prop := historyNilUptoRow.holds Try.pinned (OpenSpec.upto historyNilSpec)

end Rows
end Go.Proofs.Ytacjdgglfeemcaa
