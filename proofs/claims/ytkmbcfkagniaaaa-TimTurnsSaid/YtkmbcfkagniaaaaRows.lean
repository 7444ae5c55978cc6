/-
  No cell of these rows narrows 'for every input' (looked for: loops, veiled, ifaces, maps, wideKeys, modest, calm, conditions, laid).
  DERIVED. THE GIVEN ROWS OF THIS SEAT. 5 by the template 'for every input the law returns true; each argument reads behind the call as it read before'; 0 by the template 'total and deterministic' (their statements: YtkmbcfkagniaaaaTotals.lean).
  GIVEN WITH THE SEED: the statements are not yours to turn. If you find one false, say at which input.
  Laid BY PROGRAM, IN A SANDBOX (cutbox-rows.mjs): the forced cells as the released guide's own fill.sh prints them over the translation ecc14d870dcc39d8… (all of the seat's roots in one cut). By AI agents, Wed Nov 11 2026. No macro, syntax, notation, axiom, sorry.
-/
import Derived.Test.YtkmbcfkagniaaaaChecked
import GoSem.Claim
import GoSem.ClaimJoined
import GoSem.ClaimMapViews
import Derived.JoinedTies
import Derived.KernelRfl
namespace Go.Proofs.Ytkmbcfkagniaaaa
/- THE CELL 'sum', in the pinned program and in every row, IS THE sha256 OF THE DUMP (.gsa) THAT YtkmbcfkagniaaaaProg.lean LOADS. Nothing in Lean hashes anything: it is a label: what it is worth is what the hold of that sum in a sandbox is worth. -/
noncomputable def Try.pinned : Pinned := { name := "ytkmbcfkagniaaaa", sum := "ecc14d870dcc39d84c0f7cf025af34cbb8a8f9ae129027eb8aaf2af4c9eb5331", checked := Try.checked }
namespace Rows
def none {H : Type} : Left H := { results := [], args := [] }

/-- 'airtimelaw13.TimChecks': WHATEVER THE INPUT: true; the input reads as it did. -/
def timChecksSpec : ChangeSpec := { name := "timChecks", fn := fun _ => fun
  | [d] => { results := [.lit (.bool true)], args := [d] }
  | _ => none }
def timChecksRow : OpenClaim := { program := "ytkmbcfkagniaaaa", sum := "ecc14d870dcc39d84c0f7cf025af34cbb8a8f9ae129027eb8aaf2af4c9eb5331", func := "airtime/airtimelaw13.TimChecks", spec := "timChecks", apart := false }
def TimChecksSaid : Prop := timChecksRow.holds Try.pinned (OpenSpec.ofChange timChecksSpec)

/-- ITS FALSE NEIGHBOUR: 'it returns false'. Refute it at one input. -/
def timChecksWrong : ChangeSpec := { name := "timChecks", fn := fun _ => fun
  | [d] => { results := [.lit (.bool false)], args := [d] }
  | _ => none }
def TimChecksWrongFalsely : Prop := timChecksRow.holds Try.pinned (OpenSpec.ofChange timChecksWrong)

/-- 'airtimelaw13.TimParses': WHATEVER THE INPUT: true; the input reads as it did. -/
def timParsesSpec : ChangeSpec := { name := "timParses", fn := fun _ => fun
  | [d] => { results := [.lit (.bool true)], args := [d] }
  | _ => none }
def timParsesRow : OpenClaim := { program := "ytkmbcfkagniaaaa", sum := "ecc14d870dcc39d84c0f7cf025af34cbb8a8f9ae129027eb8aaf2af4c9eb5331", func := "airtime/airtimelaw13.TimParses", spec := "timParses", apart := false }
def TimParsesSaid : Prop := timParsesRow.holds Try.pinned (OpenSpec.ofChange timParsesSpec)

/-- ITS FALSE NEIGHBOUR: 'it returns false'. Refute it at one input. -/
def timParsesWrong : ChangeSpec := { name := "timParses", fn := fun _ => fun
  | [d] => { results := [.lit (.bool false)], args := [d] }
  | _ => none }
def TimParsesWrongFalsely : Prop := timParsesRow.holds Try.pinned (OpenSpec.ofChange timParsesWrong)

/-- 'airtimelaw13.TimReads': WHATEVER THE INPUT: true; the input reads as it did. -/
def timReadsSpec : ChangeSpec := { name := "timReads", fn := fun _ => fun
  | [d1, d2] => { results := [.lit (.bool true)], args := [d1, d2] }
  | _ => none }
def timReadsRow : OpenClaim := { program := "ytkmbcfkagniaaaa", sum := "ecc14d870dcc39d84c0f7cf025af34cbb8a8f9ae129027eb8aaf2af4c9eb5331", func := "airtime/airtimelaw13.TimReads", spec := "timReads", apart := false }
def TimReadsSaid : Prop := timReadsRow.holds Try.pinned (OpenSpec.ofChange timReadsSpec)

/-- ITS FALSE NEIGHBOUR: 'it returns false'. Refute it at one input. -/
def timReadsWrong : ChangeSpec := { name := "timReads", fn := fun _ => fun
  | [d1, d2] => { results := [.lit (.bool false)], args := [d1, d2] }
  | _ => none }
def TimReadsWrongFalsely : Prop := timReadsRow.holds Try.pinned (OpenSpec.ofChange timReadsWrong)

/-- 'airtimelaw13.TimHas': WHATEVER THE INPUT: true; the input reads as it did. -/
def timHasSpec : ChangeSpec := { name := "timHas", fn := fun _ => fun
  | [d1, d2] => { results := [.lit (.bool true)], args := [d1, d2] }
  | _ => none }
def timHasRow : OpenClaim := { program := "ytkmbcfkagniaaaa", sum := "ecc14d870dcc39d84c0f7cf025af34cbb8a8f9ae129027eb8aaf2af4c9eb5331", func := "airtime/airtimelaw13.TimHas", spec := "timHas", apart := false }
def TimHasSaid : Prop := timHasRow.holds Try.pinned (OpenSpec.ofChange timHasSpec)

/-- ITS FALSE NEIGHBOUR: 'it returns false'. Refute it at one input. -/
def timHasWrong : ChangeSpec := { name := "timHas", fn := fun _ => fun
  | [d1, d2] => { results := [.lit (.bool false)], args := [d1, d2] }
  | _ => none }
def TimHasWrongFalsely : Prop := timHasRow.holds Try.pinned (OpenSpec.ofChange timHasWrong)

/-- 'airtimelaw13.TimTurns': WHATEVER THE INPUT: true; the input reads as it did. -/
def timTurnsSpec : ChangeSpec := { name := "timTurns", fn := fun _ => fun
  | [d] => { results := [.lit (.bool true)], args := [d] }
  | _ => none }
def timTurnsRow : OpenClaim := { program := "ytkmbcfkagniaaaa", sum := "ecc14d870dcc39d84c0f7cf025af34cbb8a8f9ae129027eb8aaf2af4c9eb5331", func := "airtime/airtimelaw13.TimTurns", spec := "timTurns", apart := false }
def TimTurnsSaid : Prop := timTurnsRow.holds Try.pinned (OpenSpec.ofChange timTurnsSpec)

/-- ITS FALSE NEIGHBOUR: 'it returns false'. Refute it at one input. -/
def timTurnsWrong : ChangeSpec := { name := "timTurns", fn := fun _ => fun
  | [d] => { results := [.lit (.bool false)], args := [d] }
  | _ => none }
def TimTurnsWrongFalsely : Prop := timTurnsRow.holds Try.pinned (OpenSpec.ofChange timTurnsWrong)

/- THE SECOND FORM. 'bulk': how many values and letters a reading holds, each counted each time it is reached (what is shared counts as often as it is met; a slice's spare places count too). A statement '..UptoSaid' is the law's where the arguments, and the package variables that the reading takes, are together of bulk at most 1048576: NARROWER than '..Said'. Prove '..Said' where nothing that the law and all that it calls make is longer than what came in: it says more and counts as full. Else prove '..UptoSaid'. A law counts once. -/
mutual
def uptoBulk {H : Type} : DataW H → Nat
  | .lit (.string bytes) => bytes.length + 1
  | .lit _ => 1
  | .nil => 1
  | .ptr d => uptoBulk d + 1
  | .slice elems spare => uptoBulkAll elems + uptoBulkAll spare + 1
  | .agg parts => uptoBulkAll parts + 1
  | .iface _ d => uptoBulk d + 1
  | .map entries => uptoBulkEntries entries + 1
  | .held _ => 1
def uptoBulkAll {H : Type} : List (DataW H) → Nat
  | [] => 0
  | d :: r => uptoBulk d + uptoBulkAll r
def uptoBulkEntries {H : Type} : List (Lit × DataW H) → Nat
  | [] => 0
  | x :: r => uptoBulkEntry x + uptoBulkEntries r
def uptoBulkEntry {H : Type} : Lit × DataW H → Nat
  | (.string bytes, d) => bytes.length + uptoBulk d + 1
  | (_, d) => uptoBulk d + 1
 end
def uptoSmall : (H : Type) → List (DataW H) → Bool := fun _ ds => decide (uptoBulkAll ds ≤ 1048576)
def OpenSpec.upto (s : _root_.Go.ChangeSpec) : _root_.Go.OpenSpec := { _root_.Go.OpenSpec.ofChange s with cond := some uptoSmall }

/-- 'airtimelaw13.TimChecks', WHERE WHAT IT READS IS OF BULK AT MOST 1048576: true; the input reads as it did. -/
def timChecksUptoRow : OpenClaim := { program := "ytkmbcfkagniaaaa", sum := "ecc14d870dcc39d84c0f7cf025af34cbb8a8f9ae129027eb8aaf2af4c9eb5331", func := "airtime/airtimelaw13.TimChecks", spec := "timChecks", apart := false, narrowed := true }
def TimChecksUptoSaid : Prop := timChecksUptoRow.holds Try.pinned (OpenSpec.upto timChecksSpec)

/-- 'airtimelaw13.TimParses', WHERE WHAT IT READS IS OF BULK AT MOST 1048576: true; the input reads as it did. -/
def timParsesUptoRow : OpenClaim := { program := "ytkmbcfkagniaaaa", sum := "ecc14d870dcc39d84c0f7cf025af34cbb8a8f9ae129027eb8aaf2af4c9eb5331", func := "airtime/airtimelaw13.TimParses", spec := "timParses", apart := false, narrowed := true }
def TimParsesUptoSaid : Prop := timParsesUptoRow.holds Try.pinned (OpenSpec.upto timParsesSpec)

/-- 'airtimelaw13.TimReads', WHERE WHAT IT READS IS OF BULK AT MOST 1048576: true; the input reads as it did. -/
def timReadsUptoRow : OpenClaim := { program := "ytkmbcfkagniaaaa", sum := "ecc14d870dcc39d84c0f7cf025af34cbb8a8f9ae129027eb8aaf2af4c9eb5331", func := "airtime/airtimelaw13.TimReads", spec := "timReads", apart := false, narrowed := true }
def TimReadsUptoSaid : Prop := timReadsUptoRow.holds Try.pinned (OpenSpec.upto timReadsSpec)

/-- 'airtimelaw13.TimHas', WHERE WHAT IT READS IS OF BULK AT MOST 1048576: true; the input reads as it did. -/
def timHasUptoRow : OpenClaim := { program := "ytkmbcfkagniaaaa", sum := "ecc14d870dcc39d84c0f7cf025af34cbb8a8f9ae129027eb8aaf2af4c9eb5331", func := "airtime/airtimelaw13.TimHas", spec := "timHas", apart := false, narrowed := true }
def TimHasUptoSaid : Prop := timHasUptoRow.holds Try.pinned (OpenSpec.upto timHasSpec)

/-- 'airtimelaw13.TimTurns', WHERE WHAT IT READS IS OF BULK AT MOST 1048576: true; the input reads as it did. -/
def timTurnsUptoRow : OpenClaim := { program := "ytkmbcfkagniaaaa", sum := "ecc14d870dcc39d84c0f7cf025af34cbb8a8f9ae129027eb8aaf2af4c9eb5331", func := "airtime/airtimelaw13.TimTurns", spec := "timTurns", apart := false, narrowed := true }
def TimTurnsUptoSaid : Prop := timTurnsUptoRow.holds Try.pinned (OpenSpec.upto timTurnsSpec)

end Rows
end Go.Proofs.Ytkmbcfkagniaaaa
