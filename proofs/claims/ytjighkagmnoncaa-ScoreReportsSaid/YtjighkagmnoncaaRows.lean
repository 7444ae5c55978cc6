/-
  No cell of these rows narrows 'for every input' (looked for: loops, veiled, ifaces, maps, wideKeys, modest, calm, conditions, laid).
  DERIVED. THE GIVEN ROWS OF THIS SEAT. 5 by the template 'for every input the law returns true; each argument reads behind the call as it read before'; 0 by the template 'total and deterministic' (their statements: YtjighkagmnoncaaTotals.lean).
  GIVEN WITH THE SEED: the statements are not yours to turn. If you find one false, say at which input.
  Laid BY PROGRAM, IN A SANDBOX (cutbox-rows.mjs): the forced cells as the released guide's own fill.sh prints them over the translation f7a90cc6122be35d… (all of the seat's roots in one cut). By AI agents, Wed Nov 11 2026. No macro, syntax, notation, axiom, sorry.
-/
import Derived.Test.YtjighkagmnoncaaChecked
import GoSem.Claim
import GoSem.ClaimJoined
import GoSem.ClaimMapViews
import Derived.JoinedTies
import Derived.KernelRfl
namespace Go.Proofs.Ytjighkagmnoncaa
/- THE CELL 'sum', in the pinned program and in every row, IS THE sha256 OF THE DUMP (.gsa) THAT YtjighkagmnoncaaProg.lean LOADS. Nothing in Lean hashes anything: it is a label: what it is worth is what the hold of that sum in a sandbox is worth. -/
noncomputable def Try.pinned : Pinned := { name := "ytjighkagmnoncaa", sum := "f7a90cc6122be35d76a62c9c511856603ee01bd3f525d2b12f593747680c4ec4", checked := Try.checked }
namespace Rows
def none {H : Type} : Left H := { results := [], args := [] }

/-- 'airtimelaw21.ScoreChecks': WHATEVER THE INPUT: true; the input reads as it did. -/
def scoreChecksSpec : ChangeSpec := { name := "scoreChecks", fn := fun _ => fun
  | [d1, d2, d3] => { results := [.lit (.bool true)], args := [d1, d2, d3] }
  | _ => none }
def scoreChecksRow : OpenClaim := { program := "ytjighkagmnoncaa", sum := "f7a90cc6122be35d76a62c9c511856603ee01bd3f525d2b12f593747680c4ec4", func := "airtime/airtimelaw21.ScoreChecks", spec := "scoreChecks", apart := false }
def ScoreChecksSaid : Prop := scoreChecksRow.holds Try.pinned (OpenSpec.ofChange scoreChecksSpec)

/-- ITS FALSE NEIGHBOUR: 'it returns false'. Refute it at one input. -/
def scoreChecksWrong : ChangeSpec := { name := "scoreChecks", fn := fun _ => fun
  | [d1, d2, d3] => { results := [.lit (.bool false)], args := [d1, d2, d3] }
  | _ => none }
def ScoreChecksWrongFalsely : Prop := scoreChecksRow.holds Try.pinned (OpenSpec.ofChange scoreChecksWrong)

/-- 'airtimelaw21.ScoreNotes': WHATEVER THE INPUT: true; the input reads as it did. -/
def scoreNotesSpec : ChangeSpec := { name := "scoreNotes", fn := fun _ => fun
  | [d1, d2, d3] => { results := [.lit (.bool true)], args := [d1, d2, d3] }
  | _ => none }
def scoreNotesRow : OpenClaim := { program := "ytjighkagmnoncaa", sum := "f7a90cc6122be35d76a62c9c511856603ee01bd3f525d2b12f593747680c4ec4", func := "airtime/airtimelaw21.ScoreNotes", spec := "scoreNotes", apart := false }
def ScoreNotesSaid : Prop := scoreNotesRow.holds Try.pinned (OpenSpec.ofChange scoreNotesSpec)

/-- ITS FALSE NEIGHBOUR: 'it returns false'. Refute it at one input. -/
def scoreNotesWrong : ChangeSpec := { name := "scoreNotes", fn := fun _ => fun
  | [d1, d2, d3] => { results := [.lit (.bool false)], args := [d1, d2, d3] }
  | _ => none }
def ScoreNotesWrongFalsely : Prop := scoreNotesRow.holds Try.pinned (OpenSpec.ofChange scoreNotesWrong)

/-- 'airtimelaw21.ScoreMoves': WHATEVER THE INPUT: true; the input reads as it did. -/
def scoreMovesSpec : ChangeSpec := { name := "scoreMoves", fn := fun _ => fun
  | [d1, d2] => { results := [.lit (.bool true)], args := [d1, d2] }
  | _ => none }
def scoreMovesRow : OpenClaim := { program := "ytjighkagmnoncaa", sum := "f7a90cc6122be35d76a62c9c511856603ee01bd3f525d2b12f593747680c4ec4", func := "airtime/airtimelaw21.ScoreMoves", spec := "scoreMoves", apart := false }
def ScoreMovesSaid : Prop := scoreMovesRow.holds Try.pinned (OpenSpec.ofChange scoreMovesSpec)

/-- ITS FALSE NEIGHBOUR: 'it returns false'. Refute it at one input. -/
def scoreMovesWrong : ChangeSpec := { name := "scoreMoves", fn := fun _ => fun
  | [d1, d2] => { results := [.lit (.bool false)], args := [d1, d2] }
  | _ => none }
def ScoreMovesWrongFalsely : Prop := scoreMovesRow.holds Try.pinned (OpenSpec.ofChange scoreMovesWrong)

/-- 'airtimelaw21.ScoreReports': WHATEVER THE INPUT: true; the input reads as it did. -/
def scoreReportsSpec : ChangeSpec := { name := "scoreReports", fn := fun _ => fun
  | [d1, d2, d3] => { results := [.lit (.bool true)], args := [d1, d2, d3] }
  | _ => none }
def scoreReportsRow : OpenClaim := { program := "ytjighkagmnoncaa", sum := "f7a90cc6122be35d76a62c9c511856603ee01bd3f525d2b12f593747680c4ec4", func := "airtime/airtimelaw21.ScoreReports", spec := "scoreReports", apart := false }
def ScoreReportsSaid : Prop := scoreReportsRow.holds Try.pinned (OpenSpec.ofChange scoreReportsSpec)

/-- ITS FALSE NEIGHBOUR: 'it returns false'. Refute it at one input. -/
def scoreReportsWrong : ChangeSpec := { name := "scoreReports", fn := fun _ => fun
  | [d1, d2, d3] => { results := [.lit (.bool false)], args := [d1, d2, d3] }
  | _ => none }
def ScoreReportsWrongFalsely : Prop := scoreReportsRow.holds Try.pinned (OpenSpec.ofChange scoreReportsWrong)

/-- 'airtimelaw21.ScoreKeeps': WHATEVER THE INPUT: true; the input reads as it did. -/
def scoreKeepsSpec : ChangeSpec := { name := "scoreKeeps", fn := fun _ => fun
  | [d1, d2, d3] => { results := [.lit (.bool true)], args := [d1, d2, d3] }
  | _ => none }
def scoreKeepsRow : OpenClaim := { program := "ytjighkagmnoncaa", sum := "f7a90cc6122be35d76a62c9c511856603ee01bd3f525d2b12f593747680c4ec4", func := "airtime/airtimelaw21.ScoreKeeps", spec := "scoreKeeps", apart := false }
def ScoreKeepsSaid : Prop := scoreKeepsRow.holds Try.pinned (OpenSpec.ofChange scoreKeepsSpec)

/-- ITS FALSE NEIGHBOUR: 'it returns false'. Refute it at one input. -/
def scoreKeepsWrong : ChangeSpec := { name := "scoreKeeps", fn := fun _ => fun
  | [d1, d2, d3] => { results := [.lit (.bool false)], args := [d1, d2, d3] }
  | _ => none }
def ScoreKeepsWrongFalsely : Prop := scoreKeepsRow.holds Try.pinned (OpenSpec.ofChange scoreKeepsWrong)

/- THE SECOND FORM. 'bulk': how many values and letters a reading holds, each counted each time it is reached (what is shared counts as often as it is met; a slice's spare places count too). A statement '..UptoSaid' is the law's where the arguments, and the package variables that the reading takes, are together of bulk at most 1048576: NARROWER than '..Said'. Prove '..Said' where nothing that the law and all that it calls make is longer than what came in: it says more and counts as full. Else prove '..UptoSaid'. A law counts once. -/
mutual
def uptoBulk {H : Type} : DataW H → Nat
  | .lit (.string bytes) => bytes.length + 1
  | .lit _ => 1
  | .nil => 1
  | .ptr d => uptoBulk d + 1
  | .slice elems spare => uptoBulkAll elems + uptoBulkAll spare + 1
  | .agg parts => uptoBulkAll parts + 1
  | .iface _ d => uptoBulk d + 1
  | .map entries => uptoBulkEntries entries + 1
  | .held _ => 1
def uptoBulkAll {H : Type} : List (DataW H) → Nat
  | [] => 0
  | d :: r => uptoBulk d + uptoBulkAll r
def uptoBulkEntries {H : Type} : List (Lit × DataW H) → Nat
  | [] => 0
  | x :: r => uptoBulkEntry x + uptoBulkEntries r
def uptoBulkEntry {H : Type} : Lit × DataW H → Nat
  | (.string bytes, d) => bytes.length + uptoBulk d + 1
  | (_, d) => uptoBulk d + 1
 end
def uptoSmall : (H : Type) → List (DataW H) → Bool := fun _ ds => decide (uptoBulkAll ds ≤ 1048576)
def OpenSpec.upto (s : _root_.Go.ChangeSpec) : _root_.Go.OpenSpec := { _root_.Go.OpenSpec.ofChange s with cond := some uptoSmall }

/-- 'airtimelaw21.ScoreChecks', WHERE WHAT IT READS IS OF BULK AT MOST 1048576: true; the input reads as it did. -/
def scoreChecksUptoRow : OpenClaim := { program := "ytjighkagmnoncaa", sum := "f7a90cc6122be35d76a62c9c511856603ee01bd3f525d2b12f593747680c4ec4", func := "airtime/airtimelaw21.ScoreChecks", spec := "scoreChecks", apart := false, narrowed := true }
def ScoreChecksUptoSaid : Prop := scoreChecksUptoRow.holds Try.pinned (OpenSpec.upto scoreChecksSpec)

/-- 'airtimelaw21.ScoreNotes', WHERE WHAT IT READS IS OF BULK AT MOST 1048576: true; the input reads as it did. -/
def scoreNotesUptoRow : OpenClaim := { program := "ytjighkagmnoncaa", sum := "f7a90cc6122be35d76a62c9c511856603ee01bd3f525d2b12f593747680c4ec4", func := "airtime/airtimelaw21.ScoreNotes", spec := "scoreNotes", apart := false, narrowed := true }
def ScoreNotesUptoSaid : Prop := scoreNotesUptoRow.holds Try.pinned (OpenSpec.upto scoreNotesSpec)

/-- 'airtimelaw21.ScoreMoves', WHERE WHAT IT READS IS OF BULK AT MOST 1048576: true; the input reads as it did. -/
def scoreMovesUptoRow : OpenClaim := { program := "ytjighkagmnoncaa", sum := "f7a90cc6122be35d76a62c9c511856603ee01bd3f525d2b12f593747680c4ec4", func := "airtime/airtimelaw21.ScoreMoves", spec := "scoreMoves", apart := false, narrowed := true }
def ScoreMovesUptoSaid : Prop := scoreMovesUptoRow.holds Try.pinned (OpenSpec.upto scoreMovesSpec)

/-- 'airtimelaw21.ScoreReports', WHERE WHAT IT READS IS OF BULK AT MOST 1048576: true; the input reads as it did. -/
def scoreReportsUptoRow : OpenClaim := { program := "ytjighkagmnoncaa", sum := "f7a90cc6122be35d76a62c9c511856603ee01bd3f525d2b12f593747680c4ec4", func := "airtime/airtimelaw21.ScoreReports", spec := "scoreReports", apart := false, narrowed := true }
def ScoreReportsUptoSaid : Prop := scoreReportsUptoRow.holds Try.pinned (OpenSpec.upto scoreReportsSpec)

/-- 'airtimelaw21.ScoreKeeps', WHERE WHAT IT READS IS OF BULK AT MOST 1048576: true; the input reads as it did. -/
def scoreKeepsUptoRow : OpenClaim := { program := "ytjighkagmnoncaa", sum := "f7a90cc6122be35d76a62c9c511856603ee01bd3f525d2b12f593747680c4ec4", func := "airtime/airtimelaw21.ScoreKeeps", spec := "scoreKeeps", apart := false, narrowed := true }
def ScoreKeepsUptoSaid : Prop := scoreKeepsUptoRow.holds Try.pinned (OpenSpec.upto scoreKeepsSpec)

end Rows
end Go.Proofs.Ytjighkagmnoncaa
