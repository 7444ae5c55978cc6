/-
  NARROWER THAN 'FOR EVERY INPUT', by the rows' own cells (each row's printed sentence says how): TrainCarries: laid.
  DERIVED. THE GIVEN ROWS OF THIS SEAT. 1 by the template 'for every input the law returns true; each argument reads behind the call as it read before'; 0 by the template 'total and deterministic' (their statements: YtacbhbejchjbiaaDoorTotals.lean).
  GIVEN WITH THE SEED: the statements are not yours to turn. If you find one false, say at which input.
  Laid BY PROGRAM, IN A SANDBOX (cutbox-rows.mjs): the forced cells as the released guide's own fill.sh prints them over the translation 44915998087ef953… (all of the seat's roots in one cut). By AI agents, Wed Nov 11 2026. No macro, syntax, notation, axiom, sorry.
-/
import Derived.Test.YtacbhbejchjbiaaDoorChecked
import GoSem.Claim
import GoSem.ClaimJoined
import GoSem.ClaimMapViews
import Derived.JoinedTies
import Derived.KernelRfl
namespace Go.Proofs.YtacbhbejchjbiaaDoor
/- THE CELL 'sum', in the pinned program and in every row, IS THE sha256 OF THE DUMP (.gsa) THAT YtacbhbejchjbiaaDoorProg.lean LOADS. Nothing in Lean hashes anything: it is a label: what it is worth is what the hold of that sum in a sandbox is worth. -/
noncomputable def Tryd.pinned : Pinned := { name := "ytacbhbejchjbiaadoor", sum := "44915998087ef95370f18724e3bfcda11b4ff3f813ad6cdfc493c0e2e15407b2", checked := Tryd.checked }
namespace Rows
def none {H : Type} : Left H := { results := [], args := [] }

/- WHAT THE LISTED PACKAGE-LEVEL VARIABLES READ AS WHEN THE CALL BEGINS. Each datum BY PROGRAM (the guide's laid-datum.mjs) off the statement by which the dump's own 'gosem.cut.vars' lays the variable. In a bare row this is a premise. The card (YtacbhbejchjbiaaDoorCards.lean) ties it to the program's text. -/
def laid_airtime_checksum_steps32 {H : Type} : DataW H := .agg [.lit (.int .u32 0), .lit (.int .u32 498536548), .lit (.int .u32 997073096), .lit (.int .u32 651767980), .lit (.int .u32 1994146192), .lit (.int .u32 1802195444), .lit (.int .u32 1303535960), .lit (.int .u32 1342533948), .lit (.int .u32 3988292384), .lit (.int .u32 4027552580), .lit (.int .u32 3604390888), .lit (.int .u32 3412177804), .lit (.int .u32 2607071920), .lit (.int .u32 2262029012), .lit (.int .u32 2685067896), .lit (.int .u32 3183342108)]
def laid_airtime_checksum_steps8 {H : Type} : DataW H := .agg [.lit (.int .u8 0), .lit (.int .u8 7), .lit (.int .u8 14), .lit (.int .u8 9), .lit (.int .u8 28), .lit (.int .u8 27), .lit (.int .u8 18), .lit (.int .u8 21), .lit (.int .u8 56), .lit (.int .u8 63), .lit (.int .u8 54), .lit (.int .u8 49), .lit (.int .u8 36), .lit (.int .u8 35), .lit (.int .u8 42), .lit (.int .u8 45)]
def laid_airtime_header_kinds {H : Type} : DataW H := .agg [.agg [.lit (.string []), .lit (.int .i64 0), .lit (.int .i64 0), .lit (.int .i64 0), .lit (.int .i64 0)], .agg [.lit (.string [98, 101, 97, 99, 111, 110]), .lit (.int .i64 1), .lit (.int .i64 0), .lit (.int .i64 24), .lit (.int .i64 18181)], .agg [.lit (.string [112, 114, 111, 98, 101, 45, 114, 101, 113, 117, 101, 115, 116]), .lit (.int .i64 1), .lit (.int .i64 0), .lit (.int .i64 24), .lit (.int .i64 18181)], .agg [.lit (.string [112, 114, 111, 98, 101, 45, 114, 101, 115, 112, 111, 110, 115, 101]), .lit (.int .i64 1), .lit (.int .i64 14), .lit (.int .i64 24), .lit (.int .i64 18181)], .agg [.lit (.string [97, 117, 116, 104]), .lit (.int .i64 1), .lit (.int .i64 14), .lit (.int .i64 24), .lit (.int .i64 18181)], .agg [.lit (.string [97, 115, 115, 111, 99, 45, 114, 101, 113, 117, 101, 115, 116]), .lit (.int .i64 2), .lit (.int .i64 14), .lit (.int .i64 24), .lit (.int .i64 18181)], .agg [.lit (.string [97, 115, 115, 111, 99, 45, 114, 101, 115, 112, 111, 110, 115, 101]), .lit (.int .i64 2), .lit (.int .i64 14), .lit (.int .i64 24), .lit (.int .i64 18181)], .agg [.lit (.string [114, 101, 97, 115, 115, 111, 99, 45, 114, 101, 113, 117, 101, 115, 116]), .lit (.int .i64 2), .lit (.int .i64 14), .lit (.int .i64 24), .lit (.int .i64 18181)], .agg [.lit (.string [114, 101, 97, 115, 115, 111, 99, 45, 114, 101, 115, 112, 111, 110, 115, 101]), .lit (.int .i64 2), .lit (.int .i64 14), .lit (.int .i64 24), .lit (.int .i64 18181)], .agg [.lit (.string [100, 105, 115, 97, 115, 115, 111, 99]), .lit (.int .i64 2), .lit (.int .i64 14), .lit (.int .i64 24), .lit (.int .i64 18181)], .agg [.lit (.string [100, 101, 97, 117, 116, 104]), .lit (.int .i64 1), .lit (.int .i64 14), .lit (.int .i64 24), .lit (.int .i64 18181)], .agg [.lit (.string [97, 99, 116, 105, 111, 110]), .lit (.int .i64 3), .lit (.int .i64 14), .lit (.int .i64 24), .lit (.int .i64 18181)], .agg [.lit (.string [114, 116, 115]), .lit (.int .i64 1), .lit (.int .i64 13), .lit (.int .i64 16), .lit (.int .i64 256)], .agg [.lit (.string [99, 116, 115]), .lit (.int .i64 1), .lit (.int .i64 0), .lit (.int .i64 10), .lit (.int .i64 0)], .agg [.lit (.string [97, 99, 107]), .lit (.int .i64 1), .lit (.int .i64 0), .lit (.int .i64 10), .lit (.int .i64 0)], .agg [.lit (.string [98, 108, 111, 99, 107, 45, 114, 101, 113, 117, 101, 115, 116]), .lit (.int .i64 3), .lit (.int .i64 16), .lit (.int .i64 16), .lit (.int .i64 16640)], .agg [.lit (.string [98, 108, 111, 99, 107, 45, 97, 99, 107]), .lit (.int .i64 3), .lit (.int .i64 0), .lit (.int .i64 16), .lit (.int .i64 16640)], .agg [.lit (.string [112, 111, 108, 108]), .lit (.int .i64 3), .lit (.int .i64 14), .lit (.int .i64 16), .lit (.int .i64 256)], .agg [.lit (.string [100, 97, 116, 97]), .lit (.int .i64 3), .lit (.int .i64 14), .lit (.int .i64 27), .lit (.int .i64 32767)], .agg [.lit (.string [110, 117, 108, 108]), .lit (.int .i64 3), .lit (.int .i64 14), .lit (.int .i64 25), .lit (.int .i64 6109)]]

/-- 'airtimetop.TrainCarries': WHATEVER THE INPUT: true; the input reads as it did. -/
def trainCarriesSpec : ChangeSpec := { name := "trainCarries", fn := fun _ => fun
  | [d1, d2, d3] => { results := [.lit (.bool true)], args := [d1, d2, d3] }
  | _ => none }
def trainCarriesRow : OpenClaim := { program := "ytacbhbejchjbiaadoor", sum := "44915998087ef95370f18724e3bfcda11b4ff3f813ad6cdfc493c0e2e15407b2", func := "airtime/airtimetop.TrainCarries", spec := "trainCarries", named := ["airtime/header.kinds", "airtime/checksum.steps32", "airtime/checksum.steps8"], apart := false, laid := [("airtime/checksum.steps32", laid_airtime_checksum_steps32), ("airtime/checksum.steps8", laid_airtime_checksum_steps8), ("airtime/header.kinds", laid_airtime_header_kinds)] }
def TrainCarriesSaid : Prop := trainCarriesRow.holds Tryd.pinned (OpenSpec.ofChange trainCarriesSpec)

/-- ITS FALSE NEIGHBOUR: 'it returns false'. Refute it at one input. -/
def trainCarriesWrong : ChangeSpec := { name := "trainCarries", fn := fun _ => fun
  | [d1, d2, d3] => { results := [.lit (.bool false)], args := [d1, d2, d3] }
  | _ => none }
def TrainCarriesWrongFalsely : Prop := trainCarriesRow.holds Tryd.pinned (OpenSpec.ofChange trainCarriesWrong)

/- THE SECOND FORM. 'bulk': how many values and letters a reading holds, each counted each time it is reached (what is shared counts as often as it is met; a slice's spare places count too). A statement '..UptoSaid' is the law's where the arguments, and the package variables that the reading takes, are together of bulk at most 1048576: NARROWER than '..Said'. Prove '..Said' where nothing that the law and all that it calls make is longer than what came in: it says more and counts as full. Else prove '..UptoSaid'. A law counts once. -/
mutual
def uptoBulk {H : Type} : DataW H → Nat
  | .lit (.string bytes) => bytes.length + 1
  | .lit _ => 1
  | .nil => 1
  | .ptr d => uptoBulk d + 1
  | .slice elems spare => uptoBulkAll elems + uptoBulkAll spare + 1
  | .agg parts => uptoBulkAll parts + 1
  | .iface _ d => uptoBulk d + 1
  | .map entries => uptoBulkEntries entries + 1
  | .held _ => 1
def uptoBulkAll {H : Type} : List (DataW H) → Nat
  | [] => 0
  | d :: r => uptoBulk d + uptoBulkAll r
def uptoBulkEntries {H : Type} : List (Lit × DataW H) → Nat
  | [] => 0
  | x :: r => uptoBulkEntry x + uptoBulkEntries r
def uptoBulkEntry {H : Type} : Lit × DataW H → Nat
  | (.string bytes, d) => bytes.length + uptoBulk d + 1
  | (_, d) => uptoBulk d + 1
 end
def uptoSmall : (H : Type) → List (DataW H) → Bool := fun _ ds => decide (uptoBulkAll ds ≤ 1048576)
def OpenSpec.upto (s : _root_.Go.ChangeSpec) : _root_.Go.OpenSpec := { _root_.Go.OpenSpec.ofChange s with cond := some uptoSmall }

/-- 'airtimetop.TrainCarries', WHERE WHAT IT READS IS OF BULK AT MOST 1048576: true; the input reads as it did. -/
def trainCarriesUptoRow : OpenClaim := { program := "ytacbhbejchjbiaadoor", sum := "44915998087ef95370f18724e3bfcda11b4ff3f813ad6cdfc493c0e2e15407b2", func := "airtime/airtimetop.TrainCarries", spec := "trainCarries", named := ["airtime/header.kinds", "airtime/checksum.steps32", "airtime/checksum.steps8"], apart := false, laid := [("airtime/checksum.steps32", laid_airtime_checksum_steps32), ("airtime/checksum.steps8", laid_airtime_checksum_steps8), ("airtime/header.kinds", laid_airtime_header_kinds)], narrowed := true }
def TrainCarriesUptoSaid : Prop := trainCarriesUptoRow.holds Tryd.pinned (OpenSpec.upto trainCarriesSpec)

end Rows
end Go.Proofs.YtacbhbejchjbiaaDoor
