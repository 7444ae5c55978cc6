/-
  NARROWER THAN 'FOR EVERY INPUT', by the rows' own cells (each row's printed sentence says how): ChecksumSums: laid · ChecksumContinues: laid · ChecksumOpens: laid · ChecksumParts: laid · ChecksumDetects: laid · ChecksumOctet: laid.
  DERIVED. THE GIVEN ROWS OF THIS SEAT. 6 by the template 'for every input the law returns true; each argument reads behind the call as it read before'; 0 by the template 'total and deterministic' (their statements: YtmgglbnadkkedaaDoorTotals.lean).
  GIVEN WITH THE SEED: the statements are not yours to turn. If you find one false, say at which input.
  Laid BY PROGRAM, IN A SANDBOX (cutbox-rows.mjs): the forced cells as the released guide's own fill.sh prints them over the translation bf8746e98f0a4bd8… (all of the seat's roots in one cut). By AI agents, Wed Nov 11 2026. No macro, syntax, notation, axiom, sorry.
-/
import Derived.Test.YtmgglbnadkkedaaDoorChecked
import GoSem.Claim
import GoSem.ClaimJoined
import GoSem.ClaimMapViews
import Derived.JoinedTies
import Derived.KernelRfl
namespace Go.Proofs.YtmgglbnadkkedaaDoor
/- THE CELL 'sum', in the pinned program and in every row, IS THE sha256 OF THE DUMP (.gsa) THAT YtmgglbnadkkedaaDoorProg.lean LOADS. Nothing in Lean hashes anything: it is a label: what it is worth is what the hold of that sum in a sandbox is worth. -/
noncomputable def Tryd.pinned : Pinned := { name := "ytmgglbnadkkedaadoor", sum := "bf8746e98f0a4bd863712bd5dde4223440c13fcaa2496fd320f1a04e1d245ec1", checked := Tryd.checked }
namespace Rows
def none {H : Type} : Left H := { results := [], args := [] }

/- WHAT THE LISTED PACKAGE-LEVEL VARIABLES READ AS WHEN THE CALL BEGINS. Each datum BY PROGRAM (the guide's laid-datum.mjs) off the statement by which the dump's own 'gosem.cut.vars' lays the variable. In a bare row this is a premise. The card (YtmgglbnadkkedaaDoorCards.lean) ties it to the program's text. -/
def laid_airtime_checksum_steps32 {H : Type} : DataW H := .agg [.lit (.int .u32 0), .lit (.int .u32 498536548), .lit (.int .u32 997073096), .lit (.int .u32 651767980), .lit (.int .u32 1994146192), .lit (.int .u32 1802195444), .lit (.int .u32 1303535960), .lit (.int .u32 1342533948), .lit (.int .u32 3988292384), .lit (.int .u32 4027552580), .lit (.int .u32 3604390888), .lit (.int .u32 3412177804), .lit (.int .u32 2607071920), .lit (.int .u32 2262029012), .lit (.int .u32 2685067896), .lit (.int .u32 3183342108)]
def laid_airtime_checksum_steps8 {H : Type} : DataW H := .agg [.lit (.int .u8 0), .lit (.int .u8 7), .lit (.int .u8 14), .lit (.int .u8 9), .lit (.int .u8 28), .lit (.int .u8 27), .lit (.int .u8 18), .lit (.int .u8 21), .lit (.int .u8 56), .lit (.int .u8 63), .lit (.int .u8 54), .lit (.int .u8 49), .lit (.int .u8 36), .lit (.int .u8 35), .lit (.int .u8 42), .lit (.int .u8 45)]

/-- 'airtimelaw03.ChecksumSums': WHATEVER THE INPUT: true; the input reads as it did. -/
def checksumSumsSpec : ChangeSpec := { name := "checksumSums", fn := fun _ => fun
  | [d] => { results := [.lit (.bool true)], args := [d] }
  | _ => none }
def checksumSumsRow : OpenClaim := { program := "ytmgglbnadkkedaadoor", sum := "bf8746e98f0a4bd863712bd5dde4223440c13fcaa2496fd320f1a04e1d245ec1", func := "airtime/airtimelaw03.ChecksumSums", spec := "checksumSums", named := ["airtime/checksum.steps32", "airtime/checksum.steps8"], apart := false, laid := [("airtime/checksum.steps32", laid_airtime_checksum_steps32), ("airtime/checksum.steps8", laid_airtime_checksum_steps8)] }
def ChecksumSumsSaid : Prop := checksumSumsRow.holds Tryd.pinned (OpenSpec.ofChange checksumSumsSpec)

/-- ITS FALSE NEIGHBOUR: 'it returns false'. Refute it at one input. -/
def checksumSumsWrong : ChangeSpec := { name := "checksumSums", fn := fun _ => fun
  | [d] => { results := [.lit (.bool false)], args := [d] }
  | _ => none }
def ChecksumSumsWrongFalsely : Prop := checksumSumsRow.holds Tryd.pinned (OpenSpec.ofChange checksumSumsWrong)

/-- 'airtimelaw03.ChecksumContinues': WHATEVER THE INPUT: true; the input reads as it did. -/
def checksumContinuesSpec : ChangeSpec := { name := "checksumContinues", fn := fun _ => fun
  | [d1, d2] => { results := [.lit (.bool true)], args := [d1, d2] }
  | _ => none }
def checksumContinuesRow : OpenClaim := { program := "ytmgglbnadkkedaadoor", sum := "bf8746e98f0a4bd863712bd5dde4223440c13fcaa2496fd320f1a04e1d245ec1", func := "airtime/airtimelaw03.ChecksumContinues", spec := "checksumContinues", named := ["airtime/checksum.steps32", "airtime/checksum.steps8"], apart := false, laid := [("airtime/checksum.steps32", laid_airtime_checksum_steps32), ("airtime/checksum.steps8", laid_airtime_checksum_steps8)] }
def ChecksumContinuesSaid : Prop := checksumContinuesRow.holds Tryd.pinned (OpenSpec.ofChange checksumContinuesSpec)

/-- ITS FALSE NEIGHBOUR: 'it returns false'. Refute it at one input. -/
def checksumContinuesWrong : ChangeSpec := { name := "checksumContinues", fn := fun _ => fun
  | [d1, d2] => { results := [.lit (.bool false)], args := [d1, d2] }
  | _ => none }
def ChecksumContinuesWrongFalsely : Prop := checksumContinuesRow.holds Tryd.pinned (OpenSpec.ofChange checksumContinuesWrong)

/-- 'airtimelaw03.ChecksumOpens': WHATEVER THE INPUT: true; the input reads as it did. -/
def checksumOpensSpec : ChangeSpec := { name := "checksumOpens", fn := fun _ => fun
  | [d] => { results := [.lit (.bool true)], args := [d] }
  | _ => none }
def checksumOpensRow : OpenClaim := { program := "ytmgglbnadkkedaadoor", sum := "bf8746e98f0a4bd863712bd5dde4223440c13fcaa2496fd320f1a04e1d245ec1", func := "airtime/airtimelaw03.ChecksumOpens", spec := "checksumOpens", named := ["airtime/checksum.steps32", "airtime/checksum.steps8"], apart := false, laid := [("airtime/checksum.steps32", laid_airtime_checksum_steps32), ("airtime/checksum.steps8", laid_airtime_checksum_steps8)] }
def ChecksumOpensSaid : Prop := checksumOpensRow.holds Tryd.pinned (OpenSpec.ofChange checksumOpensSpec)

/-- ITS FALSE NEIGHBOUR: 'it returns false'. Refute it at one input. -/
def checksumOpensWrong : ChangeSpec := { name := "checksumOpens", fn := fun _ => fun
  | [d] => { results := [.lit (.bool false)], args := [d] }
  | _ => none }
def ChecksumOpensWrongFalsely : Prop := checksumOpensRow.holds Tryd.pinned (OpenSpec.ofChange checksumOpensWrong)

/-- 'airtimelaw03.ChecksumParts': WHATEVER THE INPUT: true; the input reads as it did. -/
def checksumPartsSpec : ChangeSpec := { name := "checksumParts", fn := fun _ => fun
  | [d1, d2] => { results := [.lit (.bool true)], args := [d1, d2] }
  | _ => none }
def checksumPartsRow : OpenClaim := { program := "ytmgglbnadkkedaadoor", sum := "bf8746e98f0a4bd863712bd5dde4223440c13fcaa2496fd320f1a04e1d245ec1", func := "airtime/airtimelaw03.ChecksumParts", spec := "checksumParts", named := ["airtime/checksum.steps32", "airtime/checksum.steps8"], apart := false, laid := [("airtime/checksum.steps32", laid_airtime_checksum_steps32), ("airtime/checksum.steps8", laid_airtime_checksum_steps8)] }
def ChecksumPartsSaid : Prop := checksumPartsRow.holds Tryd.pinned (OpenSpec.ofChange checksumPartsSpec)

/-- ITS FALSE NEIGHBOUR: 'it returns false'. Refute it at one input. -/
def checksumPartsWrong : ChangeSpec := { name := "checksumParts", fn := fun _ => fun
  | [d1, d2] => { results := [.lit (.bool false)], args := [d1, d2] }
  | _ => none }
def ChecksumPartsWrongFalsely : Prop := checksumPartsRow.holds Tryd.pinned (OpenSpec.ofChange checksumPartsWrong)

/-- 'airtimelaw03.ChecksumDetects': WHATEVER THE INPUT: true; the input reads as it did. -/
def checksumDetectsSpec : ChangeSpec := { name := "checksumDetects", fn := fun _ => fun
  | [d1, d2, d3] => { results := [.lit (.bool true)], args := [d1, d2, d3] }
  | _ => none }
def checksumDetectsRow : OpenClaim := { program := "ytmgglbnadkkedaadoor", sum := "bf8746e98f0a4bd863712bd5dde4223440c13fcaa2496fd320f1a04e1d245ec1", func := "airtime/airtimelaw03.ChecksumDetects", spec := "checksumDetects", named := ["airtime/checksum.steps32", "airtime/checksum.steps8"], apart := false, laid := [("airtime/checksum.steps32", laid_airtime_checksum_steps32), ("airtime/checksum.steps8", laid_airtime_checksum_steps8)] }
def ChecksumDetectsSaid : Prop := checksumDetectsRow.holds Tryd.pinned (OpenSpec.ofChange checksumDetectsSpec)

/-- ITS FALSE NEIGHBOUR: 'it returns false'. Refute it at one input. -/
def checksumDetectsWrong : ChangeSpec := { name := "checksumDetects", fn := fun _ => fun
  | [d1, d2, d3] => { results := [.lit (.bool false)], args := [d1, d2, d3] }
  | _ => none }
def ChecksumDetectsWrongFalsely : Prop := checksumDetectsRow.holds Tryd.pinned (OpenSpec.ofChange checksumDetectsWrong)

/-- 'airtimelaw03.ChecksumOctet': WHATEVER THE INPUT: true; the input reads as it did. -/
def checksumOctetSpec : ChangeSpec := { name := "checksumOctet", fn := fun _ => fun
  | [d1, d2, d3] => { results := [.lit (.bool true)], args := [d1, d2, d3] }
  | _ => none }
def checksumOctetRow : OpenClaim := { program := "ytmgglbnadkkedaadoor", sum := "bf8746e98f0a4bd863712bd5dde4223440c13fcaa2496fd320f1a04e1d245ec1", func := "airtime/airtimelaw03.ChecksumOctet", spec := "checksumOctet", named := ["airtime/checksum.steps32", "airtime/checksum.steps8"], apart := false, laid := [("airtime/checksum.steps32", laid_airtime_checksum_steps32), ("airtime/checksum.steps8", laid_airtime_checksum_steps8)] }
def ChecksumOctetSaid : Prop := checksumOctetRow.holds Tryd.pinned (OpenSpec.ofChange checksumOctetSpec)

/-- ITS FALSE NEIGHBOUR: 'it returns false'. Refute it at one input. -/
def checksumOctetWrong : ChangeSpec := { name := "checksumOctet", fn := fun _ => fun
  | [d1, d2, d3] => { results := [.lit (.bool false)], args := [d1, d2, d3] }
  | _ => none }
def ChecksumOctetWrongFalsely : Prop := checksumOctetRow.holds Tryd.pinned (OpenSpec.ofChange checksumOctetWrong)

/- THE SECOND FORM. 'bulk': how many values and letters a reading holds, each counted each time it is reached (what is shared counts as often as it is met; a slice's spare places count too). A statement '..UptoSaid' is the law's where the arguments, and the package variables that the reading takes, are together of bulk at most 1048576: NARROWER than '..Said'. Prove '..Said' where nothing that the law and all that it calls make is longer than what came in: it says more and counts as full. Else prove '..UptoSaid'. A law counts once. -/
mutual
def uptoBulk {H : Type} : DataW H → Nat
  | .lit (.string bytes) => bytes.length + 1
  | .lit _ => 1
  | .nil => 1
  | .ptr d => uptoBulk d + 1
  | .slice elems spare => uptoBulkAll elems + uptoBulkAll spare + 1
  | .agg parts => uptoBulkAll parts + 1
  | .iface _ d => uptoBulk d + 1
  | .map entries => uptoBulkEntries entries + 1
  | .held _ => 1
def uptoBulkAll {H : Type} : List (DataW H) → Nat
  | [] => 0
  | d :: r => uptoBulk d + uptoBulkAll r
def uptoBulkEntries {H : Type} : List (Lit × DataW H) → Nat
  | [] => 0
  | x :: r => uptoBulkEntry x + uptoBulkEntries r
def uptoBulkEntry {H : Type} : Lit × DataW H → Nat
  | (.string bytes, d) => bytes.length + uptoBulk d + 1
  | (_, d) => uptoBulk d + 1
 end
def uptoSmall : (H : Type) → List (DataW H) → Bool := fun _ ds => decide (uptoBulkAll ds ≤ 1048576)
def OpenSpec.upto (s : _root_.Go.ChangeSpec) : _root_.Go.OpenSpec := { _root_.Go.OpenSpec.ofChange s with cond := some uptoSmall }

/-- 'airtimelaw03.ChecksumSums', WHERE WHAT IT READS IS OF BULK AT MOST 1048576: true; the input reads as it did. -/
def checksumSumsUptoRow : OpenClaim := { program := "ytmgglbnadkkedaadoor", sum := "bf8746e98f0a4bd863712bd5dde4223440c13fcaa2496fd320f1a04e1d245ec1", func := "airtime/airtimelaw03.ChecksumSums", spec := "checksumSums", named := ["airtime/checksum.steps32", "airtime/checksum.steps8"], apart := false, laid := [("airtime/checksum.steps32", laid_airtime_checksum_steps32), ("airtime/checksum.steps8", laid_airtime_checksum_steps8)], narrowed := true }
def ChecksumSumsUptoSaid : Prop := checksumSumsUptoRow.holds Tryd.pinned (OpenSpec.upto checksumSumsSpec)

/-- 'airtimelaw03.ChecksumContinues', WHERE WHAT IT READS IS OF BULK AT MOST 1048576: true; the input reads as it did. -/
def checksumContinuesUptoRow : OpenClaim := { program := "ytmgglbnadkkedaadoor", sum := "bf8746e98f0a4bd863712bd5dde4223440c13fcaa2496fd320f1a04e1d245ec1", func := "airtime/airtimelaw03.ChecksumContinues", spec := "checksumContinues", named := ["airtime/checksum.steps32", "airtime/checksum.steps8"], apart := false, laid := [("airtime/checksum.steps32", laid_airtime_checksum_steps32), ("airtime/checksum.steps8", laid_airtime_checksum_steps8)], narrowed := true }
def ChecksumContinuesUptoSaid : Prop := checksumContinuesUptoRow.holds Tryd.pinned (OpenSpec.upto checksumContinuesSpec)

/-- 'airtimelaw03.ChecksumOpens', WHERE WHAT IT READS IS OF BULK AT MOST 1048576: true; the input reads as it did. -/
def checksumOpensUptoRow : OpenClaim := { program := "ytmgglbnadkkedaadoor", sum := "bf8746e98f0a4bd863712bd5dde4223440c13fcaa2496fd320f1a04e1d245ec1", func := "airtime/airtimelaw03.ChecksumOpens", spec := "checksumOpens", named := ["airtime/checksum.steps32", "airtime/checksum.steps8"], apart := false, laid := [("airtime/checksum.steps32", laid_airtime_checksum_steps32), ("airtime/checksum.steps8", laid_airtime_checksum_steps8)], narrowed := true }
def ChecksumOpensUptoSaid : Prop := checksumOpensUptoRow.holds Tryd.pinned (OpenSpec.upto checksumOpensSpec)

/-- 'airtimelaw03.ChecksumParts', WHERE WHAT IT READS IS OF BULK AT MOST 1048576: true; the input reads as it did. -/
def checksumPartsUptoRow : OpenClaim := { program := "ytmgglbnadkkedaadoor", sum := "bf8746e98f0a4bd863712bd5dde4223440c13fcaa2496fd320f1a04e1d245ec1", func := "airtime/airtimelaw03.ChecksumParts", spec := "checksumParts", named := ["airtime/checksum.steps32", "airtime/checksum.steps8"], apart := false, laid := [("airtime/checksum.steps32", laid_airtime_checksum_steps32), ("airtime/checksum.steps8", laid_airtime_checksum_steps8)], narrowed := true }
def ChecksumPartsUptoSaid : Prop := checksumPartsUptoRow.holds Tryd.pinned (OpenSpec.upto checksumPartsSpec)

/-- 'airtimelaw03.ChecksumDetects', WHERE WHAT IT READS IS OF BULK AT MOST 1048576: true; the input reads as it did. -/
def checksumDetectsUptoRow : OpenClaim := { program := "ytmgglbnadkkedaadoor", sum := "bf8746e98f0a4bd863712bd5dde4223440c13fcaa2496fd320f1a04e1d245ec1", func := "airtime/airtimelaw03.ChecksumDetects", spec := "checksumDetects", named := ["airtime/checksum.steps32", "airtime/checksum.steps8"], apart := false, laid := [("airtime/checksum.steps32", laid_airtime_checksum_steps32), ("airtime/checksum.steps8", laid_airtime_checksum_steps8)], narrowed := true }
def ChecksumDetectsUptoSaid : Prop := checksumDetectsUptoRow.holds Tryd.pinned (OpenSpec.upto checksumDetectsSpec)

/-- 'airtimelaw03.ChecksumOctet', WHERE WHAT IT READS IS OF BULK AT MOST 1048576: true; the input reads as it did. -/
def checksumOctetUptoRow : OpenClaim := { program := "ytmgglbnadkkedaadoor", sum := "bf8746e98f0a4bd863712bd5dde4223440c13fcaa2496fd320f1a04e1d245ec1", func := "airtime/airtimelaw03.ChecksumOctet", spec := "checksumOctet", named := ["airtime/checksum.steps32", "airtime/checksum.steps8"], apart := false, laid := [("airtime/checksum.steps32", laid_airtime_checksum_steps32), ("airtime/checksum.steps8", laid_airtime_checksum_steps8)], narrowed := true }
def ChecksumOctetUptoSaid : Prop := checksumOctetUptoRow.holds Tryd.pinned (OpenSpec.upto checksumOctetSpec)

end Rows
end Go.Proofs.YtmgglbnadkkedaaDoor
