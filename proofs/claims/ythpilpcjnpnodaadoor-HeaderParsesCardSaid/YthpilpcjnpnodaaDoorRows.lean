/-
  NARROWER THAN 'FOR EVERY INPUT', by the rows' own cells (each row's printed sentence says how): HeaderChecks: laid · HeaderKinds: laid · HeaderWrites: laid · HeaderParses: laid · HeaderReads: laid · HeaderNames: laid.
  DERIVED. THE GIVEN ROWS OF THIS SEAT. 6 by the template 'for every input the law returns true; each argument reads behind the call as it read before'; 0 by the template 'total and deterministic' (their statements: YthpilpcjnpnodaaDoorTotals.lean).
  GIVEN WITH THE SEED: the statements are not yours to turn. If you find one false, say at which input.
  Laid BY PROGRAM, IN A SANDBOX (cutbox-rows.mjs): the forced cells as the released guide's own fill.sh prints them over the translation 9d61140d6b473bea… (all of the seat's roots in one cut). By AI agents, Wed Nov 11 2026. No macro, syntax, notation, axiom, sorry.
-/
import Derived.Test.YthpilpcjnpnodaaDoorChecked
import GoSem.Claim
import GoSem.ClaimJoined
import GoSem.ClaimMapViews
import Derived.JoinedTies
import Derived.KernelRfl
namespace Go.Proofs.YthpilpcjnpnodaaDoor
/- THE CELL 'sum', in the pinned program and in every row, IS THE sha256 OF THE DUMP (.gsa) THAT YthpilpcjnpnodaaDoorProg.lean LOADS. Nothing in Lean hashes anything: it is a label: what it is worth is what the hold of that sum in a sandbox is worth. -/
noncomputable def Tryd.pinned : Pinned := { name := "ythpilpcjnpnodaadoor", sum := "9d61140d6b473bea4dbd202f1adf01dc182f9457d26f187906827081e09a6535", checked := Tryd.checked }
namespace Rows
def none {H : Type} : Left H := { results := [], args := [] }

/- WHAT THE LISTED PACKAGE-LEVEL VARIABLES READ AS WHEN THE CALL BEGINS. Each datum BY PROGRAM (the guide's laid-datum.mjs) off the statement by which the dump's own 'gosem.cut.vars' lays the variable. In a bare row this is a premise. The card (YthpilpcjnpnodaaDoorCards.lean) ties it to the program's text. -/
def laid_airtime_header_kinds {H : Type} : DataW H := .agg [.agg [.lit (.string []), .lit (.int .i64 0), .lit (.int .i64 0), .lit (.int .i64 0), .lit (.int .i64 0)], .agg [.lit (.string [98, 101, 97, 99, 111, 110]), .lit (.int .i64 1), .lit (.int .i64 0), .lit (.int .i64 24), .lit (.int .i64 18181)], .agg [.lit (.string [112, 114, 111, 98, 101, 45, 114, 101, 113, 117, 101, 115, 116]), .lit (.int .i64 1), .lit (.int .i64 0), .lit (.int .i64 24), .lit (.int .i64 18181)], .agg [.lit (.string [112, 114, 111, 98, 101, 45, 114, 101, 115, 112, 111, 110, 115, 101]), .lit (.int .i64 1), .lit (.int .i64 14), .lit (.int .i64 24), .lit (.int .i64 18181)], .agg [.lit (.string [97, 117, 116, 104]), .lit (.int .i64 1), .lit (.int .i64 14), .lit (.int .i64 24), .lit (.int .i64 18181)], .agg [.lit (.string [97, 115, 115, 111, 99, 45, 114, 101, 113, 117, 101, 115, 116]), .lit (.int .i64 2), .lit (.int .i64 14), .lit (.int .i64 24), .lit (.int .i64 18181)], .agg [.lit (.string [97, 115, 115, 111, 99, 45, 114, 101, 115, 112, 111, 110, 115, 101]), .lit (.int .i64 2), .lit (.int .i64 14), .lit (.int .i64 24), .lit (.int .i64 18181)], .agg [.lit (.string [114, 101, 97, 115, 115, 111, 99, 45, 114, 101, 113, 117, 101, 115, 116]), .lit (.int .i64 2), .lit (.int .i64 14), .lit (.int .i64 24), .lit (.int .i64 18181)], .agg [.lit (.string [114, 101, 97, 115, 115, 111, 99, 45, 114, 101, 115, 112, 111, 110, 115, 101]), .lit (.int .i64 2), .lit (.int .i64 14), .lit (.int .i64 24), .lit (.int .i64 18181)], .agg [.lit (.string [100, 105, 115, 97, 115, 115, 111, 99]), .lit (.int .i64 2), .lit (.int .i64 14), .lit (.int .i64 24), .lit (.int .i64 18181)], .agg [.lit (.string [100, 101, 97, 117, 116, 104]), .lit (.int .i64 1), .lit (.int .i64 14), .lit (.int .i64 24), .lit (.int .i64 18181)], .agg [.lit (.string [97, 99, 116, 105, 111, 110]), .lit (.int .i64 3), .lit (.int .i64 14), .lit (.int .i64 24), .lit (.int .i64 18181)], .agg [.lit (.string [114, 116, 115]), .lit (.int .i64 1), .lit (.int .i64 13), .lit (.int .i64 16), .lit (.int .i64 256)], .agg [.lit (.string [99, 116, 115]), .lit (.int .i64 1), .lit (.int .i64 0), .lit (.int .i64 10), .lit (.int .i64 0)], .agg [.lit (.string [97, 99, 107]), .lit (.int .i64 1), .lit (.int .i64 0), .lit (.int .i64 10), .lit (.int .i64 0)], .agg [.lit (.string [98, 108, 111, 99, 107, 45, 114, 101, 113, 117, 101, 115, 116]), .lit (.int .i64 3), .lit (.int .i64 16), .lit (.int .i64 16), .lit (.int .i64 16640)], .agg [.lit (.string [98, 108, 111, 99, 107, 45, 97, 99, 107]), .lit (.int .i64 3), .lit (.int .i64 0), .lit (.int .i64 16), .lit (.int .i64 16640)], .agg [.lit (.string [112, 111, 108, 108]), .lit (.int .i64 3), .lit (.int .i64 14), .lit (.int .i64 16), .lit (.int .i64 256)], .agg [.lit (.string [100, 97, 116, 97]), .lit (.int .i64 3), .lit (.int .i64 14), .lit (.int .i64 27), .lit (.int .i64 32767)], .agg [.lit (.string [110, 117, 108, 108]), .lit (.int .i64 3), .lit (.int .i64 14), .lit (.int .i64 25), .lit (.int .i64 6109)]]

/-- 'airtimelaw10.HeaderChecks': WHATEVER THE INPUT: true; the input reads as it did. -/
def headerChecksSpec : ChangeSpec := { name := "headerChecks", fn := fun _ => fun
  | [d] => { results := [.lit (.bool true)], args := [d] }
  | _ => none }
def headerChecksRow : OpenClaim := { program := "ythpilpcjnpnodaadoor", sum := "9d61140d6b473bea4dbd202f1adf01dc182f9457d26f187906827081e09a6535", func := "airtime/airtimelaw10.HeaderChecks", spec := "headerChecks", named := ["airtime/header.kinds"], apart := false, laid := [("airtime/header.kinds", laid_airtime_header_kinds)] }
def HeaderChecksSaid : Prop := headerChecksRow.holds Tryd.pinned (OpenSpec.ofChange headerChecksSpec)

/-- ITS FALSE NEIGHBOUR: 'it returns false'. Refute it at one input. -/
def headerChecksWrong : ChangeSpec := { name := "headerChecks", fn := fun _ => fun
  | [d] => { results := [.lit (.bool false)], args := [d] }
  | _ => none }
def HeaderChecksWrongFalsely : Prop := headerChecksRow.holds Tryd.pinned (OpenSpec.ofChange headerChecksWrong)

/-- 'airtimelaw10.HeaderKinds': WHATEVER THE INPUT: true; the input reads as it did. -/
def headerKindsSpec : ChangeSpec := { name := "headerKinds", fn := fun _ => fun
  | [d1, d2] => { results := [.lit (.bool true)], args := [d1, d2] }
  | _ => none }
def headerKindsRow : OpenClaim := { program := "ythpilpcjnpnodaadoor", sum := "9d61140d6b473bea4dbd202f1adf01dc182f9457d26f187906827081e09a6535", func := "airtime/airtimelaw10.HeaderKinds", spec := "headerKinds", named := ["airtime/header.kinds"], apart := false, laid := [("airtime/header.kinds", laid_airtime_header_kinds)] }
def HeaderKindsSaid : Prop := headerKindsRow.holds Tryd.pinned (OpenSpec.ofChange headerKindsSpec)

/-- ITS FALSE NEIGHBOUR: 'it returns false'. Refute it at one input. -/
def headerKindsWrong : ChangeSpec := { name := "headerKinds", fn := fun _ => fun
  | [d1, d2] => { results := [.lit (.bool false)], args := [d1, d2] }
  | _ => none }
def HeaderKindsWrongFalsely : Prop := headerKindsRow.holds Tryd.pinned (OpenSpec.ofChange headerKindsWrong)

/-- 'airtimelaw10.HeaderWrites': WHATEVER THE INPUT: true; the input reads as it did. -/
def headerWritesSpec : ChangeSpec := { name := "headerWrites", fn := fun _ => fun
  | [d1, d2] => { results := [.lit (.bool true)], args := [d1, d2] }
  | _ => none }
def headerWritesRow : OpenClaim := { program := "ythpilpcjnpnodaadoor", sum := "9d61140d6b473bea4dbd202f1adf01dc182f9457d26f187906827081e09a6535", func := "airtime/airtimelaw10.HeaderWrites", spec := "headerWrites", named := ["airtime/header.kinds"], apart := false, laid := [("airtime/header.kinds", laid_airtime_header_kinds)] }
def HeaderWritesSaid : Prop := headerWritesRow.holds Tryd.pinned (OpenSpec.ofChange headerWritesSpec)

/-- ITS FALSE NEIGHBOUR: 'it returns false'. Refute it at one input. -/
def headerWritesWrong : ChangeSpec := { name := "headerWrites", fn := fun _ => fun
  | [d1, d2] => { results := [.lit (.bool false)], args := [d1, d2] }
  | _ => none }
def HeaderWritesWrongFalsely : Prop := headerWritesRow.holds Tryd.pinned (OpenSpec.ofChange headerWritesWrong)

/-- 'airtimelaw10.HeaderParses': WHATEVER THE INPUT: true; the input reads as it did. -/
def headerParsesSpec : ChangeSpec := { name := "headerParses", fn := fun _ => fun
  | [d] => { results := [.lit (.bool true)], args := [d] }
  | _ => none }
def headerParsesRow : OpenClaim := { program := "ythpilpcjnpnodaadoor", sum := "9d61140d6b473bea4dbd202f1adf01dc182f9457d26f187906827081e09a6535", func := "airtime/airtimelaw10.HeaderParses", spec := "headerParses", named := ["airtime/header.kinds"], apart := false, laid := [("airtime/header.kinds", laid_airtime_header_kinds)] }
def HeaderParsesSaid : Prop := headerParsesRow.holds Tryd.pinned (OpenSpec.ofChange headerParsesSpec)

/-- ITS FALSE NEIGHBOUR: 'it returns false'. Refute it at one input. -/
def headerParsesWrong : ChangeSpec := { name := "headerParses", fn := fun _ => fun
  | [d] => { results := [.lit (.bool false)], args := [d] }
  | _ => none }
def HeaderParsesWrongFalsely : Prop := headerParsesRow.holds Tryd.pinned (OpenSpec.ofChange headerParsesWrong)

/-- 'airtimelaw10.HeaderReads': WHATEVER THE INPUT: true; the input reads as it did. -/
def headerReadsSpec : ChangeSpec := { name := "headerReads", fn := fun _ => fun
  | [d1, d2] => { results := [.lit (.bool true)], args := [d1, d2] }
  | _ => none }
def headerReadsRow : OpenClaim := { program := "ythpilpcjnpnodaadoor", sum := "9d61140d6b473bea4dbd202f1adf01dc182f9457d26f187906827081e09a6535", func := "airtime/airtimelaw10.HeaderReads", spec := "headerReads", named := ["airtime/header.kinds"], apart := false, laid := [("airtime/header.kinds", laid_airtime_header_kinds)] }
def HeaderReadsSaid : Prop := headerReadsRow.holds Tryd.pinned (OpenSpec.ofChange headerReadsSpec)

/-- ITS FALSE NEIGHBOUR: 'it returns false'. Refute it at one input. -/
def headerReadsWrong : ChangeSpec := { name := "headerReads", fn := fun _ => fun
  | [d1, d2] => { results := [.lit (.bool false)], args := [d1, d2] }
  | _ => none }
def HeaderReadsWrongFalsely : Prop := headerReadsRow.holds Tryd.pinned (OpenSpec.ofChange headerReadsWrong)

/-- 'airtimelaw10.HeaderNames': WHATEVER THE INPUT: true; the input reads as it did. -/
def headerNamesSpec : ChangeSpec := { name := "headerNames", fn := fun _ => fun
  | [d] => { results := [.lit (.bool true)], args := [d] }
  | _ => none }
def headerNamesRow : OpenClaim := { program := "ythpilpcjnpnodaadoor", sum := "9d61140d6b473bea4dbd202f1adf01dc182f9457d26f187906827081e09a6535", func := "airtime/airtimelaw10.HeaderNames", spec := "headerNames", named := ["airtime/header.kinds"], apart := false, laid := [("airtime/header.kinds", laid_airtime_header_kinds)] }
def HeaderNamesSaid : Prop := headerNamesRow.holds Tryd.pinned (OpenSpec.ofChange headerNamesSpec)

/-- ITS FALSE NEIGHBOUR: 'it returns false'. Refute it at one input. -/
def headerNamesWrong : ChangeSpec := { name := "headerNames", fn := fun _ => fun
  | [d] => { results := [.lit (.bool false)], args := [d] }
  | _ => none }
def HeaderNamesWrongFalsely : Prop := headerNamesRow.holds Tryd.pinned (OpenSpec.ofChange headerNamesWrong)

/- THE SECOND FORM. 'bulk': how many values and letters a reading holds, each counted each time it is reached (what is shared counts as often as it is met; a slice's spare places count too). A statement '..UptoSaid' is the law's where the arguments, and the package variables that the reading takes, are together of bulk at most 1048576: NARROWER than '..Said'. Prove '..Said' where nothing that the law and all that it calls make is longer than what came in: it says more and counts as full. Else prove '..UptoSaid'. A law counts once. -/
mutual
def uptoBulk {H : Type} : DataW H → Nat
  | .lit (.string bytes) => bytes.length + 1
  | .lit _ => 1
  | .nil => 1
  | .ptr d => uptoBulk d + 1
  | .slice elems spare => uptoBulkAll elems + uptoBulkAll spare + 1
  | .agg parts => uptoBulkAll parts + 1
  | .iface _ d => uptoBulk d + 1
  | .map entries => uptoBulkEntries entries + 1
  | .held _ => 1
def uptoBulkAll {H : Type} : List (DataW H) → Nat
  | [] => 0
  | d :: r => uptoBulk d + uptoBulkAll r
def uptoBulkEntries {H : Type} : List (Lit × DataW H) → Nat
  | [] => 0
  | x :: r => uptoBulkEntry x + uptoBulkEntries r
def uptoBulkEntry {H : Type} : Lit × DataW H → Nat
  | (.string bytes, d) => bytes.length + uptoBulk d + 1
  | (_, d) => uptoBulk d + 1
 end
def uptoSmall : (H : Type) → List (DataW H) → Bool := fun _ ds => decide (uptoBulkAll ds ≤ 1048576)
def OpenSpec.upto (s : _root_.Go.ChangeSpec) : _root_.Go.OpenSpec := { _root_.Go.OpenSpec.ofChange s with cond := some uptoSmall }

/-- 'airtimelaw10.HeaderChecks', WHERE WHAT IT READS IS OF BULK AT MOST 1048576: true; the input reads as it did. -/
def headerChecksUptoRow : OpenClaim := { program := "ythpilpcjnpnodaadoor", sum := "9d61140d6b473bea4dbd202f1adf01dc182f9457d26f187906827081e09a6535", func := "airtime/airtimelaw10.HeaderChecks", spec := "headerChecks", named := ["airtime/header.kinds"], apart := false, laid := [("airtime/header.kinds", laid_airtime_header_kinds)], narrowed := true }
def HeaderChecksUptoSaid : Prop := headerChecksUptoRow.holds Tryd.pinned (OpenSpec.upto headerChecksSpec)

/-- 'airtimelaw10.HeaderKinds', WHERE WHAT IT READS IS OF BULK AT MOST 1048576: true; the input reads as it did. -/
def headerKindsUptoRow : OpenClaim := { program := "ythpilpcjnpnodaadoor", sum := "9d61140d6b473bea4dbd202f1adf01dc182f9457d26f187906827081e09a6535", func := "airtime/airtimelaw10.HeaderKinds", spec := "headerKinds", named := ["airtime/header.kinds"], apart := false, laid := [("airtime/header.kinds", laid_airtime_header_kinds)], narrowed := true }
def HeaderKindsUptoSaid : Prop := headerKindsUptoRow.holds Tryd.pinned (OpenSpec.upto headerKindsSpec)

/-- 'airtimelaw10.HeaderWrites', WHERE WHAT IT READS IS OF BULK AT MOST 1048576: true; the input reads as it did. -/
def headerWritesUptoRow : OpenClaim := { program := "ythpilpcjnpnodaadoor", sum := "9d61140d6b473bea4dbd202f1adf01dc182f9457d26f187906827081e09a6535", func := "airtime/airtimelaw10.HeaderWrites", spec := "headerWrites", named := ["airtime/header.kinds"], apart := false, laid := [("airtime/header.kinds", laid_airtime_header_kinds)], narrowed := true }
def HeaderWritesUptoSaid : Prop := headerWritesUptoRow.holds Tryd.pinned (OpenSpec.upto headerWritesSpec)

/-- 'airtimelaw10.HeaderParses', WHERE WHAT IT READS IS OF BULK AT MOST 1048576: true; the input reads as it did. -/
def headerParsesUptoRow : OpenClaim := { program := "ythpilpcjnpnodaadoor", sum := "9d61140d6b473bea4dbd202f1adf01dc182f9457d26f187906827081e09a6535", func := "airtime/airtimelaw10.HeaderParses", spec := "headerParses", named := ["airtime/header.kinds"], apart := false, laid := [("airtime/header.kinds", laid_airtime_header_kinds)], narrowed := true }
def HeaderParsesUptoSaid : Prop := headerParsesUptoRow.holds Tryd.pinned (OpenSpec.upto headerParsesSpec)

/-- 'airtimelaw10.HeaderReads', WHERE WHAT IT READS IS OF BULK AT MOST 1048576: true; the input reads as it did. -/
def headerReadsUptoRow : OpenClaim := { program := "ythpilpcjnpnodaadoor", sum := "9d61140d6b473bea4dbd202f1adf01dc182f9457d26f187906827081e09a6535", func := "airtime/airtimelaw10.HeaderReads", spec := "headerReads", named := ["airtime/header.kinds"], apart := false, laid := [("airtime/header.kinds", laid_airtime_header_kinds)], narrowed := true }
def HeaderReadsUptoSaid : Prop := headerReadsUptoRow.holds Tryd.pinned (OpenSpec.upto headerReadsSpec)

/-- 'airtimelaw10.HeaderNames', WHERE WHAT IT READS IS OF BULK AT MOST 1048576: true; the input reads as it did. -/
def headerNamesUptoRow : OpenClaim := { program := "ythpilpcjnpnodaadoor", sum := "9d61140d6b473bea4dbd202f1adf01dc182f9457d26f187906827081e09a6535", func := "airtime/airtimelaw10.HeaderNames", spec := "headerNames", named := ["airtime/header.kinds"], apart := false, laid := [("airtime/header.kinds", laid_airtime_header_kinds)], narrowed := true }
def HeaderNamesUptoSaid : Prop := headerNamesUptoRow.holds Tryd.pinned (OpenSpec.upto headerNamesSpec)

end Rows
end Go.Proofs.YthpilpcjnpnodaaDoor
