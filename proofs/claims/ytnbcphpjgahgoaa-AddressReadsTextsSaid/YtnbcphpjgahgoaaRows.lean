/-
  No cell of these rows narrows 'for every input' (looked for: loops, veiled, ifaces, maps, wideKeys, modest, calm, conditions, laid).
  DERIVED. THE GIVEN ROWS OF THIS SEAT. 5 by the template 'for every input the law returns true; each argument reads behind the call as it read before'; 0 by the template 'total and deterministic' (their statements: YtnbcphpjgahgoaaTotals.lean).
  GIVEN WITH THE SEED: the statements are not yours to turn. If you find one false, say at which input.
  Laid BY PROGRAM, IN A SANDBOX (cutbox-rows.mjs): the forced cells as the released guide's own fill.sh prints them over the translation 8f32d95e6b12eb45… (all of the seat's roots in one cut). By AI agents, Wed Nov 11 2026. No macro, syntax, notation, axiom, sorry.
-/
import Derived.Test.YtnbcphpjgahgoaaChecked
import GoSem.Claim
import GoSem.ClaimJoined
import GoSem.ClaimMapViews
import Derived.JoinedTies
import Derived.KernelRfl
namespace Go.Proofs.Ytnbcphpjgahgoaa
/- THE CELL 'sum', in the pinned program and in every row, IS THE sha256 OF THE DUMP (.gsa) THAT YtnbcphpjgahgoaaProg.lean LOADS. Nothing in Lean hashes anything: it is a label: what it is worth is what the hold of that sum in a sandbox is worth. -/
noncomputable def Try.pinned : Pinned := { name := "ytnbcphpjgahgoaa", sum := "8f32d95e6b12eb45a5f8a61843a90f871f507426b1e1cea478f76d5bde4a2bc6", checked := Try.checked }
namespace Rows
def none {H : Type} : Left H := { results := [], args := [] }

/-- 'airtimelaw05.AddressParses': WHATEVER THE INPUT: true; the input reads as it did. -/
def addressParsesSpec : ChangeSpec := { name := "addressParses", fn := fun _ => fun
  | [d] => { results := [.lit (.bool true)], args := [d] }
  | _ => none }
def addressParsesRow : OpenClaim := { program := "ytnbcphpjgahgoaa", sum := "8f32d95e6b12eb45a5f8a61843a90f871f507426b1e1cea478f76d5bde4a2bc6", func := "airtime/airtimelaw05.AddressParses", spec := "addressParses", inPlace := ["internal/bytealg.IndexByteString"], apart := false }
def AddressParsesSaid : Prop := addressParsesRow.holds Try.pinned (OpenSpec.ofChange addressParsesSpec)

/-- ITS FALSE NEIGHBOUR: 'it returns false'. Refute it at one input. -/
def addressParsesWrong : ChangeSpec := { name := "addressParses", fn := fun _ => fun
  | [d] => { results := [.lit (.bool false)], args := [d] }
  | _ => none }
def AddressParsesWrongFalsely : Prop := addressParsesRow.holds Try.pinned (OpenSpec.ofChange addressParsesWrong)

/-- 'airtimelaw05.AddressKinds': WHATEVER THE INPUT: true; the input reads as it did. -/
def addressKindsSpec : ChangeSpec := { name := "addressKinds", fn := fun _ => fun
  | [d] => { results := [.lit (.bool true)], args := [d] }
  | _ => none }
def addressKindsRow : OpenClaim := { program := "ytnbcphpjgahgoaa", sum := "8f32d95e6b12eb45a5f8a61843a90f871f507426b1e1cea478f76d5bde4a2bc6", func := "airtime/airtimelaw05.AddressKinds", spec := "addressKinds", inPlace := ["internal/bytealg.IndexByteString"], apart := false }
def AddressKindsSaid : Prop := addressKindsRow.holds Try.pinned (OpenSpec.ofChange addressKindsSpec)

/-- ITS FALSE NEIGHBOUR: 'it returns false'. Refute it at one input. -/
def addressKindsWrong : ChangeSpec := { name := "addressKinds", fn := fun _ => fun
  | [d] => { results := [.lit (.bool false)], args := [d] }
  | _ => none }
def AddressKindsWrongFalsely : Prop := addressKindsRow.holds Try.pinned (OpenSpec.ofChange addressKindsWrong)

/-- 'airtimelaw05.AddressNodes': WHATEVER THE INPUT: true; the input reads as it did. -/
def addressNodesSpec : ChangeSpec := { name := "addressNodes", fn := fun _ => fun
  | [d1, d2] => { results := [.lit (.bool true)], args := [d1, d2] }
  | _ => none }
def addressNodesRow : OpenClaim := { program := "ytnbcphpjgahgoaa", sum := "8f32d95e6b12eb45a5f8a61843a90f871f507426b1e1cea478f76d5bde4a2bc6", func := "airtime/airtimelaw05.AddressNodes", spec := "addressNodes", inPlace := ["internal/bytealg.IndexByteString"], apart := false }
def AddressNodesSaid : Prop := addressNodesRow.holds Try.pinned (OpenSpec.ofChange addressNodesSpec)

/-- ITS FALSE NEIGHBOUR: 'it returns false'. Refute it at one input. -/
def addressNodesWrong : ChangeSpec := { name := "addressNodes", fn := fun _ => fun
  | [d1, d2] => { results := [.lit (.bool false)], args := [d1, d2] }
  | _ => none }
def AddressNodesWrongFalsely : Prop := addressNodesRow.holds Try.pinned (OpenSpec.ofChange addressNodesWrong)

/-- 'airtimelaw05.AddressReadsTexts': WHATEVER THE INPUT: true; the input reads as it did. -/
def addressReadsTextsSpec : ChangeSpec := { name := "addressReadsTexts", fn := fun _ => fun
  | [d] => { results := [.lit (.bool true)], args := [d] }
  | _ => none }
def addressReadsTextsRow : OpenClaim := { program := "ytnbcphpjgahgoaa", sum := "8f32d95e6b12eb45a5f8a61843a90f871f507426b1e1cea478f76d5bde4a2bc6", func := "airtime/airtimelaw05.AddressReadsTexts", spec := "addressReadsTexts", inPlace := ["internal/bytealg.IndexByteString"], apart := false }
def AddressReadsTextsSaid : Prop := addressReadsTextsRow.holds Try.pinned (OpenSpec.ofChange addressReadsTextsSpec)

/-- ITS FALSE NEIGHBOUR: 'it returns false'. Refute it at one input. -/
def addressReadsTextsWrong : ChangeSpec := { name := "addressReadsTexts", fn := fun _ => fun
  | [d] => { results := [.lit (.bool false)], args := [d] }
  | _ => none }
def AddressReadsTextsWrongFalsely : Prop := addressReadsTextsRow.holds Try.pinned (OpenSpec.ofChange addressReadsTextsWrong)

/-- 'airtimelaw05.AddressReads': WHATEVER THE INPUT: true; the input reads as it did. -/
def addressReadsSpec : ChangeSpec := { name := "addressReads", fn := fun _ => fun
  | [d] => { results := [.lit (.bool true)], args := [d] }
  | _ => none }
def addressReadsRow : OpenClaim := { program := "ytnbcphpjgahgoaa", sum := "8f32d95e6b12eb45a5f8a61843a90f871f507426b1e1cea478f76d5bde4a2bc6", func := "airtime/airtimelaw05.AddressReads", spec := "addressReads", inPlace := ["internal/bytealg.IndexByteString"], apart := false }
def AddressReadsSaid : Prop := addressReadsRow.holds Try.pinned (OpenSpec.ofChange addressReadsSpec)

/-- ITS FALSE NEIGHBOUR: 'it returns false'. Refute it at one input. -/
def addressReadsWrong : ChangeSpec := { name := "addressReads", fn := fun _ => fun
  | [d] => { results := [.lit (.bool false)], args := [d] }
  | _ => none }
def AddressReadsWrongFalsely : Prop := addressReadsRow.holds Try.pinned (OpenSpec.ofChange addressReadsWrong)

/- THE SECOND FORM. 'bulk': how many values and letters a reading holds, each counted each time it is reached (what is shared counts as often as it is met; a slice's spare places count too). A statement '..UptoSaid' is the law's where the arguments, and the package variables that the reading takes, are together of bulk at most 1048576: NARROWER than '..Said'. Prove '..Said' where nothing that the law and all that it calls make is longer than what came in: it says more and counts as full. Else prove '..UptoSaid'. A law counts once. -/
mutual
def uptoBulk {H : Type} : DataW H → Nat
  | .lit (.string bytes) => bytes.length + 1
  | .lit _ => 1
  | .nil => 1
  | .ptr d => uptoBulk d + 1
  | .slice elems spare => uptoBulkAll elems + uptoBulkAll spare + 1
  | .agg parts => uptoBulkAll parts + 1
  | .iface _ d => uptoBulk d + 1
  | .map entries => uptoBulkEntries entries + 1
  | .held _ => 1
def uptoBulkAll {H : Type} : List (DataW H) → Nat
  | [] => 0
  | d :: r => uptoBulk d + uptoBulkAll r
def uptoBulkEntries {H : Type} : List (Lit × DataW H) → Nat
  | [] => 0
  | x :: r => uptoBulkEntry x + uptoBulkEntries r
def uptoBulkEntry {H : Type} : Lit × DataW H → Nat
  | (.string bytes, d) => bytes.length + uptoBulk d + 1
  | (_, d) => uptoBulk d + 1
 end
def uptoSmall : (H : Type) → List (DataW H) → Bool := fun _ ds => decide (uptoBulkAll ds ≤ 1048576)
def OpenSpec.upto (s : _root_.Go.ChangeSpec) : _root_.Go.OpenSpec := { _root_.Go.OpenSpec.ofChange s with cond := some uptoSmall }

/-- 'airtimelaw05.AddressParses', WHERE WHAT IT READS IS OF BULK AT MOST 1048576: true; the input reads as it did. -/
def addressParsesUptoRow : OpenClaim := { program := "ytnbcphpjgahgoaa", sum := "8f32d95e6b12eb45a5f8a61843a90f871f507426b1e1cea478f76d5bde4a2bc6", func := "airtime/airtimelaw05.AddressParses", spec := "addressParses", inPlace := ["internal/bytealg.IndexByteString"], apart := false, narrowed := true }
def AddressParsesUptoSaid : Prop := addressParsesUptoRow.holds Try.pinned (OpenSpec.upto addressParsesSpec)

/-- 'airtimelaw05.AddressKinds', WHERE WHAT IT READS IS OF BULK AT MOST 1048576: true; the input reads as it did. -/
def addressKindsUptoRow : OpenClaim := { program := "ytnbcphpjgahgoaa", sum := "8f32d95e6b12eb45a5f8a61843a90f871f507426b1e1cea478f76d5bde4a2bc6", func := "airtime/airtimelaw05.AddressKinds", spec := "addressKinds", inPlace := ["internal/bytealg.IndexByteString"], apart := false, narrowed := true }
def AddressKindsUptoSaid : Prop := addressKindsUptoRow.holds Try.pinned (OpenSpec.upto addressKindsSpec)

/-- 'airtimelaw05.AddressNodes', WHERE WHAT IT READS IS OF BULK AT MOST 1048576: true; the input reads as it did. -/
def addressNodesUptoRow : OpenClaim := { program := "ytnbcphpjgahgoaa", sum := "8f32d95e6b12eb45a5f8a61843a90f871f507426b1e1cea478f76d5bde4a2bc6", func := "airtime/airtimelaw05.AddressNodes", spec := "addressNodes", inPlace := ["internal/bytealg.IndexByteString"], apart := false, narrowed := true }
def AddressNodesUptoSaid : Prop := addressNodesUptoRow.holds Try.pinned (OpenSpec.upto addressNodesSpec)

/-- 'airtimelaw05.AddressReadsTexts', WHERE WHAT IT READS IS OF BULK AT MOST 1048576: true; the input reads as it did. -/
def addressReadsTextsUptoRow : OpenClaim := { program := "ytnbcphpjgahgoaa", sum := "8f32d95e6b12eb45a5f8a61843a90f871f507426b1e1cea478f76d5bde4a2bc6", func := "airtime/airtimelaw05.AddressReadsTexts", spec := "addressReadsTexts", inPlace := ["internal/bytealg.IndexByteString"], apart := false, narrowed := true }
def AddressReadsTextsUptoSaid : Prop := addressReadsTextsUptoRow.holds Try.pinned (OpenSpec.upto addressReadsTextsSpec)

/-- 'airtimelaw05.AddressReads', WHERE WHAT IT READS IS OF BULK AT MOST 1048576: true; the input reads as it did. -/
def addressReadsUptoRow : OpenClaim := { program := "ytnbcphpjgahgoaa", sum := "8f32d95e6b12eb45a5f8a61843a90f871f507426b1e1cea478f76d5bde4a2bc6", func := "airtime/airtimelaw05.AddressReads", spec := "addressReads", inPlace := ["internal/bytealg.IndexByteString"], apart := false, narrowed := true }
def AddressReadsUptoSaid : Prop := addressReadsUptoRow.holds Try.pinned (OpenSpec.upto addressReadsSpec)

end Rows
end Go.Proofs.Ytnbcphpjgahgoaa
