/-
  No cell of these rows narrows 'for every input' (looked for: loops, veiled, ifaces, maps, wideKeys, modest, calm, conditions, laid).
  DERIVED. THE GIVEN ROWS OF THIS SEAT. 5 by the template 'for every input the law returns true; each argument reads behind the call as it read before'; 0 by the template 'total and deterministic' (their statements: YtlkipjpjkiffjaaTotals.lean).
  GIVEN WITH THE SEED: the statements are not yours to turn. If you find one false, say at which input.
  Laid BY PROGRAM, IN A SANDBOX (cutbox-rows.mjs): the forced cells as the released guide's own fill.sh prints them over the translation 527315493607b47c… (all of the seat's roots in one cut). By AI agents, Wed Nov 11 2026. No macro, syntax, notation, axiom, sorry.
-/
import Derived.Test.YtlkipjpjkiffjaaChecked
import GoSem.Claim
import GoSem.ClaimJoined
import GoSem.ClaimMapViews
import Derived.JoinedTies
import Derived.KernelRfl
namespace Go.Proofs.Ytlkipjpjkiffjaa
/- THE CELL 'sum', in the pinned program and in every row, IS THE sha256 OF THE DUMP (.gsa) THAT YtlkipjpjkiffjaaProg.lean LOADS. Nothing in Lean hashes anything: it is a label: what it is worth is what the hold of that sum in a sandbox is worth. -/
noncomputable def Try.pinned : Pinned := { name := "ytlkipjpjkiffjaa", sum := "527315493607b47c74e61ff1d81ad9d5a6a9409889ee0730326f944d01b51bae", checked := Try.checked }
namespace Rows
def none {H : Type} : Left H := { results := [], args := [] }

/-- 'airtimelaw16.BundleWrites': WHATEVER THE INPUT: true; the input reads as it did. -/
def bundleWritesSpec : ChangeSpec := { name := "bundleWrites", fn := fun _ => fun
  | [d] => { results := [.lit (.bool true)], args := [d] }
  | _ => none }
def bundleWritesRow : OpenClaim := { program := "ytlkipjpjkiffjaa", sum := "527315493607b47c74e61ff1d81ad9d5a6a9409889ee0730326f944d01b51bae", func := "airtime/airtimelaw16.BundleWrites", spec := "bundleWrites", apart := false }
def BundleWritesSaid : Prop := bundleWritesRow.holds Try.pinned (OpenSpec.ofChange bundleWritesSpec)

/-- ITS FALSE NEIGHBOUR: 'it returns false'. Refute it at one input. -/
def bundleWritesWrong : ChangeSpec := { name := "bundleWrites", fn := fun _ => fun
  | [d] => { results := [.lit (.bool false)], args := [d] }
  | _ => none }
def BundleWritesWrongFalsely : Prop := bundleWritesRow.holds Try.pinned (OpenSpec.ofChange bundleWritesWrong)

/-- 'airtimelaw16.BundleParses': WHATEVER THE INPUT: true; the input reads as it did. -/
def bundleParsesSpec : ChangeSpec := { name := "bundleParses", fn := fun _ => fun
  | [d] => { results := [.lit (.bool true)], args := [d] }
  | _ => none }
def bundleParsesRow : OpenClaim := { program := "ytlkipjpjkiffjaa", sum := "527315493607b47c74e61ff1d81ad9d5a6a9409889ee0730326f944d01b51bae", func := "airtime/airtimelaw16.BundleParses", spec := "bundleParses", apart := false }
def BundleParsesSaid : Prop := bundleParsesRow.holds Try.pinned (OpenSpec.ofChange bundleParsesSpec)

/-- ITS FALSE NEIGHBOUR: 'it returns false'. Refute it at one input. -/
def bundleParsesWrong : ChangeSpec := { name := "bundleParses", fn := fun _ => fun
  | [d] => { results := [.lit (.bool false)], args := [d] }
  | _ => none }
def BundleParsesWrongFalsely : Prop := bundleParsesRow.holds Try.pinned (OpenSpec.ofChange bundleParsesWrong)

/-- 'airtimelaw16.BundleReads': WHATEVER THE INPUT: true; the input reads as it did. -/
def bundleReadsSpec : ChangeSpec := { name := "bundleReads", fn := fun _ => fun
  | [d1, d2] => { results := [.lit (.bool true)], args := [d1, d2] }
  | _ => none }
def bundleReadsRow : OpenClaim := { program := "ytlkipjpjkiffjaa", sum := "527315493607b47c74e61ff1d81ad9d5a6a9409889ee0730326f944d01b51bae", func := "airtime/airtimelaw16.BundleReads", spec := "bundleReads", apart := false }
def BundleReadsSaid : Prop := bundleReadsRow.holds Try.pinned (OpenSpec.ofChange bundleReadsSpec)

/-- ITS FALSE NEIGHBOUR: 'it returns false'. Refute it at one input. -/
def bundleReadsWrong : ChangeSpec := { name := "bundleReads", fn := fun _ => fun
  | [d1, d2] => { results := [.lit (.bool false)], args := [d1, d2] }
  | _ => none }
def BundleReadsWrongFalsely : Prop := bundleReadsRow.holds Try.pinned (OpenSpec.ofChange bundleReadsWrong)

/-- 'airtimelaw16.BundleRooms': WHATEVER THE INPUT: true; the input reads as it did. -/
def bundleRoomsSpec : ChangeSpec := { name := "bundleRooms", fn := fun _ => fun
  | [d1, d2] => { results := [.lit (.bool true)], args := [d1, d2] }
  | _ => none }
def bundleRoomsRow : OpenClaim := { program := "ytlkipjpjkiffjaa", sum := "527315493607b47c74e61ff1d81ad9d5a6a9409889ee0730326f944d01b51bae", func := "airtime/airtimelaw16.BundleRooms", spec := "bundleRooms", apart := false }
def BundleRoomsSaid : Prop := bundleRoomsRow.holds Try.pinned (OpenSpec.ofChange bundleRoomsSpec)

/-- ITS FALSE NEIGHBOUR: 'it returns false'. Refute it at one input. -/
def bundleRoomsWrong : ChangeSpec := { name := "bundleRooms", fn := fun _ => fun
  | [d1, d2] => { results := [.lit (.bool false)], args := [d1, d2] }
  | _ => none }
def BundleRoomsWrongFalsely : Prop := bundleRoomsRow.holds Try.pinned (OpenSpec.ofChange bundleRoomsWrong)

/-- 'airtimelaw16.BundleFits': WHATEVER THE INPUT: true; the input reads as it did. -/
def bundleFitsSpec : ChangeSpec := { name := "bundleFits", fn := fun _ => fun
  | [d1, d2] => { results := [.lit (.bool true)], args := [d1, d2] }
  | _ => none }
def bundleFitsRow : OpenClaim := { program := "ytlkipjpjkiffjaa", sum := "527315493607b47c74e61ff1d81ad9d5a6a9409889ee0730326f944d01b51bae", func := "airtime/airtimelaw16.BundleFits", spec := "bundleFits", apart := false }
def BundleFitsSaid : Prop := bundleFitsRow.holds Try.pinned (OpenSpec.ofChange bundleFitsSpec)

/-- ITS FALSE NEIGHBOUR: 'it returns false'. Refute it at one input. -/
def bundleFitsWrong : ChangeSpec := { name := "bundleFits", fn := fun _ => fun
  | [d1, d2] => { results := [.lit (.bool false)], args := [d1, d2] }
  | _ => none }
def BundleFitsWrongFalsely : Prop := bundleFitsRow.holds Try.pinned (OpenSpec.ofChange bundleFitsWrong)

/- THE SECOND FORM. 'bulk': how many values and letters a reading holds, each counted each time it is reached (what is shared counts as often as it is met; a slice's spare places count too). A statement '..UptoSaid' is the law's where the arguments, and the package variables that the reading takes, are together of bulk at most 1048576: NARROWER than '..Said'. Prove '..Said' where nothing that the law and all that it calls make is longer than what came in: it says more and counts as full. Else prove '..UptoSaid'. A law counts once. -/
mutual
def uptoBulk {H : Type} : DataW H → Nat
  | .lit (.string bytes) => bytes.length + 1
  | .lit _ => 1
  | .nil => 1
  | .ptr d => uptoBulk d + 1
  | .slice elems spare => uptoBulkAll elems + uptoBulkAll spare + 1
  | .agg parts => uptoBulkAll parts + 1
  | .iface _ d => uptoBulk d + 1
  | .map entries => uptoBulkEntries entries + 1
  | .held _ => 1
def uptoBulkAll {H : Type} : List (DataW H) → Nat
  | [] => 0
  | d :: r => uptoBulk d + uptoBulkAll r
def uptoBulkEntries {H : Type} : List (Lit × DataW H) → Nat
  | [] => 0
  | x :: r => uptoBulkEntry x + uptoBulkEntries r
def uptoBulkEntry {H : Type} : Lit × DataW H → Nat
  | (.string bytes, d) => bytes.length + uptoBulk d + 1
  | (_, d) => uptoBulk d + 1
 end
def uptoSmall : (H : Type) → List (DataW H) → Bool := fun _ ds => decide (uptoBulkAll ds ≤ 1048576)
def OpenSpec.upto (s : _root_.Go.ChangeSpec) : _root_.Go.OpenSpec := { _root_.Go.OpenSpec.ofChange s with cond := some uptoSmall }

/-- 'airtimelaw16.BundleWrites', WHERE WHAT IT READS IS OF BULK AT MOST 1048576: true; the input reads as it did. -/
def bundleWritesUptoRow : OpenClaim := { program := "ytlkipjpjkiffjaa", sum := "527315493607b47c74e61ff1d81ad9d5a6a9409889ee0730326f944d01b51bae", func := "airtime/airtimelaw16.BundleWrites", spec := "bundleWrites", apart := false, narrowed := true }
def BundleWritesUptoSaid : Prop := bundleWritesUptoRow.holds Try.pinned (OpenSpec.upto bundleWritesSpec)

/-- 'airtimelaw16.BundleParses', WHERE WHAT IT READS IS OF BULK AT MOST 1048576: true; the input reads as it did. -/
def bundleParsesUptoRow : OpenClaim := { program := "ytlkipjpjkiffjaa", sum := "527315493607b47c74e61ff1d81ad9d5a6a9409889ee0730326f944d01b51bae", func := "airtime/airtimelaw16.BundleParses", spec := "bundleParses", apart := false, narrowed := true }
def BundleParsesUptoSaid : Prop := bundleParsesUptoRow.holds Try.pinned (OpenSpec.upto bundleParsesSpec)

/-- 'airtimelaw16.BundleReads', WHERE WHAT IT READS IS OF BULK AT MOST 1048576: true; the input reads as it did. -/
def bundleReadsUptoRow : OpenClaim := { program := "ytlkipjpjkiffjaa", sum := "527315493607b47c74e61ff1d81ad9d5a6a9409889ee0730326f944d01b51bae", func := "airtime/airtimelaw16.BundleReads", spec := "bundleReads", apart := false, narrowed := true }
def BundleReadsUptoSaid : Prop := bundleReadsUptoRow.holds Try.pinned (OpenSpec.upto bundleReadsSpec)

/-- 'airtimelaw16.BundleRooms', WHERE WHAT IT READS IS OF BULK AT MOST 1048576: true; the input reads as it did. -/
def bundleRoomsUptoRow : OpenClaim := { program := "ytlkipjpjkiffjaa", sum := "527315493607b47c74e61ff1d81ad9d5a6a9409889ee0730326f944d01b51bae", func := "airtime/airtimelaw16.BundleRooms", spec := "bundleRooms", apart := false, narrowed := true }
def BundleRoomsUptoSaid : Prop := bundleRoomsUptoRow.holds Try.pinned (OpenSpec.upto bundleRoomsSpec)

/-- 'airtimelaw16.BundleFits', WHERE WHAT IT READS IS OF BULK AT MOST 1048576: true; the input reads as it did. -/
def bundleFitsUptoRow : OpenClaim := { program := "ytlkipjpjkiffjaa", sum := "527315493607b47c74e61ff1d81ad9d5a6a9409889ee0730326f944d01b51bae", func := "airtime/airtimelaw16.BundleFits", spec := "bundleFits", apart := false, narrowed := true }
def BundleFitsUptoSaid : Prop := bundleFitsUptoRow.holds Try.pinned (OpenSpec.upto bundleFitsSpec)

end Rows
end Go.Proofs.Ytlkipjpjkiffjaa
