/-
  NARROWER THAN 'FOR EVERY INPUT', by the rows' own cells (each row's printed sentence says how): PhyFits: laid · PhyRates: laid · PhySlots: laid · PhyOrder: laid · PhyBest: laid.
  DERIVED. THE GIVEN ROWS OF THIS SEAT. 5 by the template 'for every input the law returns true; each argument reads behind the call as it read before'; 0 by the template 'total and deterministic' (their statements: YtehmolfnpppfpaaDoorTotals.lean).
  GIVEN WITH THE SEED: the statements are not yours to turn. If you find one false, say at which input.
  Laid BY PROGRAM, IN A SANDBOX (cutbox-rows.mjs): the forced cells as the released guide's own fill.sh prints them over the translation 928adf0f4643463a… (all of the seat's roots in one cut). By AI agents, Wed Nov 11 2026. No macro, syntax, notation, axiom, sorry.
-/
import Derived.Test.YtehmolfnpppfpaaDoorChecked
import GoSem.Claim
import GoSem.ClaimJoined
import GoSem.ClaimMapViews
import Derived.JoinedTies
import Derived.KernelRfl
namespace Go.Proofs.YtehmolfnpppfpaaDoor
/- THE CELL 'sum', in the pinned program and in every row, IS THE sha256 OF THE DUMP (.gsa) THAT YtehmolfnpppfpaaDoorProg.lean LOADS. Nothing in Lean hashes anything: it is a label: what it is worth is what the hold of that sum in a sandbox is worth. -/
noncomputable def Tryd.pinned : Pinned := { name := "ytehmolfnpppfpaadoor", sum := "928adf0f4643463a2629dee7ddf3839ef5327b246c22860d605e7c9b1c286333", checked := Tryd.checked }
namespace Rows
def none {H : Type} : Left H := { results := [], args := [] }

/- WHAT THE LISTED PACKAGE-LEVEL VARIABLES READ AS WHEN THE CALL BEGINS. Each datum BY PROGRAM (the guide's laid-datum.mjs) off the statement by which the dump's own 'gosem.cut.vars' lays the variable. In a bare row this is a premise. The card (YtehmolfnpppfpaaDoorCards.lean) ties it to the program's text. -/
def laid_airtime_phy_dataBits {H : Type} : DataW H := .agg [.lit (.int .i64 24), .lit (.int .i64 36), .lit (.int .i64 48), .lit (.int .i64 72), .lit (.int .i64 96), .lit (.int .i64 144), .lit (.int .i64 192), .lit (.int .i64 216)]
def laid_airtime_phy_needed {H : Type} : DataW H := .agg [.lit (.int .i64 5), .lit (.int .i64 6), .lit (.int .i64 7), .lit (.int .i64 9), .lit (.int .i64 12), .lit (.int .i64 16), .lit (.int .i64 20), .lit (.int .i64 21)]
def laid_airtime_phy_basicRates {H : Type} : DataW H := .agg [.lit (.int .i64 0), .lit (.int .i64 2), .lit (.int .i64 4)]

/-- 'airtimelaw08.PhyFits': WHATEVER THE INPUT: true; the input reads as it did. -/
def phyFitsSpec : ChangeSpec := { name := "phyFits", fn := fun _ => fun
  | [d1, d2] => { results := [.lit (.bool true)], args := [d1, d2] }
  | _ => none }
def phyFitsRow : OpenClaim := { program := "ytehmolfnpppfpaadoor", sum := "928adf0f4643463a2629dee7ddf3839ef5327b246c22860d605e7c9b1c286333", func := "airtime/airtimelaw08.PhyFits", spec := "phyFits", named := ["airtime/phy.dataBits", "airtime/phy.basicRates", "airtime/phy.needed"], apart := false, laid := [("airtime/phy.dataBits", laid_airtime_phy_dataBits), ("airtime/phy.needed", laid_airtime_phy_needed), ("airtime/phy.basicRates", laid_airtime_phy_basicRates)] }
def PhyFitsSaid : Prop := phyFitsRow.holds Tryd.pinned (OpenSpec.ofChange phyFitsSpec)

/-- ITS FALSE NEIGHBOUR: 'it returns false'. Refute it at one input. -/
def phyFitsWrong : ChangeSpec := { name := "phyFits", fn := fun _ => fun
  | [d1, d2] => { results := [.lit (.bool false)], args := [d1, d2] }
  | _ => none }
def PhyFitsWrongFalsely : Prop := phyFitsRow.holds Tryd.pinned (OpenSpec.ofChange phyFitsWrong)

/-- 'airtimelaw08.PhyRates': WHATEVER THE INPUT: true; the input reads as it did. -/
def phyRatesSpec : ChangeSpec := { name := "phyRates", fn := fun _ => fun
  | [d1, d2] => { results := [.lit (.bool true)], args := [d1, d2] }
  | _ => none }
def phyRatesRow : OpenClaim := { program := "ytehmolfnpppfpaadoor", sum := "928adf0f4643463a2629dee7ddf3839ef5327b246c22860d605e7c9b1c286333", func := "airtime/airtimelaw08.PhyRates", spec := "phyRates", named := ["airtime/phy.dataBits", "airtime/phy.needed", "airtime/phy.basicRates"], apart := false, laid := [("airtime/phy.dataBits", laid_airtime_phy_dataBits), ("airtime/phy.needed", laid_airtime_phy_needed), ("airtime/phy.basicRates", laid_airtime_phy_basicRates)] }
def PhyRatesSaid : Prop := phyRatesRow.holds Tryd.pinned (OpenSpec.ofChange phyRatesSpec)

/-- ITS FALSE NEIGHBOUR: 'it returns false'. Refute it at one input. -/
def phyRatesWrong : ChangeSpec := { name := "phyRates", fn := fun _ => fun
  | [d1, d2] => { results := [.lit (.bool false)], args := [d1, d2] }
  | _ => none }
def PhyRatesWrongFalsely : Prop := phyRatesRow.holds Tryd.pinned (OpenSpec.ofChange phyRatesWrong)

/-- 'airtimelaw08.PhySlots': WHATEVER THE INPUT: true; the input reads as it did. -/
def phySlotsSpec : ChangeSpec := { name := "phySlots", fn := fun _ => fun
  | [d1, d2] => { results := [.lit (.bool true)], args := [d1, d2] }
  | _ => none }
def phySlotsRow : OpenClaim := { program := "ytehmolfnpppfpaadoor", sum := "928adf0f4643463a2629dee7ddf3839ef5327b246c22860d605e7c9b1c286333", func := "airtime/airtimelaw08.PhySlots", spec := "phySlots", named := ["airtime/phy.dataBits", "airtime/phy.basicRates", "airtime/phy.needed"], apart := false, laid := [("airtime/phy.dataBits", laid_airtime_phy_dataBits), ("airtime/phy.needed", laid_airtime_phy_needed), ("airtime/phy.basicRates", laid_airtime_phy_basicRates)] }
def PhySlotsSaid : Prop := phySlotsRow.holds Tryd.pinned (OpenSpec.ofChange phySlotsSpec)

/-- ITS FALSE NEIGHBOUR: 'it returns false'. Refute it at one input. -/
def phySlotsWrong : ChangeSpec := { name := "phySlots", fn := fun _ => fun
  | [d1, d2] => { results := [.lit (.bool false)], args := [d1, d2] }
  | _ => none }
def PhySlotsWrongFalsely : Prop := phySlotsRow.holds Tryd.pinned (OpenSpec.ofChange phySlotsWrong)

/-- 'airtimelaw08.PhyOrder': WHATEVER THE INPUT: true; the input reads as it did. -/
def phyOrderSpec : ChangeSpec := { name := "phyOrder", fn := fun _ => fun
  | [d1, d2, d3, d4] => { results := [.lit (.bool true)], args := [d1, d2, d3, d4] }
  | _ => none }
def phyOrderRow : OpenClaim := { program := "ytehmolfnpppfpaadoor", sum := "928adf0f4643463a2629dee7ddf3839ef5327b246c22860d605e7c9b1c286333", func := "airtime/airtimelaw08.PhyOrder", spec := "phyOrder", named := ["airtime/phy.dataBits", "airtime/phy.needed", "airtime/phy.basicRates"], apart := false, laid := [("airtime/phy.dataBits", laid_airtime_phy_dataBits), ("airtime/phy.needed", laid_airtime_phy_needed), ("airtime/phy.basicRates", laid_airtime_phy_basicRates)] }
def PhyOrderSaid : Prop := phyOrderRow.holds Tryd.pinned (OpenSpec.ofChange phyOrderSpec)

/-- ITS FALSE NEIGHBOUR: 'it returns false'. Refute it at one input. -/
def phyOrderWrong : ChangeSpec := { name := "phyOrder", fn := fun _ => fun
  | [d1, d2, d3, d4] => { results := [.lit (.bool false)], args := [d1, d2, d3, d4] }
  | _ => none }
def PhyOrderWrongFalsely : Prop := phyOrderRow.holds Tryd.pinned (OpenSpec.ofChange phyOrderWrong)

/-- 'airtimelaw08.PhyBest': WHATEVER THE INPUT: true; the input reads as it did. -/
def phyBestSpec : ChangeSpec := { name := "phyBest", fn := fun _ => fun
  | [d] => { results := [.lit (.bool true)], args := [d] }
  | _ => none }
def phyBestRow : OpenClaim := { program := "ytehmolfnpppfpaadoor", sum := "928adf0f4643463a2629dee7ddf3839ef5327b246c22860d605e7c9b1c286333", func := "airtime/airtimelaw08.PhyBest", spec := "phyBest", named := ["airtime/phy.needed", "airtime/phy.dataBits", "airtime/phy.basicRates"], apart := false, laid := [("airtime/phy.dataBits", laid_airtime_phy_dataBits), ("airtime/phy.needed", laid_airtime_phy_needed), ("airtime/phy.basicRates", laid_airtime_phy_basicRates)] }
def PhyBestSaid : Prop := phyBestRow.holds Tryd.pinned (OpenSpec.ofChange phyBestSpec)

/-- ITS FALSE NEIGHBOUR: 'it returns false'. Refute it at one input. -/
def phyBestWrong : ChangeSpec := { name := "phyBest", fn := fun _ => fun
  | [d] => { results := [.lit (.bool false)], args := [d] }
  | _ => none }
def PhyBestWrongFalsely : Prop := phyBestRow.holds Tryd.pinned (OpenSpec.ofChange phyBestWrong)

/- THE SECOND FORM. 'bulk': how many values and letters a reading holds, each counted each time it is reached (what is shared counts as often as it is met; a slice's spare places count too). A statement '..UptoSaid' is the law's where the arguments, and the package variables that the reading takes, are together of bulk at most 1048576: NARROWER than '..Said'. Prove '..Said' where nothing that the law and all that it calls make is longer than what came in: it says more and counts as full. Else prove '..UptoSaid'. A law counts once. -/
mutual
def uptoBulk {H : Type} : DataW H → Nat
  | .lit (.string bytes) => bytes.length + 1
  | .lit _ => 1
  | .nil => 1
  | .ptr d => uptoBulk d + 1
  | .slice elems spare => uptoBulkAll elems + uptoBulkAll spare + 1
  | .agg parts => uptoBulkAll parts + 1
  | .iface _ d => uptoBulk d + 1
  | .map entries => uptoBulkEntries entries + 1
  | .held _ => 1
def uptoBulkAll {H : Type} : List (DataW H) → Nat
  | [] => 0
  | d :: r => uptoBulk d + uptoBulkAll r
def uptoBulkEntries {H : Type} : List (Lit × DataW H) → Nat
  | [] => 0
  | x :: r => uptoBulkEntry x + uptoBulkEntries r
def uptoBulkEntry {H : Type} : Lit × DataW H → Nat
  | (.string bytes, d) => bytes.length + uptoBulk d + 1
  | (_, d) => uptoBulk d + 1
 end
def uptoSmall : (H : Type) → List (DataW H) → Bool := fun _ ds => decide (uptoBulkAll ds ≤ 1048576)
def OpenSpec.upto (s : _root_.Go.ChangeSpec) : _root_.Go.OpenSpec := { _root_.Go.OpenSpec.ofChange s with cond := some uptoSmall }

/-- 'airtimelaw08.PhyFits', WHERE WHAT IT READS IS OF BULK AT MOST 1048576: true; the input reads as it did. -/
def phyFitsUptoRow : OpenClaim := { program := "ytehmolfnpppfpaadoor", sum := "928adf0f4643463a2629dee7ddf3839ef5327b246c22860d605e7c9b1c286333", func := "airtime/airtimelaw08.PhyFits", spec := "phyFits", named := ["airtime/phy.dataBits", "airtime/phy.basicRates", "airtime/phy.needed"], apart := false, laid := [("airtime/phy.dataBits", laid_airtime_phy_dataBits), ("airtime/phy.needed", laid_airtime_phy_needed), ("airtime/phy.basicRates", laid_airtime_phy_basicRates)], narrowed := true }
def PhyFitsUptoSaid : Prop := phyFitsUptoRow.holds Tryd.pinned (OpenSpec.upto phyFitsSpec)

/-- 'airtimelaw08.PhyRates', WHERE WHAT IT READS IS OF BULK AT MOST 1048576: true; the input reads as it did. -/
def phyRatesUptoRow : OpenClaim := { program := "ytehmolfnpppfpaadoor", sum := "928adf0f4643463a2629dee7ddf3839ef5327b246c22860d605e7c9b1c286333", func := "airtime/airtimelaw08.PhyRates", spec := "phyRates", named := ["airtime/phy.dataBits", "airtime/phy.needed", "airtime/phy.basicRates"], apart := false, laid := [("airtime/phy.dataBits", laid_airtime_phy_dataBits), ("airtime/phy.needed", laid_airtime_phy_needed), ("airtime/phy.basicRates", laid_airtime_phy_basicRates)], narrowed := true }
def PhyRatesUptoSaid : Prop := phyRatesUptoRow.holds Tryd.pinned (OpenSpec.upto phyRatesSpec)

/-- 'airtimelaw08.PhySlots', WHERE WHAT IT READS IS OF BULK AT MOST 1048576: true; the input reads as it did. -/
def phySlotsUptoRow : OpenClaim := { program := "ytehmolfnpppfpaadoor", sum := "928adf0f4643463a2629dee7ddf3839ef5327b246c22860d605e7c9b1c286333", func := "airtime/airtimelaw08.PhySlots", spec := "phySlots", named := ["airtime/phy.dataBits", "airtime/phy.basicRates", "airtime/phy.needed"], apart := false, laid := [("airtime/phy.dataBits", laid_airtime_phy_dataBits), ("airtime/phy.needed", laid_airtime_phy_needed), ("airtime/phy.basicRates", laid_airtime_phy_basicRates)], narrowed := true }
def PhySlotsUptoSaid : Prop := phySlotsUptoRow.holds Tryd.pinned (OpenSpec.upto phySlotsSpec)

/-- 'airtimelaw08.PhyOrder', WHERE WHAT IT READS IS OF BULK AT MOST 1048576: true; the input reads as it did. -/
def phyOrderUptoRow : OpenClaim := { program := "ytehmolfnpppfpaadoor", sum := "928adf0f4643463a2629dee7ddf3839ef5327b246c22860d605e7c9b1c286333", func := "airtime/airtimelaw08.PhyOrder", spec := "phyOrder", named := ["airtime/phy.dataBits", "airtime/phy.needed", "airtime/phy.basicRates"], apart := false, laid := [("airtime/phy.dataBits", laid_airtime_phy_dataBits), ("airtime/phy.needed", laid_airtime_phy_needed), ("airtime/phy.basicRates", laid_airtime_phy_basicRates)], narrowed := true }
def PhyOrderUptoSaid : Prop := phyOrderUptoRow.holds Tryd.pinned (OpenSpec.upto phyOrderSpec)

/-- 'airtimelaw08.PhyBest', WHERE WHAT IT READS IS OF BULK AT MOST 1048576: true; the input reads as it did. -/
def phyBestUptoRow : OpenClaim := { program := "ytehmolfnpppfpaadoor", sum := "928adf0f4643463a2629dee7ddf3839ef5327b246c22860d605e7c9b1c286333", func := "airtime/airtimelaw08.PhyBest", spec := "phyBest", named := ["airtime/phy.needed", "airtime/phy.dataBits", "airtime/phy.basicRates"], apart := false, laid := [("airtime/phy.dataBits", laid_airtime_phy_dataBits), ("airtime/phy.needed", laid_airtime_phy_needed), ("airtime/phy.basicRates", laid_airtime_phy_basicRates)], narrowed := true }
def PhyBestUptoSaid : Prop := phyBestUptoRow.holds Tryd.pinned (OpenSpec.upto phyBestSpec)

end Rows
end Go.Proofs.YtehmolfnpppfpaaDoor
