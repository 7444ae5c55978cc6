/-
  THE LAWS of layer 10: HeaderChecks.
-/
import Derived.Test.YthpilpcjnpnodaaDoorHdLaws0
import Derived.Test.YthpilpcjnpnodaaDoorHdProgLen
import Derived.Test.YthpilpcjnpnodaaDoorHdCheck
import Derived.Test.YthpilpcjnpnodaaDoorHdRef
namespace Go.Proofs.YthpilpcjnpnodaaDoor
open Go.RowKit Go.Hd Go.Wr Go.Ad
attribute [local go_sem ↓ high] Fr_.loadF Fr_.storeF Fr_.v_cells Fr_.v_match
attribute [local go_sem] Fr_.C0 Fr_.C1 Fr_.C2 Fr_.C3 Fr_.C4 Fr_.C5 Fr_.C6 Fr_.C7 Fr_.C8 Fr_.C9 Fr_.C10 Fr_.C11 Fr_.C12 Fr_.C13 Fr_.C14 Fr_.C15 Fr_.C16 Fr_.C17 Fr_.loadF_new Fr_.storeF_zero

/-- What came in as a frame. -/
def FrWf (x : Fr) : Prop := (Lit.int .i64 x.kd).wf = true ∧ (Lit.int .i64 x.po).wf = true ∧ (Lit.int .i64 x.du).wf = true ∧ (Lit.int .u64 x.ta).wf = true ∧ (Lit.int .u64 x.fa).wf = true ∧ (Lit.int .u64 x.th).wf = true ∧ (Lit.int .i64 x.sq).wf = true ∧ (Lit.int .i64 x.fg).wf = true ∧ (Lit.int .i64 x.ct).wf = true ∧ (Lit.int .i64 x.ky).wf = true ∧ (Lit.int .i64 x.cn).wf = true
theorem u64_wf {a : Int} (h : (Lit.int .u64 a).wf = true) : u64 a := by
  simp [Lit.wf, IntKind.min, IntKind.max, IntKind.signed, IntKind.bits] at h
  exact ⟨by omega, by omega⟩
theorem fru_wf {x : Fr} (h : FrWf x) : FrU x := ⟨u64_wf h.2.2.2.1, u64_wf h.2.2.2.2.1, u64_wf h.2.2.2.2.2.1⟩

set_option maxRecDepth 100000 in
set_option maxHeartbeats 4000000 in
theorem headerChecks_walk0 (f : Fr) (hw : FrWf f) (W : World) (hl : LaidFacts W) :
    Calls Tryd.prog 3 #[Fr_.v f] W fun e w' => e = .returned (.bool true) ∧ Below W.heap.size W w' := by
  have HT : Hid (∀ p : Of (Stf W W.heap.size f), HdTab p.w) := fun p => HdTab.below hl p.ok.bel (Nat.le_refl _)
  have HU := Lib.hid (fru_wf hw)
  have S1 := Lib.hid (Stf.new W f)
  clear hw hl
  go_enter Tryd.func3, Tryd.ntmps3
  go_wp2
  have hll : ∀ (p : Of (Stf W W.heap.size f)), (Fr_.LoadF ⟨W.heap.size, 0, none⟩).run Tryd.prog p.w = .ok (Fr_.v f) p.w := fun p => p.ok.box.loadF
  have _ne : Nonempty (Of (Stf W W.heap.size f)) := ⟨⟨_, S1.out⟩⟩
  refine wp_region_of (Stf W W.heap.size f) (by kernel_rfl) (by kernel_rfl) S1.out.drew ?_
  repeat (quiet_step (first
    | (go_at_call 9; exact Calls.of_below Stf.keep (progCheck_any f _ (HT.out _) HU.out))
    | (go_at_call 10; exact Calls.of_below Stf.keep (refCheck_any f _))
    | (go_at_call 11; exact Calls.of_below Stf.keep (progLength_any f _ (HT.out _)))
    | (go_at_call 12; exact Calls.of_below Stf.keep (refLength_any f _))
    | (go_at_call 13; exact Calls.of_below Stf.keep (lives10_any _ (HT.out _)))))
  refine wpQuiet_nil ?_
  rintro _ ⟨p, rfl⟩
  clear hll
  go_wp2
  go_returns
  exact ⟨rfl, p.ok.bel⟩

end Go.Proofs.YthpilpcjnpnodaaDoor
