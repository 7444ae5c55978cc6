/-
  THE WALK of the law BitsetMoves: true, for every set and integers.
-/
import Derived.Test.YtfmjekfgfkcleaaDoorBsLives
import Derived.Test.YtfmjekfgfkcleaaDoorBsEls
import Derived.Test.YtfmjekfgfkcleaaDoorBsLaid
import Derived.Deep.RegionHeld3
namespace Go.Proofs.YtfmjekfgfkcleaaDoor
open Go.RowKit Go.Bs

set_option maxRecDepth 100000 in
set_option maxHeartbeats 3200000 in
theorem moves_walk (s : Nat) (n x y : Int) (w : World) (hs : s < 18446744073709551616) (hv : ErrVars w) :
    Calls Tryd.prog 5 #[.int .u64 s, .int .i64 n, .agg #[.int .i64 x, .int .i64 y]] w fun e w' => e = .returned (.bool true) ∧ Below w.heap.size w w' := by
  have hL : ∀ wx : World, Below w.heap.size w wx → Calls Tryd.prog 17 #[] wx fun e w' => e = .returned (.bool true) ∧ Below w.heap.size w w' ∧ Below wx.heap.size wx w' := fun wx hb =>
    (lives_any wx (hv.below hb)).mono fun e w' h => ⟨h.1, hb.trans (h.2.mono hb.size), h.2⟩
  clear hv
  have HL := Lib.hid hL
  clear hL
  have Hs := Lib.hid hs
  clear hs
  go_enter Tryd.func5, Tryd.ntmps5
  go_wp2_with fail
  go_region_held3 (fun w' => w'.cell? ⟨w.heap.size, 0, none⟩ = some (.int .i64 x) ∧ w'.cell? ⟨w.heap.size, 1, none⟩ = some (.int .i64 y))
    (first | go_keep | (exact ⟨(hb1.cell (p := ⟨w.heap.size, 0, none⟩) (by simp)).trans (by simp), (hb1.cell (p := ⟨w.heap.size, 1, none⟩) (by simp)).trans (by simp)⟩) | (have hz := hb1.size; simp at hz; go_split_ands; exact ⟨(hk2.cell (p := ⟨w.heap.size, 0, none⟩) (by simp; omega)).trans (by assumption), (hk2.cell (p := ⟨w.heap.size, 1, none⟩) (by simp; omega)).trans (by assumption)⟩))
    (first
      | (go_at_call 24; refine (down_any s n _ Hs.out).mono ?_; rintro e w' ⟨rfl, rfl⟩)
      | (go_at_call 25; refine (refDown_any s n _ Hs.out).mono ?_; rintro e w1 ⟨rfl, hb1⟩)
      | (go_at_call 26; refine (range_any x y _).mono ?_; rintro e w' ⟨rfl, rfl⟩)
      | (go_at_call 27; refine (refRange_any x y _).mono ?_; rintro e w' ⟨rfl, rfl⟩)
      | (go_at_call 17; refine (HL.out _ ?hb).mono ?_; (case hb => repeat (first | exact ((Below.refl _ _).alloc (Nat.le_refl _) _).drew.trans (hb1.mono (by simp)) | exact ((Below.refl _ _).alloc (Nat.le_refl _) _).trans (hb1.mono (by simp)) | apply Below.drew)); rintro e w2 ⟨rfl, hb2, hk2⟩))
  all_goals go_wp2
  all_goals go_ret
  all_goals exact ⟨rfl, by first | exact hb2 | exact hb2.drew⟩

theorem bitsetMoves_walk0 (a0 : Int) (w0 : (Lit.int .u64 a0).wf = true) (a1 : Int) (_ : (Lit.int .i64 a1).wf = true) (zs : List Int) (hz : zs.length = 2) (_ : ∀ z ∈ zs, (Lit.int .i64 z).wf = true) (W : World) (hl : LaidFacts W) :
    Calls Tryd.prog 5 #[.int .u64 a0, .int .i64 a1, .agg (zs.map fun z => Value.int .i64 z).toArray] W fun e w' => e = .returned (.bool true) ∧ Below W.heap.size W w' := by
  obtain ⟨n, rfl, hn⟩ := nat_of_u64 w0
  match zs, hz with
  | [x, y], _ => exact moves_walk n a1 x y W hn hl.errs
end Go.Proofs.YtfmjekfgfkcleaaDoor
