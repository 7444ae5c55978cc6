/-
  THE WALK of the law BitsetElements: true, for every set, integer and four arguments.
-/
import Derived.Test.YtfmjekfgfkcleaaDoorBsLives
import Derived.Test.YtfmjekfgfkcleaaDoorBsLaid
import Derived.Deep.RegionHeld3
namespace Go.Proofs.YtfmjekfgfkcleaaDoor
open Go.RowKit Go.Bs

theorem of1 (x : Int) (b off c : Nat) (w : World) (h : w.cell? ⟨b, off, none⟩ = some (.int .i64 x)) :
    Calls Tryd.prog 9 #[.slice (some ⟨b, off, none⟩) 1 c] w fun e w' => e = .returned (.int .u64 (ofl [x] : Int)) ∧ w = w' :=
  of_any [x] b off c w (by simp) (fun j hj => by
    match j, hj with
    | 0, _ => exact h)
theorem refOf1 (x : Int) (b off c : Nat) (w : World) (h : w.cell? ⟨b, off, none⟩ = some (.int .i64 x)) :
    Calls Tryd.prog 10 #[.slice (some ⟨b, off, none⟩) 1 c] w fun e w' => e = .returned (.int .u64 (ofl [x] : Int)) ∧ w = w' :=
  refOf_any [x] b off c w (by simp) (fun j hj => by
    match j, hj with
    | 0, _ => exact h)
theorem of4 (x y z u : Int) (b c : Nat) (w : World) (h : w.cell? ⟨b, 0, none⟩ = some (.int .i64 x) ∧ w.cell? ⟨b, 1, none⟩ = some (.int .i64 y) ∧ w.cell? ⟨b, 2, none⟩ = some (.int .i64 z) ∧ w.cell? ⟨b, 3, none⟩ = some (.int .i64 u)) :
    Calls Tryd.prog 9 #[.slice (some ⟨b, 0, none⟩) 4 c] w fun e w' => e = .returned (.int .u64 (ofl [x, y, z, u] : Int)) ∧ w = w' :=
  of_any [x, y, z, u] b 0 c w (by simp) (fun j hj => by
    match j, hj with
    | 0, _ => exact h.1
    | 1, _ => exact h.2.1
    | 2, _ => exact h.2.2.1
    | 3, _ => exact h.2.2.2)
theorem refOf4 (x y z u : Int) (b c : Nat) (w : World) (h : w.cell? ⟨b, 0, none⟩ = some (.int .i64 x) ∧ w.cell? ⟨b, 1, none⟩ = some (.int .i64 y) ∧ w.cell? ⟨b, 2, none⟩ = some (.int .i64 z) ∧ w.cell? ⟨b, 3, none⟩ = some (.int .i64 u)) :
    Calls Tryd.prog 10 #[.slice (some ⟨b, 0, none⟩) 4 c] w fun e w' => e = .returned (.int .u64 (ofl [x, y, z, u] : Int)) ∧ w = w' :=
  refOf_any [x, y, z, u] b 0 c w (by simp) (fun j hj => by
    match j, hj with
    | 0, _ => exact h.1
    | 1, _ => exact h.2.1
    | 2, _ => exact h.2.2.1
    | 3, _ => exact h.2.2.2)

set_option maxRecDepth 100000 in
set_option maxHeartbeats 3200000 in
theorem elements_walk (s : Nat) (i x y z u : Int) (w : World) (hs : s < 18446744073709551616) (hv : ErrVars w) :
    Calls Tryd.prog 3 #[.int .u64 s, .int .i64 i, .agg #[.int .i64 x, .int .i64 y, .int .i64 z, .int .i64 u]] w fun e w' => e = .returned (.bool true) ∧ Below w.heap.size w w' := by
  have hL : ∀ wx : World, Below w.heap.size w wx → Calls Tryd.prog 17 #[] wx fun e w' => e = .returned (.bool true) ∧ Below w.heap.size w w' := fun wx hb =>
    (lives_any wx (hv.below hb)).mono fun e w' h => ⟨h.1, hb.trans (h.2.mono hb.size)⟩
  clear hv
  have HL := Lib.hid hL
  clear hL
  go_enter Tryd.func3, Tryd.ntmps3
  go_wp2_with fail
  go_region_held3 (fun w' => w'.cell? ⟨w.heap.size, 0, none⟩ = some (.int .i64 x) ∧ w'.cell? ⟨w.heap.size, 1, none⟩ = some (.int .i64 y) ∧
      w'.cell? ⟨w.heap.size, 2, none⟩ = some (.int .i64 z) ∧ w'.cell? ⟨w.heap.size, 3, none⟩ = some (.int .i64 u))
    (first | go_keep)
    (first
      | (go_at_call 9; (with_reducible refine (of_nil _).mono ?_); rintro e w' ⟨rfl, rfl⟩)
      | (go_at_call 9; (with_reducible refine (of1 x _ _ _ _ ?h1).mono ?_); (case h1 => go_simp); rintro e w' ⟨rfl, rfl⟩)
      | (go_at_call 9; (with_reducible refine (of4 x y z u _ _ _ ?h4).mono ?_); (case h4 => go_simp); rintro e w' ⟨rfl, rfl⟩)
      | (go_at_call 10; (with_reducible refine (refOf1 x _ _ _ _ ?r1).mono ?_); (case r1 => go_simp); rintro e w' ⟨rfl, rfl⟩)
      | (go_at_call 10; (with_reducible refine (refOf4 x y z u _ _ _ ?r4).mono ?_); (case r4 => go_simp); rintro e w' ⟨rfl, rfl⟩))
  go_wp2_with (first
      | (go_at_call 11; refine (has_any _ _ _ hs).mono ?_; rintro e w' ⟨rfl, rfl⟩)
      | (go_at_call 12; refine (refHas_any _ _ _ hs).mono ?_; rintro e w' ⟨rfl, rfl⟩)
      | (go_at_call 13; refine (with_any _ _ _ hs).mono ?_; rintro e w' ⟨rfl, rfl⟩)
      | (go_at_call 14; refine (refWith_any _ _ _ hs).mono ?_; rintro e w' ⟨rfl, rfl⟩)
      | (go_at_call 15; refine (without_any _ _ _ hs).mono ?_; rintro e w' ⟨rfl, rfl⟩)
      | (go_at_call 16; refine (refWithout_any _ _ _ hs).mono ?_; rintro e w' ⟨rfl, rfl⟩)
      | (go_at_call 17; refine (HL.out _ ?hb).mono ?_; (case hb => repeat (first | exact Below.refl _ _ | apply Below.drew | (refine Below.alloc ?_ (by simp; try omega) _))); rintro e w' ⟨rfl, hb⟩))
  go_ret
  exact ⟨rfl, hb⟩

theorem bitsetElements_walk0 (a0 : Int) (w0 : (Lit.int .u64 a0).wf = true) (a1 : Int) (_ : (Lit.int .i64 a1).wf = true) (zs : List Int) (hz : zs.length = 4) (_ : ∀ z ∈ zs, (Lit.int .i64 z).wf = true) (W : World) (hl : LaidFacts W) :
    Calls Tryd.prog 3 #[.int .u64 a0, .int .i64 a1, .agg (zs.map fun z => Value.int .i64 z).toArray] W fun e w' => e = .returned (.bool true) ∧ Below W.heap.size W w' := by
  obtain ⟨n, rfl, hn⟩ := nat_of_u64 w0
  match zs, hz with
  | [x, y, z, u], _ => exact elements_walk n a1 x y z u W hn hl.errs
end Go.Proofs.YtfmjekfgfkcleaaDoor
