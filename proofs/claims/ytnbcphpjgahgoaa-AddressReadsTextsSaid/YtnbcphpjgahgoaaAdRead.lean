/-
  THE WALK of the reference's Read of layer 5.
-/
import Derived.Test.YtnbcphpjgahgoaaAdText
import Derived.Test.YtnbcphpjgahgoaaWrRefR
namespace Go.Proofs.Ytnbcphpjgahgoaa
open Go.RowKit Go.Wr Go.Ad

set_option maxRecDepth 100000 in
set_option maxHeartbeats 2000000 in
theorem refRead_via (s s' l : ByteArray) (e e' : Int) (w : World) (hl : l.size ≤ 6)
    (hT : ∀ W, Calls Try.prog 39 #[rv s e, .int .i64 6] W fun r w' => r = .returned (.tuple #[rv s' e', .string l]) ∧ Below W.heap.size W w') :
    Calls Try.prog 25 #[rv s e] w fun r w' => r = .returned (.tuple #[rv s' e', .int .u64 (bev l.data.toList : Nat)]) ∧ Below w.heap.size w w' := by
  have HT := Lib.hid hT
  have HO := Lib.hid (fun w => refOf_any l w hl)
  clear hT
  generalize bev l.data.toList = v at *
  unfold rv at *
  go_enter Try.func25, Try.ntmps25
  go_wp2_with (go_at_call 39; refine (HT.out _).mono ?_; rintro e w1 ⟨rfl, hb1⟩; have c1 : w1.cell? ⟨w.heap.size + 1, 0, none⟩ = some (.string ⟨#[]⟩) := (hb1.cell (p := ⟨w.heap.size + 1, 0, none⟩) (by simp)).trans (by simp); have c2 : w1.cell? ⟨w.heap.size + 1, 1, none⟩ = some (.int .i64 0) := (hb1.cell (p := ⟨w.heap.size + 1, 1, none⟩) (by simp)).trans (by simp); have f1 : w1.frozen? ⟨w.heap.size + 1, 0, none⟩ = false := (hb1.frozen (p := ⟨w.heap.size + 1, 0, none⟩) (by simp)).trans (by simp); have f2 : w1.frozen? ⟨w.heap.size + 1, 1, none⟩ = false := (hb1.frozen (p := ⟨w.heap.size + 1, 1, none⟩) (by simp)).trans (by simp))
  have hbw : Below w.heap.size w w1 := (((Below.refl _ _).alloc (Nat.le_refl _) _).alloc (by simp) _).trans (hb1.mono (by simp; omega))
  have hz1 := hb1.size
  simp at hz1
  clear hb1
  have bw : ∀ o, Below w1.heap.size w1 (w1.alloc o) := fun o => (Below.refl _ _).alloc (Nat.le_refl _) o
  have d1 : ∀ o, (w1.alloc o).cell? ⟨w.heap.size + 1, 0, none⟩ = some (.string ⟨#[]⟩) := fun o => ((bw o).cell (p := ⟨w.heap.size + 1, 0, none⟩) (by simp; omega)).trans c1
  have d2 : ∀ o, (w1.alloc o).cell? ⟨w.heap.size + 1, 1, none⟩ = some (.int .i64 0) := fun o => ((bw o).cell (p := ⟨w.heap.size + 1, 1, none⟩) (by simp; omega)).trans c2
  have g1 : ∀ o, (w1.alloc o).frozen? ⟨w.heap.size + 1, 0, none⟩ = false := fun o => ((bw o).frozen (p := ⟨w.heap.size + 1, 0, none⟩) (by simp; omega)).trans f1
  have g2 : ∀ o, (w1.alloc o).frozen? ⟨w.heap.size + 1, 1, none⟩ = false := fun o => ((bw o).frozen (p := ⟨w.heap.size + 1, 1, none⟩) (by simp; omega)).trans f2
  have HW := Lib.hid (fun o => hbw.alloc (by have := hbw.size; exact this) o)
  have cA := fun o u => (two_set (d1 o) (d2 o) u (.int .i64 0)).1
  have cB := fun o u v => (two_set (d1 o) (d2 o) u v).2
  have HA := Lib.hid cA
  have HB := Lib.hid cB
  clear cA cB bw c1 c2 f1 f2 hbw hz1
  go_region_with (go_at_call 40; refine (HO.out _).mono ?_; rintro e w' ⟨rfl, rfl⟩)
  all_goals
    go_wp2
    refine bodyPost_ret (by simp [results, Try.results25, go_sem, HA.out, HB.out]; rfl) rfl ?_
    first
      | exact ⟨rfl, ((HW.out _).setCell (by simp) _).setCell (by simp) _⟩
      | exact ⟨rfl, (((HW.out _).setCell (by simp) _).setCell (by simp) _).drew⟩
      | exact ⟨rfl, ((((HW.out _).drew).setCell (by simp) _).setCell (by simp) _)⟩

theorem refRead_ok (s : ByteArray) (w : World) (h : 6 ≤ s.size) :
    Calls Try.prog 25 #[rv s 0] w fun r w' => r = .returned (.tuple #[rv (s.extract 6 s.size) 0, .int .u64 (bev (s.extract 0 6).data.toList : Nat)]) ∧ Below w.heap.size w w' :=
  refRead_via s _ _ 0 0 w (by simp; omega) (fun W => refTake_ok s 6 W h)
theorem refRead_short (s : ByteArray) (w : World) (h : s.size < 6) :
    Calls Try.prog 25 #[rv s 0] w fun r w' => r = .returned (.tuple #[rv ⟨#[]⟩ 1, .int .u64 0]) ∧ Below w.heap.size w w' :=
  refRead_via s ⟨#[]⟩ ⟨#[]⟩ 0 1 w (by decide) (fun W => refTake_fail s 6 1 W (Or.inr ⟨by omega, by omega, rfl⟩))
end Go.Proofs.Ytnbcphpjgahgoaa
