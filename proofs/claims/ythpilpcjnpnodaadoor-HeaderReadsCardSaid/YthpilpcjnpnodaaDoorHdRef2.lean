/-
  WALKS of layer 10: the reference's set.
-/
import Derived.Test.YthpilpcjnpnodaaDoorHdRef
namespace Go.Proofs.YthpilpcjnpnodaaDoor
open Go.RowKit Go.Hd

set_option maxRecDepth 100000 in
set_option maxHeartbeats 8000000 in
theorem refSet_any (f : Fr) (w : World) :
    Calls Tryd.prog 56 #[Fr_.v f] w fun e w' => e = .returned (.int .i64 (setv f)) ∧ Below w.heap.size w w' := by
  have HS : Hid (setv f = (if f.rt then 1 else 0) + (if f.mo then 2 else 0) + (if f.pw then 4 else 0) + (if f.st then 8 else 0) + (if f.la then 16 else 0) + (if f.jo then 32 else 0)) := rfl
  unfold Fr_.v
  generalize f.rt = b0 at *
  generalize f.mo = b1 at *
  generalize f.pw = b2 at *
  generalize f.st = b3 at *
  generalize f.la = b4 at *
  generalize f.jo = b5 at *
  go_enter Tryd.func56, Tryd.ntmps56
  go_wp2
  all_goals
    go_returns
    refine ⟨?_, (Below.refl _ _).alloc (Nat.le_refl _) _⟩
    rw [HS.out]
    simp [*]

theorem empty_iff (s : ByteArray) : s.toList.isEmpty = decide (s.size = 0) := by
  rw [ByteArray.toList_eq]
  obtain ⟨⟨l⟩⟩ := s
  cases l <;> simp [ByteArray.size]
end Go.Proofs.YthpilpcjnpnodaaDoor
