/-
  WALKS of the reference's Reader: Fail, Left, End, Take, Get, Rest.
-/
import Derived.Test.YtnbcphpjgahgoaaWrRefW
namespace Go.Proofs.Ytnbcphpjgahgoaa
open Go.RowKit Go.Wr

set_option maxHeartbeats 400000 in
theorem refFail_keep (s : ByteArray) (e x : Int) (w : World) (h : (e != 0) = true ∨ ((e != 0) = false ∧ (x == 0) = true)) :
    Calls Try.prog 46 #[rv s e, .int .i64 x] w fun r w' => r = .returned (rv s e) ∧ Below w.heap.size w w' := by
  unfold rv
  go_enter Try.func46, Try.ntmps46
  rcases h with h | ⟨h, h'⟩
  all_goals
    go_wp2
    go_returns
    exact ⟨rfl, by go_grown⟩

set_option maxHeartbeats 400000 in
theorem refFail_set (s : ByteArray) (x : Int) (w : World) (h : (x == 0) = false) :
    Calls Try.prog 46 #[rv s 0, .int .i64 x] w fun r w' => r = .returned (rv ⟨#[]⟩ x) ∧ Below w.heap.size w w' := by
  unfold rv
  go_enter Try.func46, Try.ntmps46
  go_wp2
  go_returns
  exact ⟨rfl, by go_grown⟩

set_option maxHeartbeats 400000 in
theorem refLeft_any (s : ByteArray) (e : Int) (w : World) :
    Calls Try.prog 28 #[rv s e] w fun r w' => r = .returned (.int .i64 (if e = 0 then s.size else 0)) ∧ Below w.heap.size w w' := by
  by_cases he : e = 0
  · subst he
    rw [if_pos rfl]
    unfold rv
    go_enter Try.func28, Try.ntmps28
    go_wp2
    go_returns
    exact ⟨rfl, by go_grown⟩
  · rw [if_neg he]
    have hb : (e != 0) = true := by rw [bne_iff_ne]; exact he
    unfold rv
    clear he
    go_enter Try.func28, Try.ntmps28
    go_wp2
    go_returns
    exact ⟨rfl, by go_grown⟩

theorem two_set {w1 : World} {g : Nat} {u0 v0 : Value} (c1 : w1.cell? ⟨g, 0, none⟩ = some u0) (c2 : w1.cell? ⟨g, 1, none⟩ = some v0) (u v : Value) :
    (w1.setCell ⟨g, 0, none⟩ u).cell? ⟨g, 0, none⟩ = some u ∧ ((w1.setCell ⟨g, 0, none⟩ u).setCell ⟨g, 1, none⟩ v).cell? ⟨g, 1, none⟩ = some v :=
  ⟨World.cell?_setCell_same _ _ _ c1, World.cell?_setCell_same _ _ _ ((World.cell?_setCell_other _ _ _ _ (by simp)).trans c2)⟩

/-! Take -/
set_option maxHeartbeats 400000 in
theorem refTake_bad (s : ByteArray) (e n : Int) (w : World) (h : (e != 0) = true) :
    Calls Try.prog 39 #[rv s e, .int .i64 n] w fun r w' => r = .returned (.tuple #[rv s e, .string ⟨#[]⟩]) ∧ Below w.heap.size w w' := by
  unfold rv
  go_enter Try.func39, Try.ntmps39
  go_wp2
  go_returns
  exact ⟨rfl, by go_grown⟩

set_option maxHeartbeats 400000 in
theorem refTake_ok (s : ByteArray) (n : Nat) (w : World) (h : n ≤ s.size) :
    Calls Try.prog 39 #[rv s 0, .int .i64 n] w fun r w' => r = .returned (.tuple #[rv (s.extract n s.size) 0, .string (s.extract 0 n)]) ∧ Below w.heap.size w w' := by
  have h1 : ¬ (s.size : Int) < n := by omega
  unfold rv
  go_enter Try.func39, Try.ntmps39
  go_wp2
  go_region
  all_goals go_wp2
  all_goals go_returns
  all_goals exact ⟨rfl, by go_grown⟩

set_option maxHeartbeats 1000000 in
theorem refTake_fail (s : ByteArray) (n x : Int) (w : World) (h : (n < 0 ∧ x = 4) ∨ (¬ n < 0 ∧ (s.size : Int) < n ∧ x = 1)) :
    Calls Try.prog 39 #[rv s 0, .int .i64 n] w fun r w' => r = .returned (.tuple #[rv ⟨#[]⟩ x, .string ⟨#[]⟩]) ∧ Below w.heap.size w w' := by
  have HF : Hid (∀ (y : Int) (W : World), (y == 0) = false → Calls Try.prog 46 #[rv s 0, .int .i64 y] W fun r w' => r = .returned (rv ⟨#[]⟩ y) ∧ Below W.heap.size W w') := fun y W h => refFail_set s y W h
  unfold rv at *
  go_enter Try.func39, Try.ntmps39
  rcases h with ⟨h, rfl⟩ | ⟨h, h', rfl⟩
  all_goals
    go_wp2_with (go_at_call 46; refine (HF.out _ _ rfl).mono ?_; rintro e w1 ⟨rfl, hb1⟩; have c1 : w1.cell? ⟨w.heap.size + 1, 0, none⟩ = some (.string ⟨#[]⟩) := (hb1.cell (p := ⟨w.heap.size + 1, 0, none⟩) (by simp)).trans (by simp); have c2 : w1.cell? ⟨w.heap.size + 1, 1, none⟩ = some (.int .i64 0) := (hb1.cell (p := ⟨w.heap.size + 1, 1, none⟩) (by simp)).trans (by simp); have f1 : w1.frozen? ⟨w.heap.size + 1, 0, none⟩ = false := (hb1.frozen (p := ⟨w.heap.size + 1, 0, none⟩) (by simp)).trans (by simp); have f2 : w1.frozen? ⟨w.heap.size + 1, 1, none⟩ = false := (hb1.frozen (p := ⟨w.heap.size + 1, 1, none⟩) (by simp)).trans (by simp))
    have hbw : Below w.heap.size w w1 := (((Below.refl _ _).alloc (Nat.le_refl _) _).alloc (by simp) _).trans (hb1.mono (by simp; omega))
    clear hb1
    have cA := (two_set c1 c2 (.string ⟨#[]⟩) (.int .i64 0)).1
    have cB := fun v => (two_set c1 c2 (.string ⟨#[]⟩) v).2
    refine bodyPost_ret (by simp [results, Try.results39, go_sem, cA, cB]; rfl) rfl ?_
    exact ⟨rfl, (hbw.setCell (by simp) _).setCell (by simp) _⟩

/-! Get -/
theorem get_step (l : ByteArray) (j : Nat) (h : j < l.size) (h6 : l.size ≤ 6) :
    wrap64 (wrap64 (((val (l.data.toList.drop (j + 1)) : Nat) : Int) * 256) + wrap64 (((l[j]'h).toNat : Nat) : Int)) = ((val (l.data.toList.drop j) : Nat) : Int) := by
  have hx := (l[j]'h).toNat_lt
  have hl : j < l.data.toList.length := h
  have hv := val_lt (l.data.toList.drop (j + 1))
  have hle : (l.data.toList.drop (j + 1)).length ≤ 5 := by rw [List.length_drop]; have : l.data.toList.length = l.size := Array.length_toList; omega
  have hp := pow_le hle
  have h5 : pow 5 = 1099511627776 := by decide
  have e4 : l.data.toList[j] = l[j]'h := rfl
  rw [val_drop _ _ hl, e4]
  generalize (l[j]'h).toNat = x at hx
  generalize val (l.data.toList.drop (j + 1)) = v at hv
  rw [IntWalk.wrap64_in (x : Int) (by omega), IntWalk.wrap64_in ((v : Int) * 256) (by omega), IntWalk.wrap64_in _ (by omega)]
  omega

/-! Rest -/
end Go.Proofs.Ytnbcphpjgahgoaa
