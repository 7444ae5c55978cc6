/-
  WALKS of the reference's Reader: Fail, Left, End, Take, Get, Rest.
-/
import Derived.Test.YtojiffpmmgjpjaaDoorWrRefW
namespace Go.Proofs.YtojiffpmmgjpjaaDoor
open Go.RowKit Go.Wr

set_option maxHeartbeats 400000 in
theorem refFail_keep (s : ByteArray) (e x : Int) (w : World) (h : (e != 0) = true ∨ ((e != 0) = false ∧ (x == 0) = true)) :
    Calls Tryd.prog 77 #[rv s e, .int .i64 x] w fun r w' => r = .returned (rv s e) ∧ Below w.heap.size w w' := by
  unfold rv
  go_enter Tryd.func77, Tryd.ntmps77
  rcases h with h | ⟨h, h'⟩
  all_goals
    go_wp2
    go_returns
    exact ⟨rfl, by go_grown⟩

set_option maxHeartbeats 400000 in
theorem refFail_set (s : ByteArray) (x : Int) (w : World) (h : (x == 0) = false) :
    Calls Tryd.prog 77 #[rv s 0, .int .i64 x] w fun r w' => r = .returned (rv ⟨#[]⟩ x) ∧ Below w.heap.size w w' := by
  unfold rv
  go_enter Tryd.func77, Tryd.ntmps77
  go_wp2
  go_returns
  exact ⟨rfl, by go_grown⟩

theorem two_set {w1 : World} {g : Nat} {u0 v0 : Value} (c1 : w1.cell? ⟨g, 0, none⟩ = some u0) (c2 : w1.cell? ⟨g, 1, none⟩ = some v0) (u v : Value) :
    (w1.setCell ⟨g, 0, none⟩ u).cell? ⟨g, 0, none⟩ = some u ∧ ((w1.setCell ⟨g, 0, none⟩ u).setCell ⟨g, 1, none⟩ v).cell? ⟨g, 1, none⟩ = some v :=
  ⟨World.cell?_setCell_same _ _ _ c1, World.cell?_setCell_same _ _ _ ((World.cell?_setCell_other _ _ _ _ (by simp)).trans c2)⟩

/-! Take -/
set_option maxHeartbeats 400000 in
theorem refTake_bad (s : ByteArray) (e n : Int) (w : World) (h : (e != 0) = true) :
    Calls Tryd.prog 78 #[rv s e, .int .i64 n] w fun r w' => r = .returned (.tuple #[rv s e, .string ⟨#[]⟩]) ∧ Below w.heap.size w w' := by
  unfold rv
  go_enter Tryd.func78, Tryd.ntmps78
  go_wp2
  go_returns
  exact ⟨rfl, by go_grown⟩

set_option maxHeartbeats 400000 in
theorem refTake_ok (s : ByteArray) (n : Nat) (w : World) (h : n ≤ s.size) :
    Calls Tryd.prog 78 #[rv s 0, .int .i64 n] w fun r w' => r = .returned (.tuple #[rv (s.extract n s.size) 0, .string (s.extract 0 n)]) ∧ Below w.heap.size w w' := by
  have h1 : ¬ (s.size : Int) < n := by omega
  unfold rv
  go_enter Tryd.func78, Tryd.ntmps78
  go_wp2
  go_region
  all_goals go_wp2
  all_goals go_returns
  all_goals exact ⟨rfl, by go_grown⟩

set_option maxHeartbeats 1000000 in
theorem refTake_fail (s : ByteArray) (n x : Int) (w : World) (h : (n < 0 ∧ x = 4) ∨ (¬ n < 0 ∧ (s.size : Int) < n ∧ x = 1)) :
    Calls Tryd.prog 78 #[rv s 0, .int .i64 n] w fun r w' => r = .returned (.tuple #[rv ⟨#[]⟩ x, .string ⟨#[]⟩]) ∧ Below w.heap.size w w' := by
  have HF : Hid (∀ (y : Int) (W : World), (y == 0) = false → Calls Tryd.prog 77 #[rv s 0, .int .i64 y] W fun r w' => r = .returned (rv ⟨#[]⟩ y) ∧ Below W.heap.size W w') := fun y W h => refFail_set s y W h
  unfold rv at *
  go_enter Tryd.func78, Tryd.ntmps78
  rcases h with ⟨h, rfl⟩ | ⟨h, h', rfl⟩
  all_goals
    go_wp2_with (go_at_call 77; refine (HF.out _ _ rfl).mono ?_; rintro e w1 ⟨rfl, hb1⟩; have c1 : w1.cell? ⟨w.heap.size + 1, 0, none⟩ = some (.string ⟨#[]⟩) := (hb1.cell (p := ⟨w.heap.size + 1, 0, none⟩) (by simp)).trans (by simp); have c2 : w1.cell? ⟨w.heap.size + 1, 1, none⟩ = some (.int .i64 0) := (hb1.cell (p := ⟨w.heap.size + 1, 1, none⟩) (by simp)).trans (by simp); have f1 : w1.frozen? ⟨w.heap.size + 1, 0, none⟩ = false := (hb1.frozen (p := ⟨w.heap.size + 1, 0, none⟩) (by simp)).trans (by simp); have f2 : w1.frozen? ⟨w.heap.size + 1, 1, none⟩ = false := (hb1.frozen (p := ⟨w.heap.size + 1, 1, none⟩) (by simp)).trans (by simp))
    have hbw : Below w.heap.size w w1 := (((Below.refl _ _).alloc (Nat.le_refl _) _).alloc (by simp) _).trans (hb1.mono (by simp; omega))
    clear hb1
    have cA := (two_set c1 c2 (.string ⟨#[]⟩) (.int .i64 0)).1
    have cB := fun v => (two_set c1 c2 (.string ⟨#[]⟩) v).2
    refine bodyPost_ret (by simp [results, Tryd.results78, go_sem, cA, cB]; rfl) rfl ?_
    exact ⟨rfl, (hbw.setCell (by simp) _).setCell (by simp) _⟩

/-! Get -/
theorem get_step (l : ByteArray) (j : Nat) (h : j < l.size) (h6 : l.size ≤ 6) :
    wrap64 (wrap64 (((val (l.data.toList.drop (j + 1)) : Nat) : Int) * 256) + wrap64 (((l[j]'h).toNat : Nat) : Int)) = ((val (l.data.toList.drop j) : Nat) : Int) := by
  have hx := (l[j]'h).toNat_lt
  have hl : j < l.data.toList.length := h
  have hv := val_lt (l.data.toList.drop (j + 1))
  have hle : (l.data.toList.drop (j + 1)).length ≤ 5 := by rw [List.length_drop]; have : l.data.toList.length = l.size := Array.length_toList; omega
  have hp := pow_le hle
  have h5 : pow 5 = 1099511627776 := by decide
  have e4 : l.data.toList[j] = l[j]'h := rfl
  rw [val_drop _ _ hl, e4]
  generalize (l[j]'h).toNat = x at hx
  generalize val (l.data.toList.drop (j + 1)) = v at hv
  rw [IntWalk.wrap64_in (x : Int) (by omega), IntWalk.wrap64_in ((v : Int) * 256) (by omega), IntWalk.wrap64_in _ (by omega)]
  omega

set_option maxHeartbeats 1000000 in
theorem refGet_range (s : ByteArray) (k : Int) (w : World) (h : k < 1 ∨ (¬ k < 1 ∧ 6 < k)) :
    Calls Tryd.prog 59 #[rv s 0, .int .i64 k] w fun r w' => r = .returned (.tuple #[rv ⟨#[]⟩ 4, .int .i64 0]) ∧ Below w.heap.size w w' := by
  have HF : Hid (∀ (y : Int) (W : World), (y == 0) = false → Calls Tryd.prog 77 #[rv s 0, .int .i64 y] W fun r w' => r = .returned (rv ⟨#[]⟩ y) ∧ Below W.heap.size W w') := fun y W h => refFail_set s y W h
  unfold rv at *
  go_enter Tryd.func59, Tryd.ntmps59
  rcases h with h | ⟨h, h'⟩
  all_goals
    go_wp2_with (go_at_call 77; refine (HF.out _ _ rfl).mono ?_; rintro e w1 ⟨rfl, hb1⟩; have c1 : w1.cell? ⟨w.heap.size + 1, 0, none⟩ = some (.string ⟨#[]⟩) := (hb1.cell (p := ⟨w.heap.size + 1, 0, none⟩) (by simp)).trans (by simp); have c2 : w1.cell? ⟨w.heap.size + 1, 1, none⟩ = some (.int .i64 0) := (hb1.cell (p := ⟨w.heap.size + 1, 1, none⟩) (by simp)).trans (by simp); have f1 : w1.frozen? ⟨w.heap.size + 1, 0, none⟩ = false := (hb1.frozen (p := ⟨w.heap.size + 1, 0, none⟩) (by simp)).trans (by simp); have f2 : w1.frozen? ⟨w.heap.size + 1, 1, none⟩ = false := (hb1.frozen (p := ⟨w.heap.size + 1, 1, none⟩) (by simp)).trans (by simp))
    have hbw : Below w.heap.size w w1 := (((Below.refl _ _).alloc (Nat.le_refl _) _).alloc (by simp) _).trans (hb1.mono (by simp; omega))
    clear hb1
    obtain ⟨cA, cB⟩ := two_set c1 c2 (.string ⟨#[]⟩) (.int .i64 4)
    refine bodyPost_ret (by simp [results, Tryd.results59, go_sem, cA, cB]; rfl) rfl ?_
    exact ⟨rfl, (hbw.setCell (by simp) _).setCell (by simp) _⟩

set_option maxHeartbeats 2000000 in
theorem refGet_via (s s' l : ByteArray) (e e' k : Int) (w : World) (hl : l.size ≤ 6) (h : (e == 0) = false ∨ ((e == 0) = true ∧ ¬ k < 1 ∧ ¬ 6 < k))
    (hT : ∀ W, Calls Tryd.prog 78 #[rv s e, .int .i64 k] W fun r w' => r = .returned (.tuple #[rv s' e', .string l]) ∧ Below W.heap.size W w') :
    Calls Tryd.prog 59 #[rv s e, .int .i64 k] w fun r w' => r = .returned (.tuple #[rv s' e', .int .i64 (val l.data.toList)]) ∧ Below w.heap.size w w' := by
  have HT := Lib.hid hT
  clear hT
  unfold rv at *
  go_enter Tryd.func59, Tryd.ntmps59
  rcases h with h | ⟨h, h1, h6⟩
  all_goals
    go_wp2_with (go_at_call 78; refine (HT.out _).mono ?_; rintro e w1 ⟨rfl, hb1⟩; have c1 : w1.cell? ⟨w.heap.size + 1, 0, none⟩ = some (.string ⟨#[]⟩) := (hb1.cell (p := ⟨w.heap.size + 1, 0, none⟩) (by simp)).trans (by simp); have c2 : w1.cell? ⟨w.heap.size + 1, 1, none⟩ = some (.int .i64 0) := (hb1.cell (p := ⟨w.heap.size + 1, 1, none⟩) (by simp)).trans (by simp); have f1 : w1.frozen? ⟨w.heap.size + 1, 0, none⟩ = false := (hb1.frozen (p := ⟨w.heap.size + 1, 0, none⟩) (by simp)).trans (by simp); have f2 : w1.frozen? ⟨w.heap.size + 1, 1, none⟩ = false := (hb1.frozen (p := ⟨w.heap.size + 1, 1, none⟩) (by simp)).trans (by simp))
    have hbw : Below w.heap.size w w1 := (((Below.refl _ _).alloc (Nat.le_refl _) _).alloc (by simp) _).trans (hb1.mono (by simp; omega))
    have hz1 := hb1.size
    simp at hz1
    clear hb1
    go_loop [8, 9] (fun x i => ∃ m : Nat, m ≤ l.size ∧ i = .int .i64 ((m : Int) - 1) ∧ x = .int .i64 (val (l.data.toList.drop m) : Int)) (fun _ i => (intOf i + 1).toNat)
    case atStart => exact ⟨l.size, Nat.le_refl _, rfl, by rw [List.drop_of_length_le (by rw [Array.length_toList]; exact Nat.le_refl _)]; rfl⟩
    case round =>
      obtain ⟨m, hm, rfl, rfl⟩ := hrel
      by_cases hlt : 0 < m
      · obtain ⟨j, rfl⟩ : ∃ j, m = j + 1 := ⟨m - 1, by omega⟩
        have HG := Lib.hid (get_step l j (by omega) hl)
        go_wp2
        go_round
        case rel => exact ⟨j, by omega, rfl, by rw [HG.out]⟩
        case measure => simp [intOf]
      · obtain rfl : m = 0 := by omega
        have bw : ∀ o, Below w1.heap.size w1 (w1.alloc o) := fun o => (Below.refl _ _).alloc (Nat.le_refl _) o
        have d1 : ∀ o, (w1.alloc o).cell? ⟨w.heap.size + 1, 0, none⟩ = some (.string ⟨#[]⟩) := fun o => ((bw o).cell (p := ⟨w.heap.size + 1, 0, none⟩) (by simp; omega)).trans c1
        have d2 : ∀ o, (w1.alloc o).cell? ⟨w.heap.size + 1, 1, none⟩ = some (.int .i64 0) := fun o => ((bw o).cell (p := ⟨w.heap.size + 1, 1, none⟩) (by simp; omega)).trans c2
        have g1 : ∀ o, (w1.alloc o).frozen? ⟨w.heap.size + 1, 0, none⟩ = false := fun o => ((bw o).frozen (p := ⟨w.heap.size + 1, 0, none⟩) (by simp; omega)).trans f1
        have g2 : ∀ o, (w1.alloc o).frozen? ⟨w.heap.size + 1, 1, none⟩ = false := fun o => ((bw o).frozen (p := ⟨w.heap.size + 1, 1, none⟩) (by simp; omega)).trans f2
        have cA := fun o u => (two_set (d1 o) (d2 o) u (.int .i64 0)).1
        have cB := fun o u v => (two_set (d1 o) (d2 o) u v).2
        have HA := Lib.hid cA
        have HB := Lib.hid cB
        clear cA cB bw
        go_wp2
        refine bodyPost_ret (by simp [results, Tryd.results59, go_sem, HA.out, HB.out]; rfl) rfl ?_
        exact ⟨by simp, ((hbw.alloc (by have := hbw.size; exact this) _).setCell (by simp) _).setCell (by simp) _⟩

/-! Rest -/
end Go.Proofs.YtojiffpmmgjpjaaDoor
