/-
  WALKS of the reference's Reader: Fail, Left, End, Take, Get, Rest.
-/
import Derived.Test.YtekdfcbkpljllaaWrRefW
namespace Go.Proofs.Ytekdfcbkpljllaa
open Go.RowKit Go.Wr

set_option maxHeartbeats 400000 in
theorem refFail_keep (s : ByteArray) (e x : Int) (w : World) (h : (e != 0) = true ∨ ((e != 0) = false ∧ (x == 0) = true)) :
    Calls Try.prog 37 #[rv s e, .int .i64 x] w fun r w' => r = .returned (rv s e) ∧ Below w.heap.size w w' := by
  unfold rv
  go_enter Try.func37, Try.ntmps37
  rcases h with h | ⟨h, h'⟩
  all_goals
    go_wp2
    go_returns
    exact ⟨rfl, by go_grown⟩

set_option maxHeartbeats 400000 in
theorem refFail_set (s : ByteArray) (x : Int) (w : World) (h : (x == 0) = false) :
    Calls Try.prog 37 #[rv s 0, .int .i64 x] w fun r w' => r = .returned (rv ⟨#[]⟩ x) ∧ Below w.heap.size w w' := by
  unfold rv
  go_enter Try.func37, Try.ntmps37
  go_wp2
  go_returns
  exact ⟨rfl, by go_grown⟩

set_option maxHeartbeats 400000 in
theorem refLeft_any (s : ByteArray) (e : Int) (w : World) :
    Calls Try.prog 23 #[rv s e] w fun r w' => r = .returned (.int .i64 (if e = 0 then s.size else 0)) ∧ Below w.heap.size w w' := by
  by_cases he : e = 0
  · subst he
    rw [if_pos rfl]
    unfold rv
    go_enter Try.func23, Try.ntmps23
    go_wp2
    go_returns
    exact ⟨rfl, by go_grown⟩
  · rw [if_neg he]
    have hb : (e != 0) = true := by rw [bne_iff_ne]; exact he
    unfold rv
    clear he
    go_enter Try.func23, Try.ntmps23
    go_wp2
    go_returns
    exact ⟨rfl, by go_grown⟩

set_option maxHeartbeats 400000 in
theorem refEnd_any (s : ByteArray) (e : Int) (w : World) :
    Calls Try.prog 24 #[rv s e] w fun r w' => r = .returned (.int .i64 (if e = 0 ∧ 0 < s.size then 2 else e)) ∧ Below w.heap.size w w' := by
  by_cases he : e = 0
  · subst he
    by_cases hs : 0 < s.size
    · rw [if_pos ⟨rfl, hs⟩]
      have h1 : (0 : Int) < s.size := by omega
      unfold rv
      clear hs
      go_enter Try.func24, Try.ntmps24
      go_wp2
      go_returns
      exact ⟨rfl, by go_grown⟩
    · rw [if_neg (fun h => hs h.2)]
      have h1 : ¬ (0 : Int) < s.size := by omega
      unfold rv
      clear hs
      go_enter Try.func24, Try.ntmps24
      go_wp2
      go_returns
      exact ⟨rfl, by go_grown⟩
  · rw [if_neg (fun h => he h.1)]
    have hb : (e == 0) = false := by rw [beq_eq_false_iff_ne]; exact he
    unfold rv
    clear he
    go_enter Try.func24, Try.ntmps24
    go_wp2
    go_returns
    exact ⟨rfl, by go_grown⟩

theorem two_set {w1 : World} {g : Nat} {u0 v0 : Value} (c1 : w1.cell? ⟨g, 0, none⟩ = some u0) (c2 : w1.cell? ⟨g, 1, none⟩ = some v0) (u v : Value) :
    (w1.setCell ⟨g, 0, none⟩ u).cell? ⟨g, 0, none⟩ = some u ∧ ((w1.setCell ⟨g, 0, none⟩ u).setCell ⟨g, 1, none⟩ v).cell? ⟨g, 1, none⟩ = some v :=
  ⟨World.cell?_setCell_same _ _ _ c1, World.cell?_setCell_same _ _ _ ((World.cell?_setCell_other _ _ _ _ (by simp)).trans c2)⟩

/-! Take -/
set_option maxHeartbeats 400000 in
theorem refTake_bad (s : ByteArray) (e n : Int) (w : World) (h : (e != 0) = true) :
    Calls Try.prog 35 #[rv s e, .int .i64 n] w fun r w' => r = .returned (.tuple #[rv s e, .string ⟨#[]⟩]) ∧ Below w.heap.size w w' := by
  unfold rv
  go_enter Try.func35, Try.ntmps35
  go_wp2
  go_returns
  exact ⟨rfl, by go_grown⟩

set_option maxHeartbeats 400000 in
theorem refTake_ok (s : ByteArray) (n : Nat) (w : World) (h : n ≤ s.size) :
    Calls Try.prog 35 #[rv s 0, .int .i64 n] w fun r w' => r = .returned (.tuple #[rv (s.extract n s.size) 0, .string (s.extract 0 n)]) ∧ Below w.heap.size w w' := by
  have h1 : ¬ (s.size : Int) < n := by omega
  unfold rv
  go_enter Try.func35, Try.ntmps35
  go_wp2
  go_region
  all_goals go_wp2
  all_goals go_returns
  all_goals exact ⟨rfl, by go_grown⟩

set_option maxHeartbeats 1000000 in
theorem refTake_fail (s : ByteArray) (n x : Int) (w : World) (h : (n < 0 ∧ x = 4) ∨ (¬ n < 0 ∧ (s.size : Int) < n ∧ x = 1)) :
    Calls Try.prog 35 #[rv s 0, .int .i64 n] w fun r w' => r = .returned (.tuple #[rv ⟨#[]⟩ x, .string ⟨#[]⟩]) ∧ Below w.heap.size w w' := by
  have HF : Hid (∀ (y : Int) (W : World), (y == 0) = false → Calls Try.prog 37 #[rv s 0, .int .i64 y] W fun r w' => r = .returned (rv ⟨#[]⟩ y) ∧ Below W.heap.size W w') := fun y W h => refFail_set s y W h
  unfold rv at *
  go_enter Try.func35, Try.ntmps35
  rcases h with ⟨h, rfl⟩ | ⟨h, h', rfl⟩
  all_goals
    go_wp2_with (go_at_call 37; refine (HF.out _ _ rfl).mono ?_; rintro e w1 ⟨rfl, hb1⟩; have c1 : w1.cell? ⟨w.heap.size + 1, 0, none⟩ = some (.string ⟨#[]⟩) := (hb1.cell (p := ⟨w.heap.size + 1, 0, none⟩) (by simp)).trans (by simp); have c2 : w1.cell? ⟨w.heap.size + 1, 1, none⟩ = some (.int .i64 0) := (hb1.cell (p := ⟨w.heap.size + 1, 1, none⟩) (by simp)).trans (by simp); have f1 : w1.frozen? ⟨w.heap.size + 1, 0, none⟩ = false := (hb1.frozen (p := ⟨w.heap.size + 1, 0, none⟩) (by simp)).trans (by simp); have f2 : w1.frozen? ⟨w.heap.size + 1, 1, none⟩ = false := (hb1.frozen (p := ⟨w.heap.size + 1, 1, none⟩) (by simp)).trans (by simp))
    have hbw : Below w.heap.size w w1 := (((Below.refl _ _).alloc (Nat.le_refl _) _).alloc (by simp) _).trans (hb1.mono (by simp; omega))
    clear hb1
    have cA := (two_set c1 c2 (.string ⟨#[]⟩) (.int .i64 0)).1
    have cB := fun v => (two_set c1 c2 (.string ⟨#[]⟩) v).2
    refine bodyPost_ret (by simp [results, Try.results35, go_sem, cA, cB]; rfl) rfl ?_
    exact ⟨rfl, (hbw.setCell (by simp) _).setCell (by simp) _⟩

/-! Get -/
theorem get_step (l : ByteArray) (j : Nat) (h : j < l.size) (h6 : l.size ≤ 6) :
    wrap64 (wrap64 (((val (l.data.toList.drop (j + 1)) : Nat) : Int) * 256) + wrap64 (((l[j]'h).toNat : Nat) : Int)) = ((val (l.data.toList.drop j) : Nat) : Int) := by
  have hx := (l[j]'h).toNat_lt
  have hl : j < l.data.toList.length := h
  have hv := val_lt (l.data.toList.drop (j + 1))
  have hle : (l.data.toList.drop (j + 1)).length ≤ 5 := by rw [List.length_drop]; have : l.data.toList.length = l.size := Array.length_toList; omega
  have hp := pow_le hle
  have h5 : pow 5 = 1099511627776 := by decide
  have e4 : l.data.toList[j] = l[j]'h := rfl
  rw [val_drop _ _ hl, e4]
  generalize (l[j]'h).toNat = x at hx
  generalize val (l.data.toList.drop (j + 1)) = v at hv
  rw [IntWalk.wrap64_in (x : Int) (by omega), IntWalk.wrap64_in ((v : Int) * 256) (by omega), IntWalk.wrap64_in _ (by omega)]
  omega

set_option maxHeartbeats 1000000 in
theorem refGet_range (s : ByteArray) (k : Int) (w : World) (h : k < 1 ∨ (¬ k < 1 ∧ 6 < k)) :
    Calls Try.prog 34 #[rv s 0, .int .i64 k] w fun r w' => r = .returned (.tuple #[rv ⟨#[]⟩ 4, .int .i64 0]) ∧ Below w.heap.size w w' := by
  have HF : Hid (∀ (y : Int) (W : World), (y == 0) = false → Calls Try.prog 37 #[rv s 0, .int .i64 y] W fun r w' => r = .returned (rv ⟨#[]⟩ y) ∧ Below W.heap.size W w') := fun y W h => refFail_set s y W h
  unfold rv at *
  go_enter Try.func34, Try.ntmps34
  rcases h with h | ⟨h, h'⟩
  all_goals
    go_wp2_with (go_at_call 37; refine (HF.out _ _ rfl).mono ?_; rintro e w1 ⟨rfl, hb1⟩; have c1 : w1.cell? ⟨w.heap.size + 1, 0, none⟩ = some (.string ⟨#[]⟩) := (hb1.cell (p := ⟨w.heap.size + 1, 0, none⟩) (by simp)).trans (by simp); have c2 : w1.cell? ⟨w.heap.size + 1, 1, none⟩ = some (.int .i64 0) := (hb1.cell (p := ⟨w.heap.size + 1, 1, none⟩) (by simp)).trans (by simp); have f1 : w1.frozen? ⟨w.heap.size + 1, 0, none⟩ = false := (hb1.frozen (p := ⟨w.heap.size + 1, 0, none⟩) (by simp)).trans (by simp); have f2 : w1.frozen? ⟨w.heap.size + 1, 1, none⟩ = false := (hb1.frozen (p := ⟨w.heap.size + 1, 1, none⟩) (by simp)).trans (by simp))
    have hbw : Below w.heap.size w w1 := (((Below.refl _ _).alloc (Nat.le_refl _) _).alloc (by simp) _).trans (hb1.mono (by simp; omega))
    clear hb1
    obtain ⟨cA, cB⟩ := two_set c1 c2 (.string ⟨#[]⟩) (.int .i64 4)
    refine bodyPost_ret (by simp [results, Try.results34, go_sem, cA, cB]; rfl) rfl ?_
    exact ⟨rfl, (hbw.setCell (by simp) _).setCell (by simp) _⟩

set_option maxHeartbeats 2000000 in
theorem refGet_via (s s' l : ByteArray) (e e' k : Int) (w : World) (hl : l.size ≤ 6) (h : (e == 0) = false ∨ ((e == 0) = true ∧ ¬ k < 1 ∧ ¬ 6 < k))
    (hT : ∀ W, Calls Try.prog 35 #[rv s e, .int .i64 k] W fun r w' => r = .returned (.tuple #[rv s' e', .string l]) ∧ Below W.heap.size W w') :
    Calls Try.prog 34 #[rv s e, .int .i64 k] w fun r w' => r = .returned (.tuple #[rv s' e', .int .i64 (val l.data.toList)]) ∧ Below w.heap.size w w' := by
  have HT := Lib.hid hT
  clear hT
  unfold rv at *
  go_enter Try.func34, Try.ntmps34
  rcases h with h | ⟨h, h1, h6⟩
  all_goals
    go_wp2_with (go_at_call 35; refine (HT.out _).mono ?_; rintro e w1 ⟨rfl, hb1⟩; have c1 : w1.cell? ⟨w.heap.size + 1, 0, none⟩ = some (.string ⟨#[]⟩) := (hb1.cell (p := ⟨w.heap.size + 1, 0, none⟩) (by simp)).trans (by simp); have c2 : w1.cell? ⟨w.heap.size + 1, 1, none⟩ = some (.int .i64 0) := (hb1.cell (p := ⟨w.heap.size + 1, 1, none⟩) (by simp)).trans (by simp); have f1 : w1.frozen? ⟨w.heap.size + 1, 0, none⟩ = false := (hb1.frozen (p := ⟨w.heap.size + 1, 0, none⟩) (by simp)).trans (by simp); have f2 : w1.frozen? ⟨w.heap.size + 1, 1, none⟩ = false := (hb1.frozen (p := ⟨w.heap.size + 1, 1, none⟩) (by simp)).trans (by simp))
    have hbw : Below w.heap.size w w1 := (((Below.refl _ _).alloc (Nat.le_refl _) _).alloc (by simp) _).trans (hb1.mono (by simp; omega))
    have hz1 := hb1.size
    simp at hz1
    clear hb1
    go_loop [8, 9] (fun x i => ∃ m : Nat, m ≤ l.size ∧ i = .int .i64 ((m : Int) - 1) ∧ x = .int .i64 (val (l.data.toList.drop m) : Int)) (fun _ i => (intOf i + 1).toNat)
    case atStart => exact ⟨l.size, Nat.le_refl _, rfl, by rw [List.drop_of_length_le (by rw [Array.length_toList]; exact Nat.le_refl _)]; rfl⟩
    case round =>
      obtain ⟨m, hm, rfl, rfl⟩ := hrel
      by_cases hlt : 0 < m
      · obtain ⟨j, rfl⟩ : ∃ j, m = j + 1 := ⟨m - 1, by omega⟩
        have HG := Lib.hid (get_step l j (by omega) hl)
        go_wp2
        go_round
        case rel => exact ⟨j, by omega, rfl, by rw [HG.out]⟩
        case measure => simp [intOf]
      · obtain rfl : m = 0 := by omega
        have bw : ∀ o, Below w1.heap.size w1 (w1.alloc o) := fun o => (Below.refl _ _).alloc (Nat.le_refl _) o
        have d1 : ∀ o, (w1.alloc o).cell? ⟨w.heap.size + 1, 0, none⟩ = some (.string ⟨#[]⟩) := fun o => ((bw o).cell (p := ⟨w.heap.size + 1, 0, none⟩) (by simp; omega)).trans c1
        have d2 : ∀ o, (w1.alloc o).cell? ⟨w.heap.size + 1, 1, none⟩ = some (.int .i64 0) := fun o => ((bw o).cell (p := ⟨w.heap.size + 1, 1, none⟩) (by simp; omega)).trans c2
        have g1 : ∀ o, (w1.alloc o).frozen? ⟨w.heap.size + 1, 0, none⟩ = false := fun o => ((bw o).frozen (p := ⟨w.heap.size + 1, 0, none⟩) (by simp; omega)).trans f1
        have g2 : ∀ o, (w1.alloc o).frozen? ⟨w.heap.size + 1, 1, none⟩ = false := fun o => ((bw o).frozen (p := ⟨w.heap.size + 1, 1, none⟩) (by simp; omega)).trans f2
        have cA := fun o u => (two_set (d1 o) (d2 o) u (.int .i64 0)).1
        have cB := fun o u v => (two_set (d1 o) (d2 o) u v).2
        have HA := Lib.hid cA
        have HB := Lib.hid cB
        clear cA cB bw
        go_wp2
        refine bodyPost_ret (by simp [results, Try.results34, go_sem, HA.out, HB.out]; rfl) rfl ?_
        exact ⟨by simp, ((hbw.alloc (by have := hbw.size; exact this) _).setCell (by simp) _).setCell (by simp) _⟩

/-! Rest -/
set_option maxRecDepth 100000 in
set_option maxHeartbeats 2000000 in
theorem refRest_via (s s' l : ByteArray) (e e' k : Int) (w : World) (hk : k = (if e = 0 then (s.size : Int) else 0))
    (hT : ∀ W, Calls Try.prog 35 #[rv s e, .int .i64 k] W fun r w' => r = .returned (.tuple #[rv s' e', .string l]) ∧ Below W.heap.size W w') :
    Calls Try.prog 36 #[rv s e] w fun r w' => r = .returned (.tuple #[rv s' e', .string l]) ∧ Below w.heap.size w w' := by
  have HT := Lib.hid hT
  have HL : Hid (∀ W, Calls Try.prog 23 #[rv s e] W fun r w' => r = .returned (.int .i64 k) ∧ Below W.heap.size W w') := fun W => by
    rw [hk]; have := refLeft_any s e W; split at this <;> rename_i h <;> simpa [h] using this
  clear hT hk
  unfold rv at *
  go_enter Try.func36, Try.ntmps36
  go_wp2
  go_region_with (first
    | (go_at_call 23; refine (HL.out _).mono ?_; rintro e w1 ⟨rfl, hb1⟩; have c0 : w1.cell? ⟨w.heap.size, 0, none⟩ = some (.string s) := (hb1.cell (p := ⟨w.heap.size, 0, none⟩) (by simp; omega)).trans (by simp); have c1 : w1.cell? ⟨w.heap.size, 1, none⟩ = some (.int .i64 _) := (hb1.cell (p := ⟨w.heap.size, 1, none⟩) (by simp; omega)).trans (by simp; rfl))
    | (go_at_call 35; refine (HT.out _).mono ?_; rintro e w2 ⟨rfl, hb2⟩; have hz := hb1.size; simp at hz; have r1 : w2.cell? ⟨w.heap.size + 1, 0, none⟩ = some (.string ⟨#[]⟩) := (hb2.cell (p := ⟨w.heap.size + 1, 0, none⟩) (by simp; omega)).trans ((hb1.cell (p := ⟨w.heap.size + 1, 0, none⟩) (by simp)).trans (by simp)); have r2 : w2.cell? ⟨w.heap.size + 1, 1, none⟩ = some (.int .i64 0) := (hb2.cell (p := ⟨w.heap.size + 1, 1, none⟩) (by simp; omega)).trans ((hb1.cell (p := ⟨w.heap.size + 1, 1, none⟩) (by simp)).trans (by simp)); have f1 : w2.frozen? ⟨w.heap.size + 1, 0, none⟩ = false := (hb2.frozen (p := ⟨w.heap.size + 1, 0, none⟩) (by simp; omega)).trans ((hb1.frozen (p := ⟨w.heap.size + 1, 0, none⟩) (by simp)).trans (by simp)); have f2 : w2.frozen? ⟨w.heap.size + 1, 1, none⟩ = false := (hb2.frozen (p := ⟨w.heap.size + 1, 1, none⟩) (by simp; omega)).trans ((hb1.frozen (p := ⟨w.heap.size + 1, 1, none⟩) (by simp)).trans (by simp))))
  all_goals
    have hbw : Below w.heap.size w w2 := (((((Below.refl _ _).alloc (Nat.le_refl _) _).alloc (by simp) _).drew).trans (hb1.mono (by simp; omega))).trans (hb2.mono (by omega))
    have cA := fun u => (two_set r1 r2 u (.int .i64 0)).1
    have cB := fun u v => (two_set r1 r2 u v).2
    have HA := Lib.hid cA
    have HB := Lib.hid cB
    clear cA cB hb1 hb2
    go_wp2
    refine bodyPost_ret (by simp [results, Try.results36, go_sem, HA.out, HB.out]; rfl) rfl ?_
    exact ⟨rfl, (hbw.setCell (by simp) _).setCell (by simp) _⟩
end Go.Proofs.Ytekdfcbkpljllaa
