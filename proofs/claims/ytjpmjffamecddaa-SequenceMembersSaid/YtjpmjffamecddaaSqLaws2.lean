/-
  THE WALKS of the laws SequenceOrder, SequenceWindows, SequenceMembers.
-/
import Derived.Test.YtjpmjffamecddaaSqLaws
namespace Go.Proofs.Ytjpmjffamecddaa
open Go.RowKit Go.Shelf Go.Sq

set_option maxRecDepth 100000 in
set_option maxHeartbeats 2000000 in
theorem sequenceOrder_walk1 (D : Does) (a0 : Int) (ha : (Lit.int .u16 a0).wf = true) (b0 : Int) (hb : (Lit.int .u16 b0).wf = true) (W : World) :
    Calls Try.prog 5 #[.int .u16 a0, .int .u16 b0] W fun e w' => e = .returned (.bool true) ∧ Below W.heap.size W w' := by
  obtain ⟨a, rfl, hal⟩ := nat_of_u16 ha
  obtain ⟨b, rfl, hbl⟩ := nat_of_u16 hb
  have LV := Lib.hid (awake_any D)
  obtain ⟨x, hx⟩ : ∃ x : Int, x = (a : Int) % 4096 := ⟨_, rfl⟩
  obtain ⟨y, hy⟩ : ∃ y : Int, y = (b : Int) % 4096 := ⟨_, rfl⟩
  have hx1 : (a : Int).tmod 4096 = x := by rw [Int.tmod_eq_emod_of_nonneg (by omega)]; exact hx.symm
  have hy1 : (b : Int).tmod 4096 = y := by rw [Int.tmod_eq_emod_of_nonneg (by omega)]; exact hy.symm
  have hxb : 0 ≤ x ∧ x < 4096 := by omega
  have hyb : 0 ≤ y ∧ y < 4096 := by omega
  have hwx : Go.RowKit.wrap64 x = x := IntWalk.wrap64_in _ (by omega)
  have hwy : Go.RowKit.wrap64 y = y := IntWalk.wrap64_in _ (by omega)
  have hw1 : IntKind.i64.wrap (x - y) = x - y := IntWalk.i64_in _ (by omega)
  have hw2 : IntKind.i64.wrap (y - x) = y - x := IntWalk.i64_in _ (by omega)
  have wx : (Lit.int .i64 x).wf = true := wf_i64 (by omega)
  have wy : (Lit.int .i64 y).wf = true := wf_i64 (by omega)
  have c1 := Lib.hid (fun w => D.before_any x y w wx wy)
  have c2 := Lib.hid (fun w => D.before_any y x w wy wx)
  have hno := bef_not (a := x) (b := y)
  have hone := bef_one (a := x) (b := y) hxb hyb
  generalize bef x y = p at *
  generalize bef y x = q at *
  obtain ⟨hx2, hx3⟩ := hxb
  obtain ⟨hy2, hy3⟩ := hyb
  clear ha hb hx hy wx wy hal hbl
  by_cases h1 : x = y
  · obtain ⟨rfl, rfl⟩ := hno (.inl h1)
    subst h1
    clear hno hone
    go_enter Try.func5, Try.ntmps5
    go_wp2_with (first
      | (go_at_call 14; with_reducible refine (c1.out _).mono ?_; rintro e w' ⟨rfl, rfl⟩)
      | (go_at_call 14; with_reducible refine (c2.out _).mono ?_; rintro e w' ⟨rfl, rfl⟩)
      | (go_at_call 16; refine (LV.out _).mono ?_; rintro e w1 ⟨rfl, hb1⟩))
    all_goals
      go_returns
      exact ⟨rfl, hb1⟩
  have h1' : (x == y) = false := beq_eq_false_iff_ne.mpr h1
  by_cases h2 : x - y = 2048
  · obtain ⟨rfl, rfl⟩ := hno (.inr (.inl h2))
    have h2' : (x - y == 2048) = true := beq_iff_eq.mpr h2
    clear hno hone
    go_enter Try.func5, Try.ntmps5
    go_wp2_with (first
      | (go_at_call 14; with_reducible refine (c1.out _).mono ?_; rintro e w' ⟨rfl, rfl⟩)
      | (go_at_call 14; with_reducible refine (c2.out _).mono ?_; rintro e w' ⟨rfl, rfl⟩)
      | (go_at_call 16; refine (LV.out _).mono ?_; rintro e w1 ⟨rfl, hb1⟩))
    all_goals
      go_returns
      exact ⟨rfl, hb1⟩
  have h2' : (x - y == 2048) = false := beq_eq_false_iff_ne.mpr h2
  by_cases h3 : y - x = 2048
  · obtain ⟨rfl, rfl⟩ := hno (.inr (.inr h3))
    have h3' : (y - x == 2048) = true := beq_iff_eq.mpr h3
    clear hno hone
    go_enter Try.func5, Try.ntmps5
    go_wp2_with (first
      | (go_at_call 14; with_reducible refine (c1.out _).mono ?_; rintro e w' ⟨rfl, rfl⟩)
      | (go_at_call 14; with_reducible refine (c2.out _).mono ?_; rintro e w' ⟨rfl, rfl⟩)
      | (go_at_call 16; refine (LV.out _).mono ?_; rintro e w1 ⟨rfl, hb1⟩))
    all_goals
      go_returns
      exact ⟨rfl, hb1⟩
  have h3' : (y - x == 2048) = false := beq_eq_false_iff_ne.mpr h3
  obtain rfl := hone (fun h => by rcases h with h | h | h <;> omega)
  have hq : ((!q) != q) = true := by cases q <;> rfl
  clear hno hone h1 h2 h3
  cases q
  all_goals
    go_enter Try.func5, Try.ntmps5
    go_wp2_with (first
      | (go_at_call 14; with_reducible refine (c1.out _).mono ?_; rintro e w' ⟨rfl, rfl⟩)
      | (go_at_call 14; with_reducible refine (c2.out _).mono ?_; rintro e w' ⟨rfl, rfl⟩)
      | (go_at_call 16; refine (LV.out _).mono ?_; rintro e w1 ⟨rfl, hb1⟩))
    go_returns
    exact ⟨rfl, hb1⟩

set_option maxRecDepth 100000 in
set_option maxHeartbeats 2000000 in
theorem sequenceWindows_walk1 (D : Does) (a : Int) (ha : (Lit.int .i64 a).wf = true) (s : Int) (hs : (Lit.int .i64 s).wf = true) (n : Int) (hn : (Lit.int .i64 n).wf = true) (W : World) :
    Calls Try.prog 4 #[.int .i64 a, .int .i64 s, .int .i64 n] W fun e w' => e = .returned (.bool true) ∧ Below W.heap.size W w' := by
  have LV := Lib.hid (awake_any D)
  have c1 := Lib.hid (fun w => D.in_any a s n w ha hs hn)
  have c2 := Lib.hid (fun w => refIn_any a s n w)
  have hm : (if (100 : Int) < s then 100 else s) = min s 100 := by split <;> omega
  have e100 : (win a s).take 100 = win a (min s 100) := win_min a s 100 (by decide)
  have e5000 : (win a s).take 5000 = win a s := List.take_of_length_le (by have := cnt_le s; rw [win_len]; omega)
  have hl1 : (win a (min s 100)).length = cnt (min s 100) := win_len _ _
  have hl2 : (win a s).length = cnt s := win_len _ _
  have hz1 : (win a (min s 100)).length ≤ 1000000 := by have := cnt_le (min s 100); omega
  have C1 : Hid (∀ w, Calls Try.prog 17 #[.int .i64 a, .int .i64 s, .int .i64 100] w fun e w' => ∃ v cap, e = .returned (.tuple #[.slice v (cnt (min s 100)) cap, .bool true]) ∧ SlV w' (.slice v (cnt (min s 100)) cap) (win a (min s 100)) ∧ Below w.heap.size w w') := fun w =>
    (collect_any D a s 100 (by decide) ha hs w).mono fun e w' h => by
      obtain ⟨v, cap, h1, h2, h3⟩ := h
      rw [e100, hl1] at h1 h2
      exact ⟨v, cap, h1, h2, h3⟩
  have C2 : Hid (∀ w, Calls Try.prog 17 #[.int .i64 a, .int .i64 s, .int .i64 5000] w fun e w' => ∃ v cap, e = .returned (.tuple #[.slice v (cnt s) cap, .bool true]) ∧ Below w.heap.size w w') := fun w =>
    (collect_any D a s 5000 (by decide) ha hs w).mono fun e w' h => by
      obtain ⟨v, cap, h1, h2, h3⟩ := h
      rw [e5000, hl2] at h1
      exact ⟨v, cap, h1, h3⟩
  have R1 := Lib.hid (fun w => refWindow_any a (min s 100) w)
  have R2 := Lib.hid (fun w => refWindow_any a s w)
  have HSM : Hid (∀ v v' w, SlV w v (win a (min s 100)) → SlV w v' (win a (min s 100)) → Calls Try.prog 20 #[v, v'] w fun e w' => e = .returned (.bool true) ∧ Below w.heap.size w w') := fun v v' w h h' => same_any _ v v' w hz1 h h'
  generalize inn a s n = b at *
  generalize hM : min s 100 = M at *
  clear ha hs hn e100 e5000 hl1 hl2 hz1 hM
  go_enter Try.func4, Try.ntmps4
  go_wp2_with fail
  refine (C1.out _).mono ?_
  rintro e w1 ⟨v1, cap1, rfl, hsl1, hb1⟩
  clear C1
  go_wp2_with fail
  refine (C2.out _).mono ?_
  rintro e w2 ⟨v2, cap2, rfl, hb2⟩
  have hsl2 := hsl1.below hb2
  have hb2' := hb1.trans (hb2.mono hb1.size)
  clear C2 hsl1 hb1 hb2
  go_wp2_with (first
    | (go_at_call 18; refine (c1.out _).mono ?_; rintro e w' ⟨rfl, rfl⟩)
    | (go_at_call 19; refine (c2.out _).mono ?_; rintro e w' ⟨rfl, rfl⟩)
    | fail)
  refine (R1.out _).mono ?_
  rintro e w3 ⟨⟨v3, cap3, rfl, hsl3⟩, hb3⟩
  have HS := Lib.hid (HSM.out _ _ w3 (hsl2.below hb3) hsl3)
  have HB3 := Lib.hid (hb2'.trans (hb3.mono hb2'.size))
  clear hsl2 hsl3 hb3 hb2' R1 HSM
  go_wp2_with (first
    | (go_at_call 20; refine HS.out.mono ?_; rintro e w4 ⟨rfl, hb4⟩; have HB4 := Lib.hid (HB3.out.trans (hb4.mono HB3.out.size)); clear hb4)
    | (go_at_call 21; refine (R2.out _).mono ?_; rintro e w5 ⟨⟨v5, cap5, rfl, hsl5⟩, hb5⟩; have HB5 := Lib.hid (HB4.out.trans (hb5.mono HB4.out.size)); clear hb5 hsl5)
    | (go_at_call 16; refine (LV.out _).mono ?_; rintro e w6 ⟨rfl, hb6⟩; have HB6 := Lib.hid (HB5.out.trans (hb6.mono HB5.out.size)); clear hb6))
  go_returns
  exact ⟨rfl, HB6.out⟩
end Go.Proofs.Ytjpmjffamecddaa
