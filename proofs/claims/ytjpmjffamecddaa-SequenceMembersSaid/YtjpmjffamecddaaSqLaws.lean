/-
  THE WALKS of the examples that every law of layer 6 ends with, and of the laws SequenceArithmetic, SequenceOrder, SequenceShifts.
-/
import Derived.Test.YtjpmjffamecddaaSqProg
namespace Go.Proofs.Ytjpmjffamecddaa
open Go.RowKit Go.Shelf Go.Sq

theorem collect_any (D : Does) (a s : Int) (most : Nat) (hm : most ≤ 5000) (ha : (Lit.int .i64 a).wf = true) (hs : (Lit.int .i64 s).wf = true) (w : World) :
    Calls Try.prog 17 #[.int .i64 a, .int .i64 s, .int .i64 most] w fun e w' => ColPost a s most w e w' :=
  (callsIn_wide (n := 3)).1 (collect_in D 3 (by omega) a s most hm ha hs w)

theorem wf_i64 {z : Int} (h : -9223372036854775808 ≤ z ∧ z < 9223372036854775808) : (Lit.int .i64 z).wf = true := by
  simp [Lit.wf, IntKind.min, IntKind.max, IntKind.signed, IntKind.bits]
  omega
theorem win3 : (win 4095 3).take 9 = [4095, 0, 1] := by decide

set_option maxRecDepth 100000 in
set_option maxHeartbeats 2000000 in
theorem awake_any (D : Does) (w : World) :
    Calls Try.prog 16 #[] w fun e w' => e = .returned (.bool true) ∧ Below w.heap.size w w' := by
  have C : Hid (Calls Try.prog 17 #[.int .i64 4095, .int .i64 3, .int .i64 9] w fun e w' => ∃ v cap, e = .returned (.tuple #[.slice v 3 cap, .bool true]) ∧ SlV w' (.slice v 3 cap) [4095, 0, 1] ∧ Below w.heap.size w w') :=
    (collect_any D 4095 3 9 (by decide) (by decide) (by decide) w).mono fun e w' h => by
      obtain ⟨v, cap, h1, h2, h3⟩ := h
      rw [win3] at h1 h2
      exact ⟨v, cap, h1, h2, h3⟩
  have A1 : Hid (∀ w, Calls Try.prog 10 #[.int .i64 4095, .int .i64 1] w fun e w' => e = .returned (.int .i64 0) ∧ w = w') := fun w => by
    have h := D.add_any 4095 1 w (by decide) (by decide)
    rw [show add 4095 1 = 0 from by decide] at h; exact h
  have A2 : Hid (∀ w, Calls Try.prog 10 #[.int .i64 0, .int .i64 (-1)] w fun e w' => e = .returned (.int .i64 4095) ∧ w = w') := fun w => by
    have h := D.add_any 0 (-1) w (by decide) (by decide)
    rw [show add 0 (-1) = 4095 from by decide] at h; exact h
  have D1 : Hid (∀ w, Calls Try.prog 12 #[.int .i64 4090, .int .i64 5] w fun e w' => e = .returned (.int .i64 11) ∧ w = w') := fun w => by
    have h := D.distance_any 4090 5 w (by decide) (by decide)
    rw [show dist 4090 5 = 11 from by decide] at h; exact h
  have B1 : Hid (∀ w, Calls Try.prog 14 #[.int .i64 4095, .int .i64 0] w fun e w' => e = .returned (.bool true) ∧ w = w') := fun w => by
    have h := D.before_any 4095 0 w (by decide) (by decide)
    rw [show bef 4095 0 = true from by decide] at h; exact h
  have B2 : Hid (∀ w, Calls Try.prog 14 #[.int .i64 0, .int .i64 2048] w fun e w' => e = .returned (.bool false) ∧ w = w') := fun w => by
    have h := D.before_any 0 2048 w (by decide) (by decide)
    rw [show bef 0 2048 = false from by decide] at h; exact h
  have B3 : Hid (∀ w, Calls Try.prog 14 #[.int .i64 2048, .int .i64 0] w fun e w' => e = .returned (.bool false) ∧ w = w') := fun w => by
    have h := D.before_any 2048 0 w (by decide) (by decide)
    rw [show bef 2048 0 = false from by decide] at h; exact h
  have I1 : Hid (∀ w, Calls Try.prog 18 #[.int .i64 4094, .int .i64 4, .int .i64 1] w fun e w' => e = .returned (.bool true) ∧ w = w') := fun w => by
    have h := D.in_any 4094 4 1 w (by decide) (by decide) (by decide)
    rw [show inn 4094 4 1 = true from by decide] at h; exact h
  have I2 : Hid (∀ w, Calls Try.prog 18 #[.int .i64 4094, .int .i64 4, .int .i64 2] w fun e w' => e = .returned (.bool false) ∧ w = w') := fun w => by
    have h := D.in_any 4094 4 2 w (by decide) (by decide) (by decide)
    rw [show inn 4094 4 2 = false from by decide] at h; exact h
  have V1 : Hid (∀ w, Calls Try.prog 8 #[.int .i64 4095] w fun e w' => e = .returned (.bool true) ∧ w = w') := fun w => by
    have h := D.valid_any 4095 w (by decide)
    rw [show vl 4095 = true from by decide] at h; exact h
  have V2 : Hid (∀ w, Calls Try.prog 8 #[.int .i64 4096] w fun e w' => e = .returned (.bool false) ∧ w = w') := fun w => by
    have h := D.valid_any 4096 w (by decide)
    rw [show vl 4096 = false from by decide] at h; exact h
  go_enter Try.func16, Try.ntmps16
  go_wp2_with fail
  refine C.out.mono ?_
  rintro e w1 ⟨v, cap, rfl, hsl, hb⟩
  have SM : Hid (Calls Try.prog 20 #[.slice v 3 cap, .slice (some ⟨w1.heap.size, 0, none⟩) 3 3] (w1.alloc (.cells #[.int .i64 4095, .int .i64 0, .int .i64 1] 3)) fun e w' => e = .returned (.bool true) ∧ Below (w1.alloc (.cells #[.int .i64 4095, .int .i64 0, .int .i64 1] 3)).heap.size (w1.alloc (.cells #[.int .i64 4095, .int .i64 0, .int .i64 1] 3)) w') :=
    same_any [4095, 0, 1] _ _ _ (by decide) (hsl.below ((Below.refl _ _).alloc (Nat.le_refl _) _)) (.inr ⟨_, 3, rfl, fun j hj => by
      rw [World.cell?_alloc_at _ _ _ j rfl]
      match j, hj with
      | 0, _ => rfl
      | 1, _ => rfl
      | 2, _ => rfl⟩)
  have HB : Hid (Below w.heap.size w (w1.alloc (.cells #[.int .i64 4095, .int .i64 0, .int .i64 1] 3))) := hb.alloc hb.size _
  clear hsl hb C
  go_wp2_with (first
    | (go_at_call 20; refine SM.out.mono ?_; rintro e w2 ⟨rfl, hb2⟩; have HB2 := Lib.hid (HB.out.trans (hb2.mono HB.out.size)); clear hb2)
    | (go_at_call 10; with_reducible refine (A1.out _).mono ?_; rintro e w' ⟨rfl, rfl⟩)
    | (go_at_call 10; with_reducible refine (A2.out _).mono ?_; rintro e w' ⟨rfl, rfl⟩)
    | (go_at_call 12; with_reducible refine (D1.out _).mono ?_; rintro e w' ⟨rfl, rfl⟩)
    | (go_at_call 14; with_reducible refine (B1.out _).mono ?_; rintro e w' ⟨rfl, rfl⟩)
    | (go_at_call 14; with_reducible refine (B2.out _).mono ?_; rintro e w' ⟨rfl, rfl⟩)
    | (go_at_call 14; with_reducible refine (B3.out _).mono ?_; rintro e w' ⟨rfl, rfl⟩)
    | (go_at_call 18; with_reducible refine (I1.out _).mono ?_; rintro e w' ⟨rfl, rfl⟩)
    | (go_at_call 18; with_reducible refine (I2.out _).mono ?_; rintro e w' ⟨rfl, rfl⟩)
    | (go_at_call 8; with_reducible refine (V1.out _).mono ?_; rintro e w' ⟨rfl, rfl⟩)
    | (go_at_call 8; with_reducible refine (V2.out _).mono ?_; rintro e w' ⟨rfl, rfl⟩))
  go_returns
  exact ⟨rfl, HB2.out⟩

set_option maxRecDepth 100000 in
set_option maxHeartbeats 2000000 in
theorem sequenceArithmetic_walk1 (D : Does) (a : Int) (ha : (Lit.int .i64 a).wf = true) (b : Int) (hb : (Lit.int .i64 b).wf = true) (W : World) :
    Calls Try.prog 3 #[.int .i64 a, .int .i64 b] W fun e w' => e = .returned (.bool true) ∧ Below W.heap.size W w' := by
  have c1 := Lib.hid (fun w => D.valid_any a w ha)
  have c2 := Lib.hid (fun w => refValid_any a w)
  have c3 := Lib.hid (fun w => D.add_any a b w ha hb)
  have c4 := Lib.hid (fun w => refAdd_any a b w)
  have c5 := Lib.hid (fun w => D.distance_any a b w ha hb)
  have c6 := Lib.hid (fun w => refDistance_any a b w)
  have c7 := Lib.hid (fun w => D.before_any a b w ha hb)
  have c8 := Lib.hid (fun w => refBefore_any a b w)
  have LV := Lib.hid (awake_any D)
  generalize vl a = v at *
  generalize add a b = x at *
  generalize dist a b = y at *
  generalize bef a b = z at *
  clear ha hb
  go_enter Try.func3, Try.ntmps3
  go_wp2_with (first
    | (go_at_call 8; refine (c1.out _).mono ?_; rintro e w' ⟨rfl, rfl⟩)
    | (go_at_call 9; refine (c2.out _).mono ?_; rintro e w' ⟨rfl, rfl⟩)
    | (go_at_call 10; refine (c3.out _).mono ?_; rintro e w' ⟨rfl, rfl⟩)
    | (go_at_call 11; refine (c4.out _).mono ?_; rintro e w' ⟨rfl, rfl⟩)
    | (go_at_call 12; refine (c5.out _).mono ?_; rintro e w' ⟨rfl, rfl⟩)
    | (go_at_call 13; refine (c6.out _).mono ?_; rintro e w' ⟨rfl, rfl⟩)
    | (go_at_call 14; refine (c7.out _).mono ?_; rintro e w' ⟨rfl, rfl⟩)
    | (go_at_call 15; refine (c8.out _).mono ?_; rintro e w' ⟨rfl, rfl⟩)
    | (go_at_call 16; refine (LV.out _).mono ?_; rintro e w1 ⟨rfl, hb1⟩))
  go_returns
  exact ⟨rfl, hb1⟩

theorem nat_of_u16 {a : Int} (h : (Lit.int .u16 a).wf = true) : ∃ n : Nat, a = n ∧ n < 65536 := by
  simp [Lit.wf, IntKind.min, IntKind.max, IntKind.signed, IntKind.bits] at h
  exact ⟨a.toNat, by omega, by omega⟩

set_option maxRecDepth 100000 in
set_option maxHeartbeats 2000000 in
theorem sequenceShifts_walk1 (D : Does) (a0 : Int) (ha : (Lit.int .u16 a0).wf = true) (b0 : Int) (hb : (Lit.int .u16 b0).wf = true) (k : Int) (hk : (Lit.int .i64 k).wf = true) (W : World) :
    Calls Try.prog 6 #[.int .u16 a0, .int .u16 b0, .int .i64 k] W fun e w' => e = .returned (.bool true) ∧ Below W.heap.size W w' := by
  obtain ⟨a, rfl, hal⟩ := nat_of_u16 ha
  obtain ⟨b, rfl, hbl⟩ := nat_of_u16 hb
  have LV := Lib.hid (awake_any D)
  obtain ⟨x, hx⟩ : ∃ x : Int, x = (a : Int) % 4096 := ⟨_, rfl⟩
  obtain ⟨y, hy⟩ : ∃ y : Int, y = (b : Int) % 4096 := ⟨_, rfl⟩
  have hx1 : (a : Int).tmod 4096 = x := by rw [Int.tmod_eq_emod_of_nonneg (by omega)]; exact hx.symm
  have hy1 : (b : Int).tmod 4096 = y := by rw [Int.tmod_eq_emod_of_nonneg (by omega)]; exact hy.symm
  have hxb : 0 ≤ x ∧ x < 4096 := by omega
  have hyb : 0 ≤ y ∧ y < 4096 := by omega
  have hwx : Go.RowKit.wrap64 x = x := IntWalk.wrap64_in _ (by omega)
  have hwy : Go.RowKit.wrap64 y = y := IntWalk.wrap64_in _ (by omega)
  have wx : (Lit.int .i64 x).wf = true := wf_i64 (by omega)
  have wy : (Lit.int .i64 y).wf = true := wf_i64 (by omega)
  have hdb := md_in (y - x)
  rw [show md (y - x) = dist x y from rfl] at hdb
  have wd : (Lit.int .i64 (dist x y)).wf = true := wf_i64 (by omega)
  have h1 := md_in (x + k)
  rw [show md (x + k) = add x k from rfl] at h1
  have h2 := md_in (y + k)
  rw [show md (y + k) = add y k from rfl] at h2
  have c1 := Lib.hid (fun w => D.distance_any x y w wx wy)
  have c2 := Lib.hid (fun w => D.add_any x k w wx hk)
  have c3 := Lib.hid (fun w => D.add_any y k w wy hk)
  have c4 : Hid (∀ w, Calls Try.prog 12 #[.int .i64 (add x k), .int .i64 (add y k)] w fun e w' => e = .returned (.int .i64 (dist x y)) ∧ w = w') := fun w => by
    have h := D.distance_any (add x k) (add y k) w (wf_i64 (by omega)) (wf_i64 (by omega))
    rw [dist_shift] at h; exact h
  have c5 : Hid (∀ w, Calls Try.prog 10 #[.int .i64 x, .int .i64 (dist x y)] w fun e w' => e = .returned (.int .i64 y) ∧ w = w') := fun w => by
    have h := D.add_any x (dist x y) w wx wd
    rw [add_dist hyb] at h; exact h
  generalize dist x y = d at *
  generalize add x k = p at *
  generalize add y k = q at *
  obtain ⟨hd0, hd1⟩ := hdb
  clear ha hb hk hx hy hxb hyb wx wy wd h1 h2 hal hbl
  go_enter Try.func6, Try.ntmps6
  go_wp2_with (first
    | (go_at_call 12; with_reducible refine (c1.out _).mono ?_; rintro e w' ⟨rfl, rfl⟩)
    | (go_at_call 12; with_reducible refine (c4.out _).mono ?_; rintro e w' ⟨rfl, rfl⟩)
    | (go_at_call 10; with_reducible refine (c2.out _).mono ?_; rintro e w' ⟨rfl, rfl⟩)
    | (go_at_call 10; with_reducible refine (c3.out _).mono ?_; rintro e w' ⟨rfl, rfl⟩)
    | (go_at_call 10; with_reducible refine (c5.out _).mono ?_; rintro e w' ⟨rfl, rfl⟩)
    | (go_at_call 16; refine (LV.out _).mono ?_; rintro e w1 ⟨rfl, hb1⟩))
  go_returns
  exact ⟨rfl, hb1⟩
end Go.Proofs.Ytjpmjffamecddaa
