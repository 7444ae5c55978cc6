/-
  WALKS of the reference of layer 15: fields, of the kinds with a name.
-/
import Derived.Test.YtcpfkikifhcdmaaMgRefB
import Derived.Deep.RegionHeld3
namespace Go.Proofs.Ytcpfkikifhcdmaa
open Go.RowKit Go.Mg Go.Wr Go.Ad
attribute [local go_sem ↓ high] Bd_.loadF Bd_.storeF Bd_.v_cells Bd_.v_match Bd_.loadP Bd_.storeP
attribute [local go_sem] Bd_.loadF_new Bd_.storeF_zero

theorem slice15 (s : ByteArray) (i j : Nat) (h1 : i ≤ j) (h2 : j ≤ s.size) (W : World) : (Instr.slice 9 (.string s) (some (.int .i64 (i : Int))) (some (.int .i64 (j : Int))) none).run Try.prog W = .ok (.string (s.extract i j)) W := by
  rw [run_slice_string_if W 9 s .i64 .i64 (i : Int) (j : Int) Try.underlying9, if_pos ⟨by omega, by omega⟩, if_pos ⟨by omega, by omega⟩]
  rw [Int.toNat_natCast, Int.toNat_natCast]
theorem slice15l (s : ByteArray) (i : Nat) (h2 : i ≤ s.size) (W : World) : (Instr.slice 9 (.string s) (some (.int .i64 (i : Int))) none none).run Try.prog W = .ok (.string (s.extract i s.size)) W := by
  have := run_slice_string_l (P := Try.prog) (w := W) (s := s) (t := 9) Try.underlying9 .i64 (i : Int) (by omega) (by omega)
  rw [Int.toNat_natCast] at this
  exact this

set_option maxRecDepth 100000 in
set_option maxHeartbeats 4000000 in
theorem refFields_2 (s : ByteArray) (n : Nat) (w : World) (hn : n ≤ 255) (hs : s.size = n + 3) :
    Calls Try.prog 33 #[.int .i64 2, .string s, .int .i64 (n : Int)] w fun e w' => e = .returned (Bd_.v (fB 2 s n)) ∧ Below w.heap.size w w' := by
  obtain ⟨w1, w2, U⟩ := Fb.new w 2
  have hw1 := U.h1
  have z1 := U.z1
  have sB := U.st
  have U := Lib.hid U.fs
  have hfold : (.agg #[.int .i64 2, .int .i64 0, .int .i64 0, .int .i64 0, .string ⟨#[]⟩, .int .i64 0, .int .i64 0, .int .u64 0, .int .i64 0, .int .i64 0, .int .i64 0, .int .i64 0, .int .i64 0, .int .i64 0, .int .i64 0, .int .i64 0, .int .i64 0] : Value) = Bd_.v (bK 2) := rfl
  have e1 : RowKit.wrap64 (1 + (n : Int)) = ((1 + n : Nat) : Int) := (IntWalk.wrap64_in _ (by omega)).trans (by omega)
  have e2 : RowKit.wrap64 (2 + (n : Int)) = ((2 + n : Nat) : Int) := (IntWalk.wrap64_in _ (by omega)).trans (by omega)
  have i1 : IntKind.i64.wrap (1 + (n : Int)) = ((1 + n : Nat) : Int) := (IntWalk.i64_in _ (by omega)).trans (by omega)
  have i2 : IntKind.i64.wrap (2 + (n : Int)) = ((2 + n : Nat) : Int) := (IntWalk.i64_in _ (by omega)).trans (by omega)
  have sl : ∀ W, (Instr.slice 9 (.string s) (some (.int .i64 1)) (some (.int .i64 ((1 + n : Nat) : Int))) none).run Try.prog W = .ok (.string (s.extract 1 (1 + n))) W := fun W => slice15 s 1 (1 + n) (by omega) (by omega) W
  have K0 : Hid (∀ w, Calls Try.prog 61 #[.string s, .int .i64 ((1 + n : Nat) : Int), .int .i64 1] w fun e w' => e = .returned (.int .i64 (nu s (1 + n) 1)) ∧ w = w') := fun w => refNumber15_any s (1 + n) 1 w (by decide) (by omega) (by omega)
  have K1 : Hid (∀ w, Calls Try.prog 61 #[.string s, .int .i64 ((2 + n : Nat) : Int), .int .i64 1] w fun e w' => e = .returned (.int .i64 (nu s (2 + n) 1)) ∧ w = w') := fun w => refNumber15_any s (2 + n) 1 w (by decide) (by omega) (by omega)
  have HB : Hid (fB 2 s n = { bK 2 with nm := s.extract 1 (1 + n), ls := nu s (1 + n) 1, dv := nu s (2 + n) 1 }) := rfl
  generalize fB 2 s n = yy at *
  generalize nu s (1 + n) 1 = g1 at *
  generalize nu s (2 + n) 1 = g2 at *
  generalize s.extract 1 (1 + n) = g0 at *
  generalize 1 + n = p1 at *
  generalize 2 + n = p2 at *
  clear hs hn
  have T0 := U.out
  have x0 := (U.out.dst.all 4).trans (show _ = some (.string ⟨#[]⟩) from rfl)
  have y0 := U.out.dst.frozen 4
  have T1 := T0.put (T0.dst.set4 g0) (But.set1 _ 4 _ (.string g0))
  have x1 := (U.out.dst.all 5).trans (show _ = some (.int .i64 0) from rfl)
  have y1 := U.out.dst.frozen 5
  have T2 := T1.put (T1.dst.set5 g1) (But.set1 _ 5 _ (.int .i64 g1))
  have x2 := (U.out.dst.all 6).trans (show _ = some (.int .i64 0) from rfl)
  have y2 := U.out.dst.frozen 6
  have T3 := T2.put (T2.dst.set6 g2) (But.set1 _ 6 _ (.int .i64 g2))
  have TN := Lib.hid (T3.drew.eq HB.out)
  have lf := TN.out.dst.loadF
  have sf := TN.out.res.storeF yy
  clear HB
  go_enter Try.func33, Try.ntmps33
  go_wp2
  go_region_with (first
    | (go_at_call 61; with_reducible refine (K0.out _).mono ?_; rintro e w' ⟨rfl, rfl⟩)
    | (go_at_call 61; with_reducible refine (K1.out _).mono ?_; rintro e w' ⟨rfl, rfl⟩))
  go_wp2
  exact ret_bd1 Try.results33 rfl (TN.out.res.setRow yy) rfl ⟨rfl, below_setRow TN.out.bel (Nat.le_refl _)⟩

set_option maxRecDepth 100000 in
set_option maxHeartbeats 4000000 in
theorem refFields_3 (s : ByteArray) (n : Nat) (w : World) (hn : n ≤ 255) (hs : s.size = n + 9) :
    Calls Try.prog 33 #[.int .i64 3, .string s, .int .i64 (n : Int)] w fun e w' => e = .returned (Bd_.v (fB 3 s n)) ∧ Below w.heap.size w w' := by
  obtain ⟨w1, w2, U⟩ := Fb.new w 3
  have hw1 := U.h1
  have z1 := U.z1
  have sB := U.st
  have U := Lib.hid U.fs
  have hfold : (.agg #[.int .i64 3, .int .i64 0, .int .i64 0, .int .i64 0, .string ⟨#[]⟩, .int .i64 0, .int .i64 0, .int .u64 0, .int .i64 0, .int .i64 0, .int .i64 0, .int .i64 0, .int .i64 0, .int .i64 0, .int .i64 0, .int .i64 0, .int .i64 0] : Value) = Bd_.v (bK 3) := rfl
  have e1 : RowKit.wrap64 (1 + (n : Int)) = ((1 + n : Nat) : Int) := (IntWalk.wrap64_in _ (by omega)).trans (by omega)
  have e2 : RowKit.wrap64 (2 + (n : Int)) = ((2 + n : Nat) : Int) := (IntWalk.wrap64_in _ (by omega)).trans (by omega)
  have i1 : IntKind.i64.wrap (1 + (n : Int)) = ((1 + n : Nat) : Int) := (IntWalk.i64_in _ (by omega)).trans (by omega)
  have i2 : IntKind.i64.wrap (2 + (n : Int)) = ((2 + n : Nat) : Int) := (IntWalk.i64_in _ (by omega)).trans (by omega)
  have sl : ∀ W, (Instr.slice 9 (.string s) (some (.int .i64 1)) (some (.int .i64 ((1 + n : Nat) : Int))) none).run Try.prog W = .ok (.string (s.extract 1 (1 + n))) W := fun W => slice15 s 1 (1 + n) (by omega) (by omega) W
  have K0 : Hid (∀ w, Calls Try.prog 61 #[.string s, .int .i64 ((1 + n : Nat) : Int), .int .i64 1] w fun e w' => e = .returned (.int .i64 (nu s (1 + n) 1)) ∧ w = w') := fun w => refNumber15_any s (1 + n) 1 w (by decide) (by omega) (by omega)
  have K1 : Hid (∀ w, Calls Try.prog 61 #[.string s, .int .i64 ((2 + n : Nat) : Int), .int .i64 1] w fun e w' => e = .returned (.int .i64 (nu s (2 + n) 1)) ∧ w = w') := fun w => refNumber15_any s (2 + n) 1 w (by decide) (by omega) (by omega)
  have e3 : RowKit.wrap64 (3 + (n : Int)) = ((3 + n : Nat) : Int) := (IntWalk.wrap64_in _ (by omega)).trans (by omega)
  have i3 : IntKind.i64.wrap (3 + (n : Int)) = ((3 + n : Nat) : Int) := (IntWalk.i64_in _ (by omega)).trans (by omega)
  have sr := slice15l s (3 + n) (by omega)
  have KO : Hid (∀ w, Calls Try.prog 62 #[.string (s.extract (3 + n) s.size)] w fun e w' => e = .returned (.int .u64 ((bev (s.extract (3 + n) s.size).data.toList : Nat) : Int)) ∧ w = w') := fun w => refOf_any (s.extract (3 + n) s.size) w (by rw [ByteArray.size_extract]; omega)
  have HB : Hid (fB 3 s n = { bK 3 with nm := s.extract 1 (1 + n), ls := nu s (1 + n) 1, dv := nu s (2 + n) 1, od := ((bev (s.extract (3 + n) s.size).data.toList : Nat) : Int) }) := rfl
  generalize fB 3 s n = yy at *
  generalize nu s (1 + n) 1 = g1 at *
  generalize nu s (2 + n) 1 = g2 at *
  generalize s.extract 1 (1 + n) = g0 at *
  generalize ((bev (s.extract (3 + n) s.size).data.toList : Nat) : Int) = g3 at *
  generalize s.extract (3 + n) s.size = t3 at *
  generalize 3 + n = p3 at *
  generalize 1 + n = p1 at *
  generalize 2 + n = p2 at *
  clear hs hn
  have T0 := U.out
  have x0 := (U.out.dst.all 4).trans (show _ = some (.string ⟨#[]⟩) from rfl)
  have y0 := U.out.dst.frozen 4
  have T1 := T0.put (T0.dst.set4 g0) (But.set1 _ 4 _ (.string g0))
  have x1 := (U.out.dst.all 5).trans (show _ = some (.int .i64 0) from rfl)
  have y1 := U.out.dst.frozen 5
  have T2 := T1.put (T1.dst.set5 g1) (But.set1 _ 5 _ (.int .i64 g1))
  have x2 := (U.out.dst.all 6).trans (show _ = some (.int .i64 0) from rfl)
  have y2 := U.out.dst.frozen 6
  have T3 := T2.put (T2.dst.set6 g2) (But.set1 _ 6 _ (.int .i64 g2))
  have x3 := (U.out.dst.all 7).trans (show _ = some (.int .u64 0) from rfl)
  have y3 := U.out.dst.frozen 7
  have T4 := T3.put (T3.dst.set7 g3) (But.set1 _ 7 _ (.int .u64 g3))
  have TN := Lib.hid (T4.drew.eq HB.out)
  have lf := TN.out.dst.loadF
  have sf := TN.out.res.storeF yy
  clear HB
  go_enter Try.func33, Try.ntmps33
  go_wp2
  go_region_with (first
    | (go_at_call 61; with_reducible refine (K0.out _).mono ?_; rintro e w' ⟨rfl, rfl⟩)
    | (go_at_call 61; with_reducible refine (K1.out _).mono ?_; rintro e w' ⟨rfl, rfl⟩))
  go_wp2_with (go_at_call 62; refine (KO.out _).mono ?_; rintro e w' ⟨rfl, rfl⟩)
  exact ret_bd1 Try.results33 rfl (TN.out.res.setRow yy) rfl ⟨rfl, below_setRow TN.out.bel (Nat.le_refl _)⟩

theorem refFields_any {c : Int} (hc : isK c) (s : ByteArray) (n : Nat) (w : World) (hn : n ≤ 255) (hs : (s.size : Int) = nd c n) :
    Calls Try.prog 33 #[.int .i64 c, .string s, .int .i64 (n : Int)] w fun e w' => e = .returned (Bd_.v (fB c s n)) ∧ Below w.heap.size w w' := by
  rcases kinds hc with rfl | rfl | rfl | rfl | rfl | rfl | rfl | rfl | rfl | rfl | rfl | rfl <;> simp [nd] at hs
  · exact refFields_1 s n n w (by omega)
  · exact refFields_2 s n w hn (by omega)
  · exact refFields_3 s n w hn (by omega)
  · exact refFields_4 s n n w (by omega)
  · exact refFields_5 s n n w (by omega)
  · exact refFields_6 s n n w (by omega)
  · exact refFields_7 s n n w (by omega)
  · exact refFields_8 s n n w (by omega)
  · exact refFields_9 s n n w (by omega)
  · exact refFields_10 s n n w (by omega)
  · exact refFields_11 s n n w (by omega)
  · exact refFields_12 s n n w (by omega)
end Go.Proofs.Ytcpfkikifhcdmaa
