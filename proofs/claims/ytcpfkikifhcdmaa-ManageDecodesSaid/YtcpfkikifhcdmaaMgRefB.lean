/-
  WALKS of the reference of layer 15: fields, of the kinds without a name.
-/
import Derived.Test.YtcpfkikifhcdmaaMgRefN
import Derived.Test.YtcpfkikifhcdmaaAdRef
import Derived.Deep.RegionWith
import Derived.BigRegion
namespace Go.Mg
open Go.Wr Go.Ad
/-- The body whose fields have these octets. -/
def fB (c : Int) (s : ByteArray) (n : Nat) : Bd :=
  if c = 1 then { zb with kd := 1, sp := nu s 0 1, st := nu s 1 1, hn := nu s 2 2 }
  else if c = 2 then { zb with kd := 2, nm := s.extract 1 (1 + n), ls := nu s (1 + n) 1, dv := nu s (2 + n) 1 }
  else if c = 3 then { zb with kd := 3, nm := s.extract 1 (1 + n), ls := nu s (1 + n) 1, dv := nu s (2 + n) 1, od := (bev (s.extract (3 + n) s.size).data.toList : Nat) }
  else if c = 4 then { zb with kd := 4, st := nu s 0 1, ai := nu s 1 1 }
  else if c = 5 then { zb with kd := 5, st := nu s 0 1 }
  else if c = 6 then { zb with kd := 6, ct := nu s 0 1, sr := nu s 1 2, sz := nu s 3 1 }
  else if c = 7 then { zb with kd := 7, ct := nu s 0 1, st := nu s 1 1, sz := nu s 2 1 }
  else if c = 8 then { zb with kd := 8, ct := nu s 0 1, st := nu s 1 1 }
  else if c = 9 then { zb with kd := 9, ch := nu s 0 1, cn := nu s 1 1 }
  else if c = 10 then { zb with kd := 10, pf := nu s 0 4, pp := nu s 4 4, pl := nu s 8 4 }
  else if c = 11 then { zb with kd := 11, pf := nu s 0 4, pp := nu s 4 4, pl := nu s 8 4, st := nu s 12 1 }
  else { zb with kd := 12, od := (bev (s.extract 0 6).data.toList : Nat), cn := nu s 6 1 }
end Go.Mg
namespace Go.Proofs.Ytcpfkikifhcdmaa
open Go.RowKit Go.Mg Go.Wr Go.Ad
attribute [local go_sem ↓ high] Bd_.loadF Bd_.storeF Bd_.v_cells Bd_.v_match Bd_.loadP Bd_.storeP
attribute [local go_sem] Bd_.loadF_new Bd_.storeF_zero

/-- The result's cell, the body that is built, all else as it was. -/
structure Fs (w : World) (y : Bd) (wi : World) : Prop where
  res : Bd_.Box wi w.heap.size zb
  dst : Bd_.Box wi (w.heap.size + 1) y
  bel : Below w.heap.size w wi
theorem Fs.put {w wi w' : World} {y z : Bd} (h : Fs w y wi) (h1 : Bd_.Box w' (w.heap.size + 1) z) (h2 : But (w.heap.size + 1) wi w') : Fs w z w' :=
  ⟨(h2.block _ h.res.lt (by omega)).trans h.res, h1, h.bel.trans (h2.below h.bel.size (by omega))⟩
theorem Fs.drew {w wi : World} {y : Bd} (h : Fs w y wi) : Fs w y wi.drew := ⟨h.res, h.dst, h.bel.drew⟩
theorem Fs.eq {w wi : World} {x y : Bd} (h : Fs w x wi) (e : y = x) : Fs w y wi := e ▸ h
/-- The worlds that fields begins with. -/
structure Fb (w : World) (c : Int) (w1 w2 : World) : Prop where
  h1 : w.alloc (.cells #[.int .i64 0, .int .i64 0, .int .i64 0, .int .i64 0, .string ⟨#[]⟩, .int .i64 0, .int .i64 0, .int .u64 0, .int .i64 0, .int .i64 0, .int .i64 0, .int .i64 0, .int .i64 0, .int .i64 0, .int .i64 0, .int .i64 0, .int .i64 0] 27) = w1
  z1 : w1.heap.size = w.heap.size + 1
  st : (Bd_.StoreF ⟨w.heap.size + 1, 0, none⟩ (Bd_.v (bK c))).run Try.prog (w1.alloc (.cells #[.int .i64 0, .int .i64 0, .int .i64 0, .int .i64 0, .string ⟨#[]⟩, .int .i64 0, .int .i64 0, .int .u64 0, .int .i64 0, .int .i64 0, .int .i64 0, .int .i64 0, .int .i64 0, .int .i64 0, .int .i64 0, .int .i64 0, .int .i64 0] 27)) = .ok () w2
  fs : Fs w (bK c) w2
theorem Fb.new (w : World) (c : Int) : ∃ w1 w2, Fb w c w1 w2 := by
  have e1 : (w.alloc (.cells (Bd_.C zb) 27)).heap.size = w.heap.size + 1 := by simp
  have b1 := Bd_.Box.new w zb
  have b2 := Bd_.Box.new (w.alloc (.cells (Bd_.C zb) 27)) (bK c)
  have s2 := Bd_.storeF_zero (w.alloc (.cells (Bd_.C zb) 27)) (bK c)
  rw [e1] at b2 s2
  exact ⟨_, _, rfl, e1, s2, b1.allocC _, b2, ((Below.refl _ _).alloc (Nat.le_refl _) _).alloc (by rw [e1]; omega) _⟩

set_option maxRecDepth 100000 in
set_option maxHeartbeats 4000000 in
theorem refFields_1 (s : ByteArray) (n : Int) (m : Nat) (w : World) (hs : s.size = 4) :
    Calls Try.prog 33 #[.int .i64 1, .string s, .int .i64 n] w fun e w' => e = .returned (Bd_.v (fB 1 s m)) ∧ Below w.heap.size w w' := by
  obtain ⟨w1, w2, U⟩ := Fb.new w 1
  have hw1 := U.h1
  have z1 := U.z1
  have sB := U.st
  have U := Lib.hid U.fs
  have hfold : (.agg #[.int .i64 1, .int .i64 0, .int .i64 0, .int .i64 0, .string ⟨#[]⟩, .int .i64 0, .int .i64 0, .int .u64 0, .int .i64 0, .int .i64 0, .int .i64 0, .int .i64 0, .int .i64 0, .int .i64 0, .int .i64 0, .int .i64 0, .int .i64 0] : Value) = Bd_.v (bK 1) := rfl
  have K0 : Hid (∀ w, Calls Try.prog 61 #[.string s, .int .i64 0, .int .i64 1] w fun e w' => e = .returned (.int .i64 (nu s 0 1)) ∧ w = w') := fun w => refNumber15_any s 0 1 w (by decide) (by omega) (by omega)
  have K1 : Hid (∀ w, Calls Try.prog 61 #[.string s, .int .i64 1, .int .i64 1] w fun e w' => e = .returned (.int .i64 (nu s 1 1)) ∧ w = w') := fun w => refNumber15_any s 1 1 w (by decide) (by omega) (by omega)
  have K2 : Hid (∀ w, Calls Try.prog 61 #[.string s, .int .i64 2, .int .i64 2] w fun e w' => e = .returned (.int .i64 (nu s 2 2)) ∧ w = w') := fun w => refNumber15_any s 2 2 w (by decide) (by omega) (by omega)
  have HB : Hid (fB 1 s m = { bK 1 with sp := nu s 0 1, st := nu s 1 1, hn := nu s 2 2 }) := rfl
  generalize fB 1 s m = yy at *
  generalize nu s 0 1 = g0 at *
  generalize nu s 1 1 = g1 at *
  generalize nu s 2 2 = g2 at *
  clear hs
  have T0 := U.out
  have x0 := (U.out.dst.all 1).trans (show _ = some (.int .i64 0) from rfl)
  have y0 := U.out.dst.frozen 1
  have T1 := T0.put (T0.dst.set1 g0) (But.set1 _ 1 _ (.int .i64 g0))
  have x1 := (U.out.dst.all 2).trans (show _ = some (.int .i64 0) from rfl)
  have y1 := U.out.dst.frozen 2
  have T2 := T1.put (T1.dst.set2 g1) (But.set1 _ 2 _ (.int .i64 g1))
  have x2 := (U.out.dst.all 3).trans (show _ = some (.int .i64 0) from rfl)
  have y2 := U.out.dst.frozen 3
  have T3 := T2.put (T2.dst.set3 g2) (But.set1 _ 3 _ (.int .i64 g2))
  have TN := Lib.hid (T3.eq HB.out)
  have lf := TN.out.dst.loadF
  have sf := TN.out.res.storeF yy
  clear HB T0 T1 T2 T3
  go_enter Try.func33, Try.ntmps33
  go_wp2_with (first
    | (go_at_call 61; with_reducible refine (K0.out _).mono ?_; rintro e w' ⟨rfl, rfl⟩)
    | (go_at_call 61; with_reducible refine (K1.out _).mono ?_; rintro e w' ⟨rfl, rfl⟩)
    | (go_at_call 61; with_reducible refine (K2.out _).mono ?_; rintro e w' ⟨rfl, rfl⟩))
  exact ret_bd1 Try.results33 rfl (TN.out.res.setRow yy) rfl ⟨rfl, below_setRow TN.out.bel (Nat.le_refl _)⟩

set_option maxRecDepth 100000 in
set_option maxHeartbeats 4000000 in
theorem refFields_4 (s : ByteArray) (n : Int) (m : Nat) (w : World) (hs : s.size = 2) :
    Calls Try.prog 33 #[.int .i64 4, .string s, .int .i64 n] w fun e w' => e = .returned (Bd_.v (fB 4 s m)) ∧ Below w.heap.size w w' := by
  obtain ⟨w1, w2, U⟩ := Fb.new w 4
  have hw1 := U.h1
  have z1 := U.z1
  have sB := U.st
  have U := Lib.hid U.fs
  have hfold : (.agg #[.int .i64 4, .int .i64 0, .int .i64 0, .int .i64 0, .string ⟨#[]⟩, .int .i64 0, .int .i64 0, .int .u64 0, .int .i64 0, .int .i64 0, .int .i64 0, .int .i64 0, .int .i64 0, .int .i64 0, .int .i64 0, .int .i64 0, .int .i64 0] : Value) = Bd_.v (bK 4) := rfl
  have K0 : Hid (∀ w, Calls Try.prog 61 #[.string s, .int .i64 0, .int .i64 1] w fun e w' => e = .returned (.int .i64 (nu s 0 1)) ∧ w = w') := fun w => refNumber15_any s 0 1 w (by decide) (by omega) (by omega)
  have K1 : Hid (∀ w, Calls Try.prog 61 #[.string s, .int .i64 1, .int .i64 1] w fun e w' => e = .returned (.int .i64 (nu s 1 1)) ∧ w = w') := fun w => refNumber15_any s 1 1 w (by decide) (by omega) (by omega)
  have HB : Hid (fB 4 s m = { bK 4 with st := nu s 0 1, ai := nu s 1 1 }) := rfl
  generalize fB 4 s m = yy at *
  generalize nu s 0 1 = g0 at *
  generalize nu s 1 1 = g1 at *
  clear hs
  have T0 := U.out
  have x0 := (U.out.dst.all 2).trans (show _ = some (.int .i64 0) from rfl)
  have y0 := U.out.dst.frozen 2
  have T1 := T0.put (T0.dst.set2 g0) (But.set1 _ 2 _ (.int .i64 g0))
  have x1 := (U.out.dst.all 8).trans (show _ = some (.int .i64 0) from rfl)
  have y1 := U.out.dst.frozen 8
  have T2 := T1.put (T1.dst.set8 g1) (But.set1 _ 8 _ (.int .i64 g1))
  have TN := Lib.hid (T2.eq HB.out)
  have lf := TN.out.dst.loadF
  have sf := TN.out.res.storeF yy
  clear HB T0 T1 T2
  go_enter Try.func33, Try.ntmps33
  go_wp2_with (first
    | (go_at_call 61; with_reducible refine (K0.out _).mono ?_; rintro e w' ⟨rfl, rfl⟩)
    | (go_at_call 61; with_reducible refine (K1.out _).mono ?_; rintro e w' ⟨rfl, rfl⟩))
  exact ret_bd1 Try.results33 rfl (TN.out.res.setRow yy) rfl ⟨rfl, below_setRow TN.out.bel (Nat.le_refl _)⟩

set_option maxRecDepth 100000 in
set_option maxHeartbeats 4000000 in
theorem refFields_5 (s : ByteArray) (n : Int) (m : Nat) (w : World) (hs : s.size = 1) :
    Calls Try.prog 33 #[.int .i64 5, .string s, .int .i64 n] w fun e w' => e = .returned (Bd_.v (fB 5 s m)) ∧ Below w.heap.size w w' := by
  obtain ⟨w1, w2, U⟩ := Fb.new w 5
  have hw1 := U.h1
  have z1 := U.z1
  have sB := U.st
  have U := Lib.hid U.fs
  have hfold : (.agg #[.int .i64 5, .int .i64 0, .int .i64 0, .int .i64 0, .string ⟨#[]⟩, .int .i64 0, .int .i64 0, .int .u64 0, .int .i64 0, .int .i64 0, .int .i64 0, .int .i64 0, .int .i64 0, .int .i64 0, .int .i64 0, .int .i64 0, .int .i64 0] : Value) = Bd_.v (bK 5) := rfl
  have K0 : Hid (∀ w, Calls Try.prog 61 #[.string s, .int .i64 0, .int .i64 1] w fun e w' => e = .returned (.int .i64 (nu s 0 1)) ∧ w = w') := fun w => refNumber15_any s 0 1 w (by decide) (by omega) (by omega)
  have HB : Hid (fB 5 s m = { bK 5 with st := nu s 0 1 }) := rfl
  generalize fB 5 s m = yy at *
  generalize nu s 0 1 = g0 at *
  clear hs
  have T0 := U.out
  have x0 := (U.out.dst.all 2).trans (show _ = some (.int .i64 0) from rfl)
  have y0 := U.out.dst.frozen 2
  have T1 := T0.put (T0.dst.set2 g0) (But.set1 _ 2 _ (.int .i64 g0))
  have TN := Lib.hid (T1.eq HB.out)
  have lf := TN.out.dst.loadF
  have sf := TN.out.res.storeF yy
  clear HB T0 T1
  go_enter Try.func33, Try.ntmps33
  go_wp2_with (first
    | (go_at_call 61; with_reducible refine (K0.out _).mono ?_; rintro e w' ⟨rfl, rfl⟩))
  exact ret_bd1 Try.results33 rfl (TN.out.res.setRow yy) rfl ⟨rfl, below_setRow TN.out.bel (Nat.le_refl _)⟩

set_option maxRecDepth 100000 in
set_option maxHeartbeats 4000000 in
theorem refFields_6 (s : ByteArray) (n : Int) (m : Nat) (w : World) (hs : s.size = 4) :
    Calls Try.prog 33 #[.int .i64 6, .string s, .int .i64 n] w fun e w' => e = .returned (Bd_.v (fB 6 s m)) ∧ Below w.heap.size w w' := by
  obtain ⟨w1, w2, U⟩ := Fb.new w 6
  have hw1 := U.h1
  have z1 := U.z1
  have sB := U.st
  have U := Lib.hid U.fs
  have hfold : (.agg #[.int .i64 6, .int .i64 0, .int .i64 0, .int .i64 0, .string ⟨#[]⟩, .int .i64 0, .int .i64 0, .int .u64 0, .int .i64 0, .int .i64 0, .int .i64 0, .int .i64 0, .int .i64 0, .int .i64 0, .int .i64 0, .int .i64 0, .int .i64 0] : Value) = Bd_.v (bK 6) := rfl
  have K0 : Hid (∀ w, Calls Try.prog 61 #[.string s, .int .i64 0, .int .i64 1] w fun e w' => e = .returned (.int .i64 (nu s 0 1)) ∧ w = w') := fun w => refNumber15_any s 0 1 w (by decide) (by omega) (by omega)
  have K1 : Hid (∀ w, Calls Try.prog 61 #[.string s, .int .i64 1, .int .i64 2] w fun e w' => e = .returned (.int .i64 (nu s 1 2)) ∧ w = w') := fun w => refNumber15_any s 1 2 w (by decide) (by omega) (by omega)
  have K2 : Hid (∀ w, Calls Try.prog 61 #[.string s, .int .i64 3, .int .i64 1] w fun e w' => e = .returned (.int .i64 (nu s 3 1)) ∧ w = w') := fun w => refNumber15_any s 3 1 w (by decide) (by omega) (by omega)
  have HB : Hid (fB 6 s m = { bK 6 with ct := nu s 0 1, sr := nu s 1 2, sz := nu s 3 1 }) := rfl
  generalize fB 6 s m = yy at *
  generalize nu s 0 1 = g0 at *
  generalize nu s 1 2 = g1 at *
  generalize nu s 3 1 = g2 at *
  clear hs
  have T0 := U.out
  have x0 := (U.out.dst.all 9).trans (show _ = some (.int .i64 0) from rfl)
  have y0 := U.out.dst.frozen 9
  have T1 := T0.put (T0.dst.set9 g0) (But.set1 _ 9 _ (.int .i64 g0))
  have x1 := (U.out.dst.all 10).trans (show _ = some (.int .i64 0) from rfl)
  have y1 := U.out.dst.frozen 10
  have T2 := T1.put (T1.dst.set10 g1) (But.set1 _ 10 _ (.int .i64 g1))
  have x2 := (U.out.dst.all 11).trans (show _ = some (.int .i64 0) from rfl)
  have y2 := U.out.dst.frozen 11
  have T3 := T2.put (T2.dst.set11 g2) (But.set1 _ 11 _ (.int .i64 g2))
  have TN := Lib.hid (T3.eq HB.out)
  have lf := TN.out.dst.loadF
  have sf := TN.out.res.storeF yy
  clear HB T0 T1 T2 T3
  go_enter Try.func33, Try.ntmps33
  go_wp2_with (first
    | (go_at_call 61; with_reducible refine (K0.out _).mono ?_; rintro e w' ⟨rfl, rfl⟩)
    | (go_at_call 61; with_reducible refine (K1.out _).mono ?_; rintro e w' ⟨rfl, rfl⟩)
    | (go_at_call 61; with_reducible refine (K2.out _).mono ?_; rintro e w' ⟨rfl, rfl⟩))
  exact ret_bd1 Try.results33 rfl (TN.out.res.setRow yy) rfl ⟨rfl, below_setRow TN.out.bel (Nat.le_refl _)⟩

set_option maxRecDepth 100000 in
set_option maxHeartbeats 4000000 in
theorem refFields_7 (s : ByteArray) (n : Int) (m : Nat) (w : World) (hs : s.size = 3) :
    Calls Try.prog 33 #[.int .i64 7, .string s, .int .i64 n] w fun e w' => e = .returned (Bd_.v (fB 7 s m)) ∧ Below w.heap.size w w' := by
  obtain ⟨w1, w2, U⟩ := Fb.new w 7
  have hw1 := U.h1
  have z1 := U.z1
  have sB := U.st
  have U := Lib.hid U.fs
  have hfold : (.agg #[.int .i64 7, .int .i64 0, .int .i64 0, .int .i64 0, .string ⟨#[]⟩, .int .i64 0, .int .i64 0, .int .u64 0, .int .i64 0, .int .i64 0, .int .i64 0, .int .i64 0, .int .i64 0, .int .i64 0, .int .i64 0, .int .i64 0, .int .i64 0] : Value) = Bd_.v (bK 7) := rfl
  have K0 : Hid (∀ w, Calls Try.prog 61 #[.string s, .int .i64 0, .int .i64 1] w fun e w' => e = .returned (.int .i64 (nu s 0 1)) ∧ w = w') := fun w => refNumber15_any s 0 1 w (by decide) (by omega) (by omega)
  have K1 : Hid (∀ w, Calls Try.prog 61 #[.string s, .int .i64 1, .int .i64 1] w fun e w' => e = .returned (.int .i64 (nu s 1 1)) ∧ w = w') := fun w => refNumber15_any s 1 1 w (by decide) (by omega) (by omega)
  have K2 : Hid (∀ w, Calls Try.prog 61 #[.string s, .int .i64 2, .int .i64 1] w fun e w' => e = .returned (.int .i64 (nu s 2 1)) ∧ w = w') := fun w => refNumber15_any s 2 1 w (by decide) (by omega) (by omega)
  have HB : Hid (fB 7 s m = { bK 7 with ct := nu s 0 1, st := nu s 1 1, sz := nu s 2 1 }) := rfl
  generalize fB 7 s m = yy at *
  generalize nu s 0 1 = g0 at *
  generalize nu s 1 1 = g1 at *
  generalize nu s 2 1 = g2 at *
  clear hs
  have T0 := U.out
  have x0 := (U.out.dst.all 9).trans (show _ = some (.int .i64 0) from rfl)
  have y0 := U.out.dst.frozen 9
  have T1 := T0.put (T0.dst.set9 g0) (But.set1 _ 9 _ (.int .i64 g0))
  have x1 := (U.out.dst.all 2).trans (show _ = some (.int .i64 0) from rfl)
  have y1 := U.out.dst.frozen 2
  have T2 := T1.put (T1.dst.set2 g1) (But.set1 _ 2 _ (.int .i64 g1))
  have x2 := (U.out.dst.all 11).trans (show _ = some (.int .i64 0) from rfl)
  have y2 := U.out.dst.frozen 11
  have T3 := T2.put (T2.dst.set11 g2) (But.set1 _ 11 _ (.int .i64 g2))
  have TN := Lib.hid (T3.eq HB.out)
  have lf := TN.out.dst.loadF
  have sf := TN.out.res.storeF yy
  clear HB T0 T1 T2 T3
  go_enter Try.func33, Try.ntmps33
  go_wp2_with (first
    | (go_at_call 61; with_reducible refine (K0.out _).mono ?_; rintro e w' ⟨rfl, rfl⟩)
    | (go_at_call 61; with_reducible refine (K1.out _).mono ?_; rintro e w' ⟨rfl, rfl⟩)
    | (go_at_call 61; with_reducible refine (K2.out _).mono ?_; rintro e w' ⟨rfl, rfl⟩))
  exact ret_bd1 Try.results33 rfl (TN.out.res.setRow yy) rfl ⟨rfl, below_setRow TN.out.bel (Nat.le_refl _)⟩

set_option maxRecDepth 100000 in
set_option maxHeartbeats 4000000 in
theorem refFields_8 (s : ByteArray) (n : Int) (m : Nat) (w : World) (hs : s.size = 2) :
    Calls Try.prog 33 #[.int .i64 8, .string s, .int .i64 n] w fun e w' => e = .returned (Bd_.v (fB 8 s m)) ∧ Below w.heap.size w w' := by
  obtain ⟨w1, w2, U⟩ := Fb.new w 8
  have hw1 := U.h1
  have z1 := U.z1
  have sB := U.st
  have U := Lib.hid U.fs
  have hfold : (.agg #[.int .i64 8, .int .i64 0, .int .i64 0, .int .i64 0, .string ⟨#[]⟩, .int .i64 0, .int .i64 0, .int .u64 0, .int .i64 0, .int .i64 0, .int .i64 0, .int .i64 0, .int .i64 0, .int .i64 0, .int .i64 0, .int .i64 0, .int .i64 0] : Value) = Bd_.v (bK 8) := rfl
  have K0 : Hid (∀ w, Calls Try.prog 61 #[.string s, .int .i64 0, .int .i64 1] w fun e w' => e = .returned (.int .i64 (nu s 0 1)) ∧ w = w') := fun w => refNumber15_any s 0 1 w (by decide) (by omega) (by omega)
  have K1 : Hid (∀ w, Calls Try.prog 61 #[.string s, .int .i64 1, .int .i64 1] w fun e w' => e = .returned (.int .i64 (nu s 1 1)) ∧ w = w') := fun w => refNumber15_any s 1 1 w (by decide) (by omega) (by omega)
  have HB : Hid (fB 8 s m = { bK 8 with ct := nu s 0 1, st := nu s 1 1 }) := rfl
  generalize fB 8 s m = yy at *
  generalize nu s 0 1 = g0 at *
  generalize nu s 1 1 = g1 at *
  clear hs
  have T0 := U.out
  have x0 := (U.out.dst.all 9).trans (show _ = some (.int .i64 0) from rfl)
  have y0 := U.out.dst.frozen 9
  have T1 := T0.put (T0.dst.set9 g0) (But.set1 _ 9 _ (.int .i64 g0))
  have x1 := (U.out.dst.all 2).trans (show _ = some (.int .i64 0) from rfl)
  have y1 := U.out.dst.frozen 2
  have T2 := T1.put (T1.dst.set2 g1) (But.set1 _ 2 _ (.int .i64 g1))
  have TN := Lib.hid (T2.eq HB.out)
  have lf := TN.out.dst.loadF
  have sf := TN.out.res.storeF yy
  clear HB T0 T1 T2
  go_enter Try.func33, Try.ntmps33
  go_wp2_with (first
    | (go_at_call 61; with_reducible refine (K0.out _).mono ?_; rintro e w' ⟨rfl, rfl⟩)
    | (go_at_call 61; with_reducible refine (K1.out _).mono ?_; rintro e w' ⟨rfl, rfl⟩))
  exact ret_bd1 Try.results33 rfl (TN.out.res.setRow yy) rfl ⟨rfl, below_setRow TN.out.bel (Nat.le_refl _)⟩

set_option maxRecDepth 100000 in
set_option maxHeartbeats 4000000 in
theorem refFields_9 (s : ByteArray) (n : Int) (m : Nat) (w : World) (hs : s.size = 2) :
    Calls Try.prog 33 #[.int .i64 9, .string s, .int .i64 n] w fun e w' => e = .returned (Bd_.v (fB 9 s m)) ∧ Below w.heap.size w w' := by
  obtain ⟨w1, w2, U⟩ := Fb.new w 9
  have hw1 := U.h1
  have z1 := U.z1
  have sB := U.st
  have U := Lib.hid U.fs
  have hfold : (.agg #[.int .i64 9, .int .i64 0, .int .i64 0, .int .i64 0, .string ⟨#[]⟩, .int .i64 0, .int .i64 0, .int .u64 0, .int .i64 0, .int .i64 0, .int .i64 0, .int .i64 0, .int .i64 0, .int .i64 0, .int .i64 0, .int .i64 0, .int .i64 0] : Value) = Bd_.v (bK 9) := rfl
  have K0 : Hid (∀ w, Calls Try.prog 61 #[.string s, .int .i64 0, .int .i64 1] w fun e w' => e = .returned (.int .i64 (nu s 0 1)) ∧ w = w') := fun w => refNumber15_any s 0 1 w (by decide) (by omega) (by omega)
  have K1 : Hid (∀ w, Calls Try.prog 61 #[.string s, .int .i64 1, .int .i64 1] w fun e w' => e = .returned (.int .i64 (nu s 1 1)) ∧ w = w') := fun w => refNumber15_any s 1 1 w (by decide) (by omega) (by omega)
  have HB : Hid (fB 9 s m = { bK 9 with ch := nu s 0 1, cn := nu s 1 1 }) := rfl
  generalize fB 9 s m = yy at *
  generalize nu s 0 1 = g0 at *
  generalize nu s 1 1 = g1 at *
  clear hs
  have T0 := U.out
  have x0 := (U.out.dst.all 12).trans (show _ = some (.int .i64 0) from rfl)
  have y0 := U.out.dst.frozen 12
  have T1 := T0.put (T0.dst.set12 g0) (But.set1 _ 12 _ (.int .i64 g0))
  have x1 := (U.out.dst.all 13).trans (show _ = some (.int .i64 0) from rfl)
  have y1 := U.out.dst.frozen 13
  have T2 := T1.put (T1.dst.set13 g1) (But.set1 _ 13 _ (.int .i64 g1))
  have TN := Lib.hid (T2.eq HB.out)
  have lf := TN.out.dst.loadF
  have sf := TN.out.res.storeF yy
  clear HB T0 T1 T2
  go_enter Try.func33, Try.ntmps33
  go_wp2_with (first
    | (go_at_call 61; with_reducible refine (K0.out _).mono ?_; rintro e w' ⟨rfl, rfl⟩)
    | (go_at_call 61; with_reducible refine (K1.out _).mono ?_; rintro e w' ⟨rfl, rfl⟩))
  exact ret_bd1 Try.results33 rfl (TN.out.res.setRow yy) rfl ⟨rfl, below_setRow TN.out.bel (Nat.le_refl _)⟩

set_option maxRecDepth 100000 in
set_option maxHeartbeats 4000000 in
theorem refFields_10 (s : ByteArray) (n : Int) (m : Nat) (w : World) (hs : s.size = 12) :
    Calls Try.prog 33 #[.int .i64 10, .string s, .int .i64 n] w fun e w' => e = .returned (Bd_.v (fB 10 s m)) ∧ Below w.heap.size w w' := by
  obtain ⟨w1, w2, U⟩ := Fb.new w 10
  have hw1 := U.h1
  have z1 := U.z1
  have sB := U.st
  have U := Lib.hid U.fs
  have hfold : (.agg #[.int .i64 10, .int .i64 0, .int .i64 0, .int .i64 0, .string ⟨#[]⟩, .int .i64 0, .int .i64 0, .int .u64 0, .int .i64 0, .int .i64 0, .int .i64 0, .int .i64 0, .int .i64 0, .int .i64 0, .int .i64 0, .int .i64 0, .int .i64 0] : Value) = Bd_.v (bK 10) := rfl
  have K0 : Hid (∀ w, Calls Try.prog 61 #[.string s, .int .i64 0, .int .i64 4] w fun e w' => e = .returned (.int .i64 (nu s 0 4)) ∧ w = w') := fun w => refNumber15_any s 0 4 w (by decide) (by omega) (by omega)
  have K1 : Hid (∀ w, Calls Try.prog 61 #[.string s, .int .i64 4, .int .i64 4] w fun e w' => e = .returned (.int .i64 (nu s 4 4)) ∧ w = w') := fun w => refNumber15_any s 4 4 w (by decide) (by omega) (by omega)
  have K2 : Hid (∀ w, Calls Try.prog 61 #[.string s, .int .i64 8, .int .i64 4] w fun e w' => e = .returned (.int .i64 (nu s 8 4)) ∧ w = w') := fun w => refNumber15_any s 8 4 w (by decide) (by omega) (by omega)
  have HB : Hid (fB 10 s m = { bK 10 with pf := nu s 0 4, pp := nu s 4 4, pl := nu s 8 4 }) := rfl
  generalize fB 10 s m = yy at *
  generalize nu s 0 4 = g0 at *
  generalize nu s 4 4 = g1 at *
  generalize nu s 8 4 = g2 at *
  clear hs
  have T0 := U.out
  have sp0 := T0.dst.storeP g0 g1 g2
  have T1 := T0.put (T0.dst.setP g0 g1 g2) (Bd_.but_setP _ _ g0 g1 g2)
  have TN := Lib.hid (T1.eq HB.out)
  have lf := TN.out.dst.loadF
  have sf := TN.out.res.storeF yy
  clear HB T0 T1
  go_enter Try.func33, Try.ntmps33
  go_wp2_with (first
    | (go_at_call 61; with_reducible refine (K0.out _).mono ?_; rintro e w' ⟨rfl, rfl⟩)
    | (go_at_call 61; with_reducible refine (K1.out _).mono ?_; rintro e w' ⟨rfl, rfl⟩)
    | (go_at_call 61; with_reducible refine (K2.out _).mono ?_; rintro e w' ⟨rfl, rfl⟩))
  exact ret_bd1 Try.results33 rfl (TN.out.res.setRow yy) rfl ⟨rfl, below_setRow TN.out.bel (Nat.le_refl _)⟩

set_option maxRecDepth 100000 in
set_option maxHeartbeats 4000000 in
theorem refFields_11 (s : ByteArray) (n : Int) (m : Nat) (w : World) (hs : s.size = 13) :
    Calls Try.prog 33 #[.int .i64 11, .string s, .int .i64 n] w fun e w' => e = .returned (Bd_.v (fB 11 s m)) ∧ Below w.heap.size w w' := by
  obtain ⟨w1, w2, U⟩ := Fb.new w 11
  have hw1 := U.h1
  have z1 := U.z1
  have sB := U.st
  have U := Lib.hid U.fs
  have hfold : (.agg #[.int .i64 11, .int .i64 0, .int .i64 0, .int .i64 0, .string ⟨#[]⟩, .int .i64 0, .int .i64 0, .int .u64 0, .int .i64 0, .int .i64 0, .int .i64 0, .int .i64 0, .int .i64 0, .int .i64 0, .int .i64 0, .int .i64 0, .int .i64 0] : Value) = Bd_.v (bK 11) := rfl
  have K0 : Hid (∀ w, Calls Try.prog 61 #[.string s, .int .i64 0, .int .i64 4] w fun e w' => e = .returned (.int .i64 (nu s 0 4)) ∧ w = w') := fun w => refNumber15_any s 0 4 w (by decide) (by omega) (by omega)
  have K1 : Hid (∀ w, Calls Try.prog 61 #[.string s, .int .i64 4, .int .i64 4] w fun e w' => e = .returned (.int .i64 (nu s 4 4)) ∧ w = w') := fun w => refNumber15_any s 4 4 w (by decide) (by omega) (by omega)
  have K2 : Hid (∀ w, Calls Try.prog 61 #[.string s, .int .i64 8, .int .i64 4] w fun e w' => e = .returned (.int .i64 (nu s 8 4)) ∧ w = w') := fun w => refNumber15_any s 8 4 w (by decide) (by omega) (by omega)
  have K3 : Hid (∀ w, Calls Try.prog 61 #[.string s, .int .i64 12, .int .i64 1] w fun e w' => e = .returned (.int .i64 (nu s 12 1)) ∧ w = w') := fun w => refNumber15_any s 12 1 w (by decide) (by omega) (by omega)
  have HB : Hid (fB 11 s m = { bK 11 with pf := nu s 0 4, pp := nu s 4 4, pl := nu s 8 4, st := nu s 12 1 }) := rfl
  generalize fB 11 s m = yy at *
  generalize nu s 0 4 = g0 at *
  generalize nu s 4 4 = g1 at *
  generalize nu s 8 4 = g2 at *
  generalize nu s 12 1 = g3 at *
  clear hs
  have T0 := U.out
  have sp0 := T0.dst.storeP g0 g1 g2
  have T1 := T0.put (T0.dst.setP g0 g1 g2) (Bd_.but_setP _ _ g0 g1 g2)
  have x1 := (T1.dst.all 2).trans (show _ = some (.int .i64 0) from rfl)
  have y1 := T1.dst.frozen 2
  have T2 := T1.put (T1.dst.set2 g3) (But.set1 _ 2 _ (.int .i64 g3))
  have TN := Lib.hid (T2.eq HB.out)
  have lf := TN.out.dst.loadF
  have sf := TN.out.res.storeF yy
  clear HB T0 T1 T2
  go_enter Try.func33, Try.ntmps33
  go_wp2_with (first
    | (go_at_call 61; with_reducible refine (K0.out _).mono ?_; rintro e w' ⟨rfl, rfl⟩)
    | (go_at_call 61; with_reducible refine (K1.out _).mono ?_; rintro e w' ⟨rfl, rfl⟩)
    | (go_at_call 61; with_reducible refine (K2.out _).mono ?_; rintro e w' ⟨rfl, rfl⟩)
    | (go_at_call 61; with_reducible refine (K3.out _).mono ?_; rintro e w' ⟨rfl, rfl⟩))
  exact ret_bd1 Try.results33 rfl (TN.out.res.setRow yy) rfl ⟨rfl, below_setRow TN.out.bel (Nat.le_refl _)⟩

set_option maxRecDepth 100000 in
set_option maxHeartbeats 4000000 in
theorem refFields_12 (s : ByteArray) (n : Int) (m : Nat) (w : World) (hs : s.size = 7) :
    Calls Try.prog 33 #[.int .i64 12, .string s, .int .i64 n] w fun e w' => e = .returned (Bd_.v (fB 12 s m)) ∧ Below w.heap.size w w' := by
  obtain ⟨w1, w2, U⟩ := Fb.new w 12
  have hw1 := U.h1
  have z1 := U.z1
  have sB := U.st
  have U := Lib.hid U.fs
  have hfold : (.agg #[.int .i64 12, .int .i64 0, .int .i64 0, .int .i64 0, .string ⟨#[]⟩, .int .i64 0, .int .i64 0, .int .u64 0, .int .i64 0, .int .i64 0, .int .i64 0, .int .i64 0, .int .i64 0, .int .i64 0, .int .i64 0, .int .i64 0, .int .i64 0] : Value) = Bd_.v (bK 12) := rfl
  have KO : Hid (∀ w, Calls Try.prog 62 #[.string (s.extract 0 6)] w fun e w' => e = .returned (.int .u64 ((bev (s.extract 0 6).data.toList : Nat) : Int)) ∧ w = w') := fun w => refOf_any (s.extract 0 6) w (by rw [ByteArray.size_extract]; omega)
  have K0 : Hid (∀ w, Calls Try.prog 61 #[.string s, .int .i64 6, .int .i64 1] w fun e w' => e = .returned (.int .i64 (nu s 6 1)) ∧ w = w') := fun w => refNumber15_any s 6 1 w (by decide) (by omega) (by omega)
  have hsz : (s.size : Int) = 7 := by omega
  have HB : Hid (fB 12 s m = { bK 12 with od := (bev (s.extract 0 6).data.toList : Nat), cn := nu s 6 1 }) := rfl
  generalize fB 12 s m = yy at *
  generalize ((bev (s.extract 0 6).data.toList : Nat) : Int) = g0 at *
  generalize nu s 6 1 = g1 at *
  have T0 := U.out
  have x0 := (U.out.dst.all 7).trans (show _ = some (.int .u64 0) from rfl)
  have y0 := U.out.dst.frozen 7
  have T1 := T0.put (T0.dst.set7 g0) (But.set1 _ 7 _ (.int .u64 g0))
  have x1 := (U.out.dst.all 13).trans (show _ = some (.int .i64 0) from rfl)
  have y1 := U.out.dst.frozen 13
  have T2 := T1.put (T1.dst.set13 g1) (But.set1 _ 13 _ (.int .i64 g1))
  have TN := Lib.hid (T2.eq HB.out)
  have lf := TN.out.dst.loadF
  have sf := TN.out.res.storeF yy
  clear HB T0 T1 T2
  go_enter Try.func33, Try.ntmps33
  go_wp2_with (first
    | (go_at_call 61; with_reducible refine (K0.out _).mono ?_; rintro e w' ⟨rfl, rfl⟩)
    | (go_at_call 62; refine (KO.out _).mono ?_; rintro e w' ⟨rfl, rfl⟩))
  exact ret_bd1 Try.results33 rfl (TN.out.res.setRow yy) rfl ⟨rfl, below_setRow TN.out.bel (Nat.le_refl _)⟩

end Go.Proofs.Ytcpfkikifhcdmaa
