/-
  WALKS of the reference of layer 15: used.
-/
import Derived.Test.YtcpfkikifhcdmaaMgDec
import Derived.Deep.RegionWith
import Derived.BigRegion
namespace Go.Proofs.Ytcpfkikifhcdmaa
open Go.RowKit Go.Mg Go.Wr
attribute [local go_sem ↓ high] Bd_.loadF Bd_.storeF Bd_.v_cells Bd_.v_match Bd_.loadP Bd_.storeP
attribute [local go_sem] Bd_.loadF_new Bd_.storeF_zero

/-- The copy of the body, the result's cell, the body that is built, all else as it was. -/
structure Us (w : World) (b y : Bd) (wi : World) : Prop where
  src : Bd_.Box wi w.heap.size b
  res : Bd_.Box wi (w.heap.size + 1) zb
  dst : Bd_.Box wi (w.heap.size + 2) y
  bel : Below w.heap.size w wi
theorem Us.put {w wi w' : World} {b y z : Bd} (h : Us w b y wi) (h1 : Bd_.Box w' (w.heap.size + 2) z) (h2 : But (w.heap.size + 2) wi w') : Us w b z w' :=
  ⟨(h2.block _ h.src.lt (by omega)).trans h.src, (h2.block _ h.res.lt (by omega)).trans h.res, h1, h.bel.trans (h2.below h.bel.size (by omega))⟩
theorem Us.drew {w wi : World} {b y : Bd} (h : Us w b y wi) : Us w b y wi.drew := ⟨h.src, h.res, h.dst, h.bel.drew⟩
theorem Us.set {w wi w' : World} {b y : Bd} (z : Bd) {i : Nat} {u : Value} (h : Us w b y wi) (h1 : Bd_.Box (wi.setCell ⟨w.heap.size + 2, i, none⟩ u) (w.heap.size + 2) z) (e : wi.setCell ⟨w.heap.size + 2, i, none⟩ u = w') : Us w b z w' := by
  subst e
  exact h.put h1 (But.set1 _ i wi u)
theorem Us.eq {w wi : World} {b x y : Bd} (h : Us w b x wi) (e : y = x) : Us w b y wi := e ▸ h
/-- The worlds that used begins with. -/
structure Ub (w : World) (b : Bd) (c : Int) (w1 w2 w3 : World) : Prop where
  h1 : w.alloc (.cells (Bd_.C b) 27) = w1
  h2 : w1.alloc (.cells #[.int .i64 0, .int .i64 0, .int .i64 0, .int .i64 0, .string ⟨#[]⟩, .int .i64 0, .int .i64 0, .int .u64 0, .int .i64 0, .int .i64 0, .int .i64 0, .int .i64 0, .int .i64 0, .int .i64 0, .int .i64 0, .int .i64 0, .int .i64 0] 27) = w2
  h3 : w2.alloc (.cells (Bd_.C (bK c)) 27) = w3
  z1 : w1.heap.size = w.heap.size + 1
  z2 : w2.heap.size = w.heap.size + 2
  s2 : Bd_.Box w2 w.heap.size b
  us : Us w b (bK c) w3
theorem Ub.st {w w1 w2 w3 : World} {b : Bd} {c : Int} (h : Ub w b c w1 w2 w3) : (Bd_.StoreF ⟨w.heap.size + 2, 0, none⟩ (Bd_.v (bK c))).run Try.prog (w2.alloc (.cells #[.int .i64 0, .int .i64 0, .int .i64 0, .int .i64 0, .string ⟨#[]⟩, .int .i64 0, .int .i64 0, .int .u64 0, .int .i64 0, .int .i64 0, .int .i64 0, .int .i64 0, .int .i64 0, .int .i64 0, .int .i64 0, .int .i64 0, .int .i64 0] 27)) = .ok () w3 := by
  have := Bd_.storeF_zero w2 (bK c)
  rw [h.h3, h.z2] at this
  exact this
theorem Ub.new (w : World) (b : Bd) (c : Int) : ∃ w1 w2 w3, Ub w b c w1 w2 w3 := by
  refine ⟨_, _, _, rfl, rfl, rfl, by simp, by simp, (Bd_.Box.new w b).allocC _, ?_⟩
  have e1 : (w.alloc (.cells (Bd_.C b) 27)).heap.size = w.heap.size + 1 := by simp
  have e2 : ((w.alloc (.cells (Bd_.C b) 27)).alloc (.cells (Bd_.C zb) 27)).heap.size = w.heap.size + 2 := by simp
  have b1 := Bd_.Box.new w b
  have b2 := Bd_.Box.new (w.alloc (.cells (Bd_.C b) 27)) zb
  rw [e1] at b2
  have b3 := Bd_.Box.new ((w.alloc (.cells (Bd_.C b) 27)).alloc (.cells (Bd_.C zb) 27)) (bK c)
  rw [e2] at b3
  exact ⟨(b1.allocC _).allocC _, b2.allocC _, b3, (((Below.refl _ _).alloc (Nat.le_refl _) _).alloc (by simp) _).alloc (Nat.le_trans (by omega) (Nat.le_of_eq e2.symm)) _⟩

set_option maxRecDepth 100000 in
set_option maxHeartbeats 4000000 in
theorem refUsed_1 (b : Bd) (w : World) (hd : b.kd = 1) :
    Calls Try.prog 24 #[Bd_.v b] w fun e w' => e = .returned (Bd_.v (usB b)) ∧ Below w.heap.size w w' := by
  obtain ⟨w1, w2, w3, U⟩ := Ub.new w b 1
  have hw1 := U.h1
  have hw2 := U.h2
  have hw3 := U.h3
  have z1 := U.z1
  have z2 := U.z2
  have U := Lib.hid U
  have hfold : (.agg #[.int .i64 1, .int .i64 0, .int .i64 0, .int .i64 0, .string ⟨#[]⟩, .int .i64 0, .int .i64 0, .int .u64 0, .int .i64 0, .int .i64 0, .int .i64 0, .int .i64 0, .int .i64 0, .int .i64 0, .int .i64 0, .int .i64 0, .int .i64 0] : Value) = Bd_.v (bK 1) := rfl
  have c0 : w2.cell? ⟨w.heap.size, 0, none⟩ = some (.int .i64 1) := by rw [← hd]; exact U.out.s2.all 0
  have d0 : w3.cell? ⟨w.heap.size, 0, none⟩ = some (.int .i64 1) := by rw [← hd]; exact U.out.us.src.all 0
  have d1 : w3.cell? ⟨w.heap.size, 1, none⟩ = some (.int .i64 b.sp) := U.out.us.src.all 1
  have d2 : w3.cell? ⟨w.heap.size, 2, none⟩ = some (.int .i64 b.st) := U.out.us.src.all 2
  have d3 : w3.cell? ⟨w.heap.size, 3, none⟩ = some (.int .i64 b.hn) := U.out.us.src.all 3
  have HB : Hid (usB b = { bK 1 with sp := b.sp, st := b.st, hn := b.hn }) := by unfold Hid usB; rw [hd]; rfl
  have T0 := U.out.us
  have x0 := (U.out.us.dst.all 1).trans (show _ = some (.int .i64 0) from rfl)
  have y0 := U.out.us.dst.frozen 1
  have T1 := T0.put (T0.dst.set1 b.sp) (But.set1 _ 1 _ (.int .i64 b.sp))
  have x1 := (U.out.us.dst.all 2).trans (show _ = some (.int .i64 0) from rfl)
  have y1 := U.out.us.dst.frozen 2
  have T2 := T1.put (T1.dst.set2 b.st) (But.set1 _ 2 _ (.int .i64 b.st))
  have x2 := (U.out.us.dst.all 3).trans (show _ = some (.int .i64 0) from rfl)
  have y2 := U.out.us.dst.frozen 3
  have T3 := T2.put (T2.dst.set3 b.hn) (But.set1 _ 3 _ (.int .i64 b.hn))
  have TN := Lib.hid (T3.drew.eq HB.out)
  have lf := TN.out.dst.loadF
  have sf := TN.out.res.storeF (usB b)
  clear HB
  clear hw1 hw2 hw3 hd
  have hw1 := U.out.h1
  have hw2 := U.out.h2
  have sB := U.out.st
  generalize usB b = yy at *
  clear T0 T1 T2 T3
  go_enter Try.func24, Try.ntmps24
  go_wp2
  go_region
  go_wp2
  exact ret_bd1 Try.results24 rfl (TN.out.res.setRow yy) rfl ⟨rfl, below_setRow TN.out.bel (Nat.le_succ _)⟩

set_option maxRecDepth 100000 in
set_option maxHeartbeats 4000000 in
theorem refUsed_2 (b : Bd) (w : World) (hd : b.kd = 2) :
    Calls Try.prog 24 #[Bd_.v b] w fun e w' => e = .returned (Bd_.v (usB b)) ∧ Below w.heap.size w w' := by
  obtain ⟨w1, w2, w3, U⟩ := Ub.new w b 2
  have hw1 := U.h1
  have hw2 := U.h2
  have hw3 := U.h3
  have z1 := U.z1
  have z2 := U.z2
  have U := Lib.hid U
  have hfold : (.agg #[.int .i64 2, .int .i64 0, .int .i64 0, .int .i64 0, .string ⟨#[]⟩, .int .i64 0, .int .i64 0, .int .u64 0, .int .i64 0, .int .i64 0, .int .i64 0, .int .i64 0, .int .i64 0, .int .i64 0, .int .i64 0, .int .i64 0, .int .i64 0] : Value) = Bd_.v (bK 2) := rfl
  have c0 : w2.cell? ⟨w.heap.size, 0, none⟩ = some (.int .i64 2) := by rw [← hd]; exact U.out.s2.all 0
  have d0 : w3.cell? ⟨w.heap.size, 0, none⟩ = some (.int .i64 2) := by rw [← hd]; exact U.out.us.src.all 0
  have d4 : w3.cell? ⟨w.heap.size, 4, none⟩ = some (.string b.nm) := U.out.us.src.all 4
  have d5 : w3.cell? ⟨w.heap.size, 5, none⟩ = some (.int .i64 b.ls) := U.out.us.src.all 5
  have d6 : w3.cell? ⟨w.heap.size, 6, none⟩ = some (.int .i64 b.dv) := U.out.us.src.all 6
  have HB : Hid (usB b = { bK 2 with nm := b.nm, ls := b.ls, dv := b.dv }) := by unfold Hid usB; rw [hd]; rfl
  have T0 := U.out.us
  have x0 := (U.out.us.dst.all 4).trans (show _ = some (.string ⟨#[]⟩) from rfl)
  have y0 := U.out.us.dst.frozen 4
  have T1 := T0.put (T0.dst.set4 b.nm) (But.set1 _ 4 _ (.string b.nm))
  have x1 := (U.out.us.dst.all 5).trans (show _ = some (.int .i64 0) from rfl)
  have y1 := U.out.us.dst.frozen 5
  have T2 := T1.put (T1.dst.set5 b.ls) (But.set1 _ 5 _ (.int .i64 b.ls))
  have x2 := (U.out.us.dst.all 6).trans (show _ = some (.int .i64 0) from rfl)
  have y2 := U.out.us.dst.frozen 6
  have T3 := T2.put (T2.dst.set6 b.dv) (But.set1 _ 6 _ (.int .i64 b.dv))
  have TN := Lib.hid (T3.drew.eq HB.out)
  have lf := TN.out.dst.loadF
  have sf := TN.out.res.storeF (usB b)
  clear HB
  clear hw1 hw2 hw3 hd
  have hw1 := U.out.h1
  have hw2 := U.out.h2
  have sB := U.out.st
  generalize usB b = yy at *
  clear T0 T1 T2 T3
  go_enter Try.func24, Try.ntmps24
  go_wp2
  go_region
  go_wp2
  exact ret_bd1 Try.results24 rfl (TN.out.res.setRow yy) rfl ⟨rfl, below_setRow TN.out.bel (Nat.le_succ _)⟩

set_option maxRecDepth 100000 in
set_option maxHeartbeats 4000000 in
theorem refUsed_3 (b : Bd) (w : World) (hd : b.kd = 3) :
    Calls Try.prog 24 #[Bd_.v b] w fun e w' => e = .returned (Bd_.v (usB b)) ∧ Below w.heap.size w w' := by
  obtain ⟨w1, w2, w3, U⟩ := Ub.new w b 3
  have hw1 := U.h1
  have hw2 := U.h2
  have hw3 := U.h3
  have z1 := U.z1
  have z2 := U.z2
  have U := Lib.hid U
  have hfold : (.agg #[.int .i64 3, .int .i64 0, .int .i64 0, .int .i64 0, .string ⟨#[]⟩, .int .i64 0, .int .i64 0, .int .u64 0, .int .i64 0, .int .i64 0, .int .i64 0, .int .i64 0, .int .i64 0, .int .i64 0, .int .i64 0, .int .i64 0, .int .i64 0] : Value) = Bd_.v (bK 3) := rfl
  have c0 : w2.cell? ⟨w.heap.size, 0, none⟩ = some (.int .i64 3) := by rw [← hd]; exact U.out.s2.all 0
  have d0 : w3.cell? ⟨w.heap.size, 0, none⟩ = some (.int .i64 3) := by rw [← hd]; exact U.out.us.src.all 0
  have d4 : w3.cell? ⟨w.heap.size, 4, none⟩ = some (.string b.nm) := U.out.us.src.all 4
  have d5 : w3.cell? ⟨w.heap.size, 5, none⟩ = some (.int .i64 b.ls) := U.out.us.src.all 5
  have d6 : w3.cell? ⟨w.heap.size, 6, none⟩ = some (.int .i64 b.dv) := U.out.us.src.all 6
  have d7 : w3.cell? ⟨w.heap.size, 7, none⟩ = some (.int .u64 b.od) := U.out.us.src.all 7
  have HB : Hid (usB b = { bK 3 with nm := b.nm, ls := b.ls, dv := b.dv, od := b.od }) := by unfold Hid usB; rw [hd]; rfl
  have T0 := U.out.us
  have x0 := (U.out.us.dst.all 4).trans (show _ = some (.string ⟨#[]⟩) from rfl)
  have y0 := U.out.us.dst.frozen 4
  have T1 := T0.put (T0.dst.set4 b.nm) (But.set1 _ 4 _ (.string b.nm))
  have x1 := (U.out.us.dst.all 5).trans (show _ = some (.int .i64 0) from rfl)
  have y1 := U.out.us.dst.frozen 5
  have T2 := T1.put (T1.dst.set5 b.ls) (But.set1 _ 5 _ (.int .i64 b.ls))
  have x2 := (U.out.us.dst.all 6).trans (show _ = some (.int .i64 0) from rfl)
  have y2 := U.out.us.dst.frozen 6
  have T3 := T2.put (T2.dst.set6 b.dv) (But.set1 _ 6 _ (.int .i64 b.dv))
  have x3 := (U.out.us.dst.all 7).trans (show _ = some (.int .u64 0) from rfl)
  have y3 := U.out.us.dst.frozen 7
  have T4 := T3.put (T3.dst.set7 b.od) (But.set1 _ 7 _ (.int .u64 b.od))
  have TN := Lib.hid (T4.drew.eq HB.out)
  have lf := TN.out.dst.loadF
  have sf := TN.out.res.storeF (usB b)
  clear HB
  clear hw1 hw2 hw3 hd
  have hw1 := U.out.h1
  have hw2 := U.out.h2
  have sB := U.out.st
  generalize usB b = yy at *
  clear T0 T1 T2 T3 T4
  go_enter Try.func24, Try.ntmps24
  go_wp2
  go_region
  go_wp2
  exact ret_bd1 Try.results24 rfl (TN.out.res.setRow yy) rfl ⟨rfl, below_setRow TN.out.bel (Nat.le_succ _)⟩

set_option maxRecDepth 100000 in
set_option maxHeartbeats 4000000 in
theorem refUsed_4 (b : Bd) (w : World) (hd : b.kd = 4) :
    Calls Try.prog 24 #[Bd_.v b] w fun e w' => e = .returned (Bd_.v (usB b)) ∧ Below w.heap.size w w' := by
  obtain ⟨w1, w2, w3, U⟩ := Ub.new w b 4
  have hw1 := U.h1
  have hw2 := U.h2
  have hw3 := U.h3
  have z1 := U.z1
  have z2 := U.z2
  have U := Lib.hid U
  have hfold : (.agg #[.int .i64 4, .int .i64 0, .int .i64 0, .int .i64 0, .string ⟨#[]⟩, .int .i64 0, .int .i64 0, .int .u64 0, .int .i64 0, .int .i64 0, .int .i64 0, .int .i64 0, .int .i64 0, .int .i64 0, .int .i64 0, .int .i64 0, .int .i64 0] : Value) = Bd_.v (bK 4) := rfl
  have c0 : w2.cell? ⟨w.heap.size, 0, none⟩ = some (.int .i64 4) := by rw [← hd]; exact U.out.s2.all 0
  have d0 : w3.cell? ⟨w.heap.size, 0, none⟩ = some (.int .i64 4) := by rw [← hd]; exact U.out.us.src.all 0
  have d2 : w3.cell? ⟨w.heap.size, 2, none⟩ = some (.int .i64 b.st) := U.out.us.src.all 2
  have d8 : w3.cell? ⟨w.heap.size, 8, none⟩ = some (.int .i64 b.ai) := U.out.us.src.all 8
  have HB : Hid (usB b = { bK 4 with st := b.st, ai := b.ai }) := by unfold Hid usB; rw [hd]; rfl
  have T0 := U.out.us
  have x0 := (U.out.us.dst.all 2).trans (show _ = some (.int .i64 0) from rfl)
  have y0 := U.out.us.dst.frozen 2
  have T1 := T0.put (T0.dst.set2 b.st) (But.set1 _ 2 _ (.int .i64 b.st))
  have x1 := (U.out.us.dst.all 8).trans (show _ = some (.int .i64 0) from rfl)
  have y1 := U.out.us.dst.frozen 8
  have T2 := T1.put (T1.dst.set8 b.ai) (But.set1 _ 8 _ (.int .i64 b.ai))
  have TN := Lib.hid (T2.drew.eq HB.out)
  have lf := TN.out.dst.loadF
  have sf := TN.out.res.storeF (usB b)
  clear HB
  clear hw1 hw2 hw3 hd
  have hw1 := U.out.h1
  have hw2 := U.out.h2
  have sB := U.out.st
  generalize usB b = yy at *
  clear T0 T1 T2
  go_enter Try.func24, Try.ntmps24
  go_wp2
  go_region
  go_wp2
  exact ret_bd1 Try.results24 rfl (TN.out.res.setRow yy) rfl ⟨rfl, below_setRow TN.out.bel (Nat.le_succ _)⟩

set_option maxRecDepth 100000 in
set_option maxHeartbeats 4000000 in
theorem refUsed_5 (b : Bd) (w : World) (hd : b.kd = 5) :
    Calls Try.prog 24 #[Bd_.v b] w fun e w' => e = .returned (Bd_.v (usB b)) ∧ Below w.heap.size w w' := by
  obtain ⟨w1, w2, w3, U⟩ := Ub.new w b 5
  have hw1 := U.h1
  have hw2 := U.h2
  have hw3 := U.h3
  have z1 := U.z1
  have z2 := U.z2
  have U := Lib.hid U
  have hfold : (.agg #[.int .i64 5, .int .i64 0, .int .i64 0, .int .i64 0, .string ⟨#[]⟩, .int .i64 0, .int .i64 0, .int .u64 0, .int .i64 0, .int .i64 0, .int .i64 0, .int .i64 0, .int .i64 0, .int .i64 0, .int .i64 0, .int .i64 0, .int .i64 0] : Value) = Bd_.v (bK 5) := rfl
  have c0 : w2.cell? ⟨w.heap.size, 0, none⟩ = some (.int .i64 5) := by rw [← hd]; exact U.out.s2.all 0
  have d0 : w3.cell? ⟨w.heap.size, 0, none⟩ = some (.int .i64 5) := by rw [← hd]; exact U.out.us.src.all 0
  have d2 : w3.cell? ⟨w.heap.size, 2, none⟩ = some (.int .i64 b.st) := U.out.us.src.all 2
  have HB : Hid (usB b = { bK 5 with st := b.st }) := by unfold Hid usB; rw [hd]; rfl
  have T0 := U.out.us
  have x0 := (T0.dst.all 2).trans (show _ = some (.int .i64 0) from rfl)
  have y0 := T0.dst.frozen 2
  have T1 := T0.put (T0.dst.set2 b.st) (But.set1 _ 2 _ (.int .i64 b.st))
  have TN := Lib.hid (T1.eq HB.out)
  have lf := TN.out.dst.loadF
  have sf := TN.out.res.storeF (usB b)
  clear HB
  clear hw1 hw2 hw3 hd
  have hw1 := U.out.h1
  have hw2 := U.out.h2
  have sB := U.out.st
  generalize usB b = yy at *
  clear T0 T1
  go_enter Try.func24, Try.ntmps24
  go_wp2
  exact ret_bd1 Try.results24 rfl (TN.out.res.setRow yy) rfl ⟨rfl, below_setRow TN.out.bel (Nat.le_succ _)⟩

set_option maxRecDepth 100000 in
set_option maxHeartbeats 4000000 in
theorem refUsed_6 (b : Bd) (w : World) (hd : b.kd = 6) :
    Calls Try.prog 24 #[Bd_.v b] w fun e w' => e = .returned (Bd_.v (usB b)) ∧ Below w.heap.size w w' := by
  obtain ⟨w1, w2, w3, U⟩ := Ub.new w b 6
  have hw1 := U.h1
  have hw2 := U.h2
  have hw3 := U.h3
  have z1 := U.z1
  have z2 := U.z2
  have U := Lib.hid U
  have hfold : (.agg #[.int .i64 6, .int .i64 0, .int .i64 0, .int .i64 0, .string ⟨#[]⟩, .int .i64 0, .int .i64 0, .int .u64 0, .int .i64 0, .int .i64 0, .int .i64 0, .int .i64 0, .int .i64 0, .int .i64 0, .int .i64 0, .int .i64 0, .int .i64 0] : Value) = Bd_.v (bK 6) := rfl
  have c0 : w2.cell? ⟨w.heap.size, 0, none⟩ = some (.int .i64 6) := by rw [← hd]; exact U.out.s2.all 0
  have d0 : w3.cell? ⟨w.heap.size, 0, none⟩ = some (.int .i64 6) := by rw [← hd]; exact U.out.us.src.all 0
  have d9 : w3.cell? ⟨w.heap.size, 9, none⟩ = some (.int .i64 b.ct) := U.out.us.src.all 9
  have d10 : w3.cell? ⟨w.heap.size, 10, none⟩ = some (.int .i64 b.sr) := U.out.us.src.all 10
  have d11 : w3.cell? ⟨w.heap.size, 11, none⟩ = some (.int .i64 b.sz) := U.out.us.src.all 11
  have HB : Hid (usB b = { bK 6 with ct := b.ct, sr := b.sr, sz := b.sz }) := by unfold Hid usB; rw [hd]; rfl
  have T0 := U.out.us
  have x0 := (U.out.us.dst.all 9).trans (show _ = some (.int .i64 0) from rfl)
  have y0 := U.out.us.dst.frozen 9
  have T1 := T0.put (T0.dst.set9 b.ct) (But.set1 _ 9 _ (.int .i64 b.ct))
  have x1 := (U.out.us.dst.all 10).trans (show _ = some (.int .i64 0) from rfl)
  have y1 := U.out.us.dst.frozen 10
  have T2 := T1.put (T1.dst.set10 b.sr) (But.set1 _ 10 _ (.int .i64 b.sr))
  have x2 := (U.out.us.dst.all 11).trans (show _ = some (.int .i64 0) from rfl)
  have y2 := U.out.us.dst.frozen 11
  have T3 := T2.put (T2.dst.set11 b.sz) (But.set1 _ 11 _ (.int .i64 b.sz))
  have TN := Lib.hid (T3.drew.eq HB.out)
  have lf := TN.out.dst.loadF
  have sf := TN.out.res.storeF (usB b)
  clear HB
  clear hw1 hw2 hw3 hd
  have hw1 := U.out.h1
  have hw2 := U.out.h2
  have sB := U.out.st
  generalize usB b = yy at *
  clear T0 T1 T2 T3
  go_enter Try.func24, Try.ntmps24
  go_wp2
  go_region
  go_wp2
  exact ret_bd1 Try.results24 rfl (TN.out.res.setRow yy) rfl ⟨rfl, below_setRow TN.out.bel (Nat.le_succ _)⟩

set_option maxRecDepth 100000 in
set_option maxHeartbeats 4000000 in
theorem refUsed_7 (b : Bd) (w : World) (hd : b.kd = 7) :
    Calls Try.prog 24 #[Bd_.v b] w fun e w' => e = .returned (Bd_.v (usB b)) ∧ Below w.heap.size w w' := by
  obtain ⟨w1, w2, w3, U⟩ := Ub.new w b 7
  have hw1 := U.h1
  have hw2 := U.h2
  have hw3 := U.h3
  have z1 := U.z1
  have z2 := U.z2
  have U := Lib.hid U
  have hfold : (.agg #[.int .i64 7, .int .i64 0, .int .i64 0, .int .i64 0, .string ⟨#[]⟩, .int .i64 0, .int .i64 0, .int .u64 0, .int .i64 0, .int .i64 0, .int .i64 0, .int .i64 0, .int .i64 0, .int .i64 0, .int .i64 0, .int .i64 0, .int .i64 0] : Value) = Bd_.v (bK 7) := rfl
  have c0 : w2.cell? ⟨w.heap.size, 0, none⟩ = some (.int .i64 7) := by rw [← hd]; exact U.out.s2.all 0
  have d0 : w3.cell? ⟨w.heap.size, 0, none⟩ = some (.int .i64 7) := by rw [← hd]; exact U.out.us.src.all 0
  have d9 : w3.cell? ⟨w.heap.size, 9, none⟩ = some (.int .i64 b.ct) := U.out.us.src.all 9
  have d2 : w3.cell? ⟨w.heap.size, 2, none⟩ = some (.int .i64 b.st) := U.out.us.src.all 2
  have d11 : w3.cell? ⟨w.heap.size, 11, none⟩ = some (.int .i64 b.sz) := U.out.us.src.all 11
  have HB : Hid (usB b = { bK 7 with ct := b.ct, st := b.st, sz := b.sz }) := by unfold Hid usB; rw [hd]; rfl
  have T0 := U.out.us
  have x0 := (U.out.us.dst.all 9).trans (show _ = some (.int .i64 0) from rfl)
  have y0 := U.out.us.dst.frozen 9
  have T1 := T0.put (T0.dst.set9 b.ct) (But.set1 _ 9 _ (.int .i64 b.ct))
  have x1 := (U.out.us.dst.all 2).trans (show _ = some (.int .i64 0) from rfl)
  have y1 := U.out.us.dst.frozen 2
  have T2 := T1.put (T1.dst.set2 b.st) (But.set1 _ 2 _ (.int .i64 b.st))
  have x2 := (U.out.us.dst.all 11).trans (show _ = some (.int .i64 0) from rfl)
  have y2 := U.out.us.dst.frozen 11
  have T3 := T2.put (T2.dst.set11 b.sz) (But.set1 _ 11 _ (.int .i64 b.sz))
  have TN := Lib.hid (T3.drew.eq HB.out)
  have lf := TN.out.dst.loadF
  have sf := TN.out.res.storeF (usB b)
  clear HB
  clear hw1 hw2 hw3 hd
  have hw1 := U.out.h1
  have hw2 := U.out.h2
  have sB := U.out.st
  generalize usB b = yy at *
  clear T0 T1 T2 T3
  go_enter Try.func24, Try.ntmps24
  go_wp2
  go_region
  go_wp2
  exact ret_bd1 Try.results24 rfl (TN.out.res.setRow yy) rfl ⟨rfl, below_setRow TN.out.bel (Nat.le_succ _)⟩

set_option maxRecDepth 100000 in
set_option maxHeartbeats 4000000 in
theorem refUsed_8 (b : Bd) (w : World) (hd : b.kd = 8) :
    Calls Try.prog 24 #[Bd_.v b] w fun e w' => e = .returned (Bd_.v (usB b)) ∧ Below w.heap.size w w' := by
  obtain ⟨w1, w2, w3, U⟩ := Ub.new w b 8
  have hw1 := U.h1
  have hw2 := U.h2
  have hw3 := U.h3
  have z1 := U.z1
  have z2 := U.z2
  have U := Lib.hid U
  have hfold : (.agg #[.int .i64 8, .int .i64 0, .int .i64 0, .int .i64 0, .string ⟨#[]⟩, .int .i64 0, .int .i64 0, .int .u64 0, .int .i64 0, .int .i64 0, .int .i64 0, .int .i64 0, .int .i64 0, .int .i64 0, .int .i64 0, .int .i64 0, .int .i64 0] : Value) = Bd_.v (bK 8) := rfl
  have c0 : w2.cell? ⟨w.heap.size, 0, none⟩ = some (.int .i64 8) := by rw [← hd]; exact U.out.s2.all 0
  have d0 : w3.cell? ⟨w.heap.size, 0, none⟩ = some (.int .i64 8) := by rw [← hd]; exact U.out.us.src.all 0
  have d9 : w3.cell? ⟨w.heap.size, 9, none⟩ = some (.int .i64 b.ct) := U.out.us.src.all 9
  have d2 : w3.cell? ⟨w.heap.size, 2, none⟩ = some (.int .i64 b.st) := U.out.us.src.all 2
  have HB : Hid (usB b = { bK 8 with ct := b.ct, st := b.st }) := by unfold Hid usB; rw [hd]; rfl
  have T0 := U.out.us
  have x0 := (U.out.us.dst.all 9).trans (show _ = some (.int .i64 0) from rfl)
  have y0 := U.out.us.dst.frozen 9
  have T1 := T0.put (T0.dst.set9 b.ct) (But.set1 _ 9 _ (.int .i64 b.ct))
  have x1 := (U.out.us.dst.all 2).trans (show _ = some (.int .i64 0) from rfl)
  have y1 := U.out.us.dst.frozen 2
  have T2 := T1.put (T1.dst.set2 b.st) (But.set1 _ 2 _ (.int .i64 b.st))
  have TN := Lib.hid (T2.drew.eq HB.out)
  have lf := TN.out.dst.loadF
  have sf := TN.out.res.storeF (usB b)
  clear HB
  clear hw1 hw2 hw3 hd
  have hw1 := U.out.h1
  have hw2 := U.out.h2
  have sB := U.out.st
  generalize usB b = yy at *
  clear T0 T1 T2
  go_enter Try.func24, Try.ntmps24
  go_wp2
  go_region
  go_wp2
  exact ret_bd1 Try.results24 rfl (TN.out.res.setRow yy) rfl ⟨rfl, below_setRow TN.out.bel (Nat.le_succ _)⟩

set_option maxRecDepth 100000 in
set_option maxHeartbeats 4000000 in
theorem refUsed_9 (b : Bd) (w : World) (hd : b.kd = 9) :
    Calls Try.prog 24 #[Bd_.v b] w fun e w' => e = .returned (Bd_.v (usB b)) ∧ Below w.heap.size w w' := by
  obtain ⟨w1, w2, w3, U⟩ := Ub.new w b 9
  have hw1 := U.h1
  have hw2 := U.h2
  have hw3 := U.h3
  have z1 := U.z1
  have z2 := U.z2
  have U := Lib.hid U
  have hfold : (.agg #[.int .i64 9, .int .i64 0, .int .i64 0, .int .i64 0, .string ⟨#[]⟩, .int .i64 0, .int .i64 0, .int .u64 0, .int .i64 0, .int .i64 0, .int .i64 0, .int .i64 0, .int .i64 0, .int .i64 0, .int .i64 0, .int .i64 0, .int .i64 0] : Value) = Bd_.v (bK 9) := rfl
  have c0 : w2.cell? ⟨w.heap.size, 0, none⟩ = some (.int .i64 9) := by rw [← hd]; exact U.out.s2.all 0
  have d0 : w3.cell? ⟨w.heap.size, 0, none⟩ = some (.int .i64 9) := by rw [← hd]; exact U.out.us.src.all 0
  have d12 : w3.cell? ⟨w.heap.size, 12, none⟩ = some (.int .i64 b.ch) := U.out.us.src.all 12
  have d13 : w3.cell? ⟨w.heap.size, 13, none⟩ = some (.int .i64 b.cn) := U.out.us.src.all 13
  have HB : Hid (usB b = { bK 9 with ch := b.ch, cn := b.cn }) := by unfold Hid usB; rw [hd]; rfl
  have T0 := U.out.us
  have x0 := (U.out.us.dst.all 12).trans (show _ = some (.int .i64 0) from rfl)
  have y0 := U.out.us.dst.frozen 12
  have T1 := T0.put (T0.dst.set12 b.ch) (But.set1 _ 12 _ (.int .i64 b.ch))
  have x1 := (U.out.us.dst.all 13).trans (show _ = some (.int .i64 0) from rfl)
  have y1 := U.out.us.dst.frozen 13
  have T2 := T1.put (T1.dst.set13 b.cn) (But.set1 _ 13 _ (.int .i64 b.cn))
  have TN := Lib.hid (T2.drew.eq HB.out)
  have lf := TN.out.dst.loadF
  have sf := TN.out.res.storeF (usB b)
  clear HB
  clear hw1 hw2 hw3 hd
  have hw1 := U.out.h1
  have hw2 := U.out.h2
  have sB := U.out.st
  generalize usB b = yy at *
  clear T0 T1 T2
  go_enter Try.func24, Try.ntmps24
  go_wp2
  go_region
  go_wp2
  exact ret_bd1 Try.results24 rfl (TN.out.res.setRow yy) rfl ⟨rfl, below_setRow TN.out.bel (Nat.le_succ _)⟩

set_option maxRecDepth 100000 in
set_option maxHeartbeats 4000000 in
theorem refUsed_10 (b : Bd) (w : World) (hd : b.kd = 10) :
    Calls Try.prog 24 #[Bd_.v b] w fun e w' => e = .returned (Bd_.v (usB b)) ∧ Below w.heap.size w w' := by
  obtain ⟨w1, w2, w3, U⟩ := Ub.new w b 10
  have hw1 := U.h1
  have hw2 := U.h2
  have hw3 := U.h3
  have z1 := U.z1
  have z2 := U.z2
  have U := Lib.hid U
  have hfold : (.agg #[.int .i64 10, .int .i64 0, .int .i64 0, .int .i64 0, .string ⟨#[]⟩, .int .i64 0, .int .i64 0, .int .u64 0, .int .i64 0, .int .i64 0, .int .i64 0, .int .i64 0, .int .i64 0, .int .i64 0, .int .i64 0, .int .i64 0, .int .i64 0] : Value) = Bd_.v (bK 10) := rfl
  have c0 : w2.cell? ⟨w.heap.size, 0, none⟩ = some (.int .i64 10) := by rw [← hd]; exact U.out.s2.all 0
  have d0 : w3.cell? ⟨w.heap.size, 0, none⟩ = some (.int .i64 10) := by rw [← hd]; exact U.out.us.src.all 0
  have lp := U.out.us.src.loadP
  have HB : Hid (usB b = { bK 10 with pf := b.pf, pp := b.pp, pl := b.pl }) := by unfold Hid usB; rw [hd]; rfl
  have T0 := U.out.us
  have sp0 := T0.dst.storeP b.pf b.pp b.pl
  have T1 := T0.put (T0.dst.setP b.pf b.pp b.pl) (Bd_.but_setP _ _ b.pf b.pp b.pl)
  have TN := Lib.hid (T1.eq HB.out)
  have lf := TN.out.dst.loadF
  have sf := TN.out.res.storeF (usB b)
  clear HB
  clear hw1 hw2 hw3 hd
  have hw1 := U.out.h1
  have hw2 := U.out.h2
  have sB := U.out.st
  generalize usB b = yy at *
  clear T0 T1
  go_enter Try.func24, Try.ntmps24
  go_wp2
  exact ret_bd1 Try.results24 rfl (TN.out.res.setRow yy) rfl ⟨rfl, below_setRow TN.out.bel (Nat.le_succ _)⟩

set_option maxRecDepth 100000 in
set_option maxHeartbeats 4000000 in
theorem refUsed_11 (b : Bd) (w : World) (hd : b.kd = 11) :
    Calls Try.prog 24 #[Bd_.v b] w fun e w' => e = .returned (Bd_.v (usB b)) ∧ Below w.heap.size w w' := by
  obtain ⟨w1, w2, w3, U⟩ := Ub.new w b 11
  have hw1 := U.h1
  have hw2 := U.h2
  have hw3 := U.h3
  have z1 := U.z1
  have z2 := U.z2
  have U := Lib.hid U
  have hfold : (.agg #[.int .i64 11, .int .i64 0, .int .i64 0, .int .i64 0, .string ⟨#[]⟩, .int .i64 0, .int .i64 0, .int .u64 0, .int .i64 0, .int .i64 0, .int .i64 0, .int .i64 0, .int .i64 0, .int .i64 0, .int .i64 0, .int .i64 0, .int .i64 0] : Value) = Bd_.v (bK 11) := rfl
  have c0 : w2.cell? ⟨w.heap.size, 0, none⟩ = some (.int .i64 11) := by rw [← hd]; exact U.out.s2.all 0
  have d0 : w3.cell? ⟨w.heap.size, 0, none⟩ = some (.int .i64 11) := by rw [← hd]; exact U.out.us.src.all 0
  have lp := U.out.us.drew.src.loadP
  have d2 : w3.cell? ⟨w.heap.size, 2, none⟩ = some (.int .i64 b.st) := U.out.us.src.all 2
  have HB : Hid (usB b = { bK 11 with pf := b.pf, pp := b.pp, pl := b.pl, st := b.st }) := by unfold Hid usB; rw [hd]; rfl
  have T0 := U.out.us.drew
  have sp0 := T0.dst.storeP b.pf b.pp b.pl
  have T1 := T0.put (T0.dst.setP b.pf b.pp b.pl) (Bd_.but_setP _ _ b.pf b.pp b.pl)
  have r1 := (T1.src.all 2).trans (show _ = some (.int .i64 b.st) from rfl)
  have x1 := (T1.dst.all 2).trans (show _ = some (.int .i64 0) from rfl)
  have y1 := T1.dst.frozen 2
  have T2 := T1.put (T1.dst.set2 b.st) (But.set1 _ 2 _ (.int .i64 b.st))
  have TN := Lib.hid (T2.eq HB.out)
  have lf := TN.out.dst.loadF
  have sf := TN.out.res.storeF (usB b)
  clear HB
  clear hw1 hw2 hw3 hd
  have hw1 := U.out.h1
  have hw2 := U.out.h2
  have sB := U.out.st
  generalize usB b = yy at *
  clear T0 T1 T2
  go_enter Try.func24, Try.ntmps24
  go_wp2
  go_region
  go_wp2
  exact ret_bd1 Try.results24 rfl (TN.out.res.setRow yy) rfl ⟨rfl, below_setRow TN.out.bel (Nat.le_succ _)⟩

set_option maxRecDepth 100000 in
set_option maxHeartbeats 4000000 in
theorem refUsed_12 (b : Bd) (w : World) (hd : b.kd = 12) :
    Calls Try.prog 24 #[Bd_.v b] w fun e w' => e = .returned (Bd_.v (usB b)) ∧ Below w.heap.size w w' := by
  obtain ⟨w1, w2, w3, U⟩ := Ub.new w b 12
  have hw1 := U.h1
  have hw2 := U.h2
  have hw3 := U.h3
  have z1 := U.z1
  have z2 := U.z2
  have U := Lib.hid U
  have hfold : (.agg #[.int .i64 12, .int .i64 0, .int .i64 0, .int .i64 0, .string ⟨#[]⟩, .int .i64 0, .int .i64 0, .int .u64 0, .int .i64 0, .int .i64 0, .int .i64 0, .int .i64 0, .int .i64 0, .int .i64 0, .int .i64 0, .int .i64 0, .int .i64 0] : Value) = Bd_.v (bK 12) := rfl
  have c0 : w2.cell? ⟨w.heap.size, 0, none⟩ = some (.int .i64 12) := by rw [← hd]; exact U.out.s2.all 0
  have d0 : w3.cell? ⟨w.heap.size, 0, none⟩ = some (.int .i64 12) := by rw [← hd]; exact U.out.us.src.all 0
  have d7 : w3.cell? ⟨w.heap.size, 7, none⟩ = some (.int .u64 b.od) := U.out.us.src.all 7
  have d13 : w3.cell? ⟨w.heap.size, 13, none⟩ = some (.int .i64 b.cn) := U.out.us.src.all 13
  have HB : Hid (usB b = { bK 12 with od := b.od, cn := b.cn }) := by unfold Hid usB; rw [hd]; rfl
  have T0 := U.out.us
  have x0 := (U.out.us.dst.all 7).trans (show _ = some (.int .u64 0) from rfl)
  have y0 := U.out.us.dst.frozen 7
  have T1 := T0.put (T0.dst.set7 b.od) (But.set1 _ 7 _ (.int .u64 b.od))
  have x1 := (U.out.us.dst.all 13).trans (show _ = some (.int .i64 0) from rfl)
  have y1 := U.out.us.dst.frozen 13
  have T2 := T1.put (T1.dst.set13 b.cn) (But.set1 _ 13 _ (.int .i64 b.cn))
  have TN := Lib.hid (T2.drew.eq HB.out)
  have lf := TN.out.dst.loadF
  have sf := TN.out.res.storeF (usB b)
  clear HB
  clear hw1 hw2 hw3 hd
  have hw1 := U.out.h1
  have hw2 := U.out.h2
  have sB := U.out.st
  generalize usB b = yy at *
  clear T0 T1 T2
  go_enter Try.func24, Try.ntmps24
  go_wp2
  go_region
  go_wp2
  exact ret_bd1 Try.results24 rfl (TN.out.res.setRow yy) rfl ⟨rfl, below_setRow TN.out.bel (Nat.le_succ _)⟩

theorem refUsed_any (b : Bd) (w : World) (hk : isK b.kd) :
    Calls Try.prog 24 #[Bd_.v b] w fun e w' => e = .returned (Bd_.v (usB b)) ∧ Below w.heap.size w w' := by
  rcases kinds hk with h | h | h | h | h | h | h | h | h | h | h | h
  · exact refUsed_1 b w h
  · exact refUsed_2 b w h
  · exact refUsed_3 b w h
  · exact refUsed_4 b w h
  · exact refUsed_5 b w h
  · exact refUsed_6 b w h
  · exact refUsed_7 b w h
  · exact refUsed_8 b w h
  · exact refUsed_9 b w h
  · exact refUsed_10 b w h
  · exact refUsed_11 b w h
  · exact refUsed_12 b w h
end Go.Proofs.Ytcpfkikifhcdmaa
