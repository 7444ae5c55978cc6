/-
  WALKS of package reorder: the comparison of find, slices.BinarySearchFunc over it, find, inWindow, isAhead.
-/
import Derived.Test.YteffmfloopkmoaaRoRw
import Derived.Test.YteffmfloopkmoaaRoHd
import Derived.Test.YteffmfloopkmoaaSqArith
import Derived.Test.YteffmfloopkmoaaRoMath2
import Derived.Test.YteffmfloopkmoaaQuietOf
import Derived.Test.YteffmfloopkmoaaLexFast
import Derived.Deep.LoopGhost
import Derived.Lib.Walk
namespace Go.Proofs.Yteffmfloopkmoaa
open Go.RowKit Go.Ro Go.Sq
attribute [local go_sem ↓ high] Rw_.loadF Rw_.storeF Rw_.v_cells Rw_.v_match
attribute [local go_sem] Rw_.C0 Rw_.C1 Rw_.C2 Rw_.loadF_new Rw_.storeF_zero Oper.semAt_some

/-- A buffer's packets lie behind what the machine has of it. -/
structure Lies (w : World) (x : Rw) (b : Bf) : Prop where
  st : x.st = b.st
  sz : x.sz = b.sz
  n : x.n = b.hs.length
  sl : Hd_.Sl w x.sa b.hs x.c
theorem Lies.below {w w' : World} {x : Rw} {b : Bf} (h : Lies w x b) (hb : Below w.heap.size w w') : Lies w' x b := ⟨h.st, h.sz, h.n, h.sl.below hb⟩

set_option maxRecDepth 100000 in
set_option maxHeartbeats 2000000 in
theorem ro_inWindow_any (x : Rw) (n : Int) (w : World) :
    Calls Try.prog 28 #[Rw_.v x, .int .i64 n] w fun e w' => e = .returned (.bool (inn x.st x.sz n)) ∧ Below w.heap.size w w' := by
  obtain ⟨w1, hw1⟩ : ∃ w1, w.alloc (.cells (Rw_.C x) 25) = w1 := ⟨_, rfl⟩
  have hb : Rw_.Box w1 w.heap.size x := hw1 ▸ Rw_.Box.new w x
  have B1 : Hid (Below w.heap.size w w1) := hw1 ▸ (Below.refl _ _).alloc (Nat.le_refl _) _
  have e1 := hb.all
  have CI := Lib.hid (fun w => in_any x.st x.sz n w)
  clear hb
  go_enter Try.func28, Try.ntmps28
  go_wp2_with (go_at_call 42; refine (CI.out _).mono ?_; rintro e w' ⟨rfl, rfl⟩)
  go_returns
  exact ⟨rfl, B1.out⟩

set_option maxRecDepth 100000 in
set_option maxHeartbeats 2000000 in
theorem ro_isAhead_any (x : Rw) (n : Int) (w : World) :
    Calls Try.prog 30 #[Rw_.v x, .int .i64 n] w fun e w' => e = .returned (.bool (inn x.st 2048 n)) ∧ Below w.heap.size w w' := by
  obtain ⟨w1, hw1⟩ : ∃ w1, w.alloc (.cells (Rw_.C x) 25) = w1 := ⟨_, rfl⟩
  have hb : Rw_.Box w1 w.heap.size x := hw1 ▸ Rw_.Box.new w x
  have B1 : Hid (Below w.heap.size w w1) := hw1 ▸ (Below.refl _ _).alloc (Nat.le_refl _) _
  have e1 := hb.all
  have CI := Lib.hid (fun w => in_any x.st 2048 n w)
  clear hb
  go_enter Try.func30, Try.ntmps30
  go_wp2_with (go_at_call 42; refine (CI.out _).mono ?_; rintro e w' ⟨rfl, rfl⟩)
  go_returns
  exact ⟨rfl, B1.out⟩

set_option maxRecDepth 100000 in
set_option maxHeartbeats 2000000 in
/-- The comparison: a buffer lies in the block B. -/
theorem ro_cmp_any (h : Hd) (d : Int) (B : Nat) (x : Rw) (w : World) (hB : Rw_.Box w B x) (hd : 0 ≤ d ∧ d < 4096) :
    Calls Try.prog 44 #[.agg #[.int .i64 h.q, .string h.d], .int .i64 d, .pointer (some ⟨B, 0, none⟩)] w fun e w' => e = .returned (.int .i64 (dist x.st h.q - d)) ∧ Below w.heap.size w w' := by
  obtain ⟨w1, hw1⟩ : ∃ w1, w.alloc (.cells #[.int .i64 h.q, .string h.d] 51) = w1 := ⟨_, rfl⟩
  have hb : Hd_.Box w1 w.heap.size h := hw1 ▸ Hd_.Box.new w h rfl
  have B1 : Hid (Below w.heap.size w w1) := hw1 ▸ (Below.refl _ _).alloc (Nat.le_refl _) _
  have e1 := (hB.below B1.out hB.lt).all
  have e2 := hb.cells
  have hdi := dist_in x.st h.q
  have hw : wrap64 (dist x.st h.q - d) = dist x.st h.q - d := IntWalk.wrap64_in _ (by omega)
  have CD := Lib.hid (fun w => distance_any x.st h.q w)
  have HW := Lib.hid hw
  clear hb hB hdi hd hw
  generalize dist x.st h.q = D at *
  go_enter Try.func44, Try.ntmps44
  go_wp2_with (go_at_call 27; refine (CD.out _).mono ?_; rintro e w' ⟨rfl, rfl⟩)
  go_returns
  refine ⟨?_, B1.out⟩
  exact congrArg (fun z => Ending.returned (.int .i64 z)) HW.out
end Go.Proofs.Yteffmfloopkmoaa
