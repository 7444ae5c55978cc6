/-
  WALKS of the reference of layer 15: ranges.
-/
import Derived.Test.YtcpfkikifhcdmaaMgRefR
namespace Go.Proofs.Ytcpfkikifhcdmaa
open Go.RowKit Go.Mg Go.Ad
attribute [local go_sem ↓ high] Bd_.loadF Bd_.storeF Bd_.v_cells Bd_.v_match Bd_.loadP
attribute [local go_sem] Bd_.loadF_new

/-- What the eight calls of 'in' answer. -/
structure InC (b : Bd) (q0 q1 q2 q3 q4 q5 q6 q7 : Bool) : Prop where
  c0 : ∀ w, Calls Try.prog 52 #[.int .i64 b.st, .int .i64 0, .int .i64 255] w fun e w' => e = .returned (.bool q0) ∧ w = w'
  c1 : ∀ w, Calls Try.prog 52 #[.int .i64 b.hn, .int .i64 0, .int .i64 65535] w fun e w' => e = .returned (.bool q1) ∧ w = w'
  c2 : ∀ w, Calls Try.prog 52 #[.int .i64 b.dv, .int .i64 0, .int .i64 15] w fun e w' => e = .returned (.bool q2) ∧ w = w'
  c3 : ∀ w, Calls Try.prog 52 #[.int .i64 b.ai, .int .i64 0, .int .i64 63] w fun e w' => e = .returned (.bool q3) ∧ w = w'
  c4 : ∀ w, Calls Try.prog 52 #[.int .i64 b.ct, .int .i64 0, .int .i64 3] w fun e w' => e = .returned (.bool q4) ∧ w = w'
  c5 : ∀ w, Calls Try.prog 52 #[.int .i64 b.sr, .int .i64 0, .int .i64 4095] w fun e w' => e = .returned (.bool q5) ∧ w = w'
  c6 : ∀ w, Calls Try.prog 52 #[.int .i64 b.sz, .int .i64 0, .int .i64 64] w fun e w' => e = .returned (.bool q6) ∧ w = w'
  c7 : ∀ w, Calls Try.prog 52 #[.int .i64 b.cn, .int .i64 0, .int .i64 255] w fun e w' => e = .returned (.bool q7) ∧ w = w'
theorem InC.new (b : Bd) : InC b (wn b.st 0 255) (wn b.hn 0 65535) (wn b.dv 0 15) (wn b.ai 0 63) (wn b.ct 0 3) (wn b.sr 0 4095) (wn b.sz 0 64) (wn b.cn 0 255) := ⟨fun w => refIn15_any _ _ _ w, fun w => refIn15_any _ _ _ w, fun w => refIn15_any _ _ _ w, fun w => refIn15_any _ _ _ w, fun w => refIn15_any _ _ _ w, fun w => refIn15_any _ _ _ w, fun w => refIn15_any _ _ _ w, fun w => refIn15_any _ _ _ w⟩

set_option maxRecDepth 100000 in
set_option maxHeartbeats 4000000 in
theorem refRanges_no0 (b : Bd) (w : World) (q1 q2 q3 q4 q5 q6 q7 : Bool) (C : InC b false q1 q2 q3 q4 q5 q6 q7) :
    Calls Try.prog 25 #[Bd_.v b] w fun e w' => e = .returned (.bool false) ∧ Below w.heap.size w w' := by
  obtain ⟨w1, hw1⟩ : ∃ w1, w.alloc (.cells (Bd_.C b) 27) = w1 := ⟨_, rfl⟩
  have S1 := Lib.hid (show Stb w b w1 from hw1 ▸ Stb.new w b)
  have d2 : w1.cell? ⟨w.heap.size, 2, none⟩ = some (.int .i64 b.st) := S1.out.box.all 2
  have K0 := Lib.hid C.c0
  clear C
  go_enter Try.func25, Try.ntmps25
  go_wp2_with (first
    | (go_at_call 52; with_reducible refine (K0.out _).mono ?_; rintro e w' ⟨rfl, rfl⟩))
  go_ret
  exact ⟨rfl, S1.out.bel⟩

set_option maxRecDepth 100000 in
set_option maxHeartbeats 4000000 in
theorem refRanges_no1 (b : Bd) (w : World) (q2 q3 q4 q5 q6 q7 : Bool) (C : InC b true false q2 q3 q4 q5 q6 q7) :
    Calls Try.prog 25 #[Bd_.v b] w fun e w' => e = .returned (.bool false) ∧ Below w.heap.size w w' := by
  obtain ⟨w1, hw1⟩ : ∃ w1, w.alloc (.cells (Bd_.C b) 27) = w1 := ⟨_, rfl⟩
  have S1 := Lib.hid (show Stb w b w1 from hw1 ▸ Stb.new w b)
  have d2 : w1.cell? ⟨w.heap.size, 2, none⟩ = some (.int .i64 b.st) := S1.out.box.all 2
  have K0 := Lib.hid C.c0
  have d3 : w1.cell? ⟨w.heap.size, 3, none⟩ = some (.int .i64 b.hn) := S1.out.box.all 3
  have K1 := Lib.hid C.c1
  clear C
  go_enter Try.func25, Try.ntmps25
  go_wp2_with (first
    | (go_at_call 52; with_reducible refine (K0.out _).mono ?_; rintro e w' ⟨rfl, rfl⟩)
    | (go_at_call 52; with_reducible refine (K1.out _).mono ?_; rintro e w' ⟨rfl, rfl⟩))
  go_ret
  exact ⟨rfl, S1.out.bel⟩

set_option maxRecDepth 100000 in
set_option maxHeartbeats 4000000 in
theorem refRanges_no2 (b : Bd) (w : World) (q3 q4 q5 q6 q7 : Bool) (C : InC b true true false q3 q4 q5 q6 q7) :
    Calls Try.prog 25 #[Bd_.v b] w fun e w' => e = .returned (.bool false) ∧ Below w.heap.size w w' := by
  obtain ⟨w1, hw1⟩ : ∃ w1, w.alloc (.cells (Bd_.C b) 27) = w1 := ⟨_, rfl⟩
  have S1 := Lib.hid (show Stb w b w1 from hw1 ▸ Stb.new w b)
  have d2 : w1.cell? ⟨w.heap.size, 2, none⟩ = some (.int .i64 b.st) := S1.out.box.all 2
  have K0 := Lib.hid C.c0
  have d3 : w1.cell? ⟨w.heap.size, 3, none⟩ = some (.int .i64 b.hn) := S1.out.box.all 3
  have K1 := Lib.hid C.c1
  have d6 : w1.cell? ⟨w.heap.size, 6, none⟩ = some (.int .i64 b.dv) := S1.out.box.all 6
  have K2 := Lib.hid C.c2
  clear C
  go_enter Try.func25, Try.ntmps25
  go_wp2_with (first
    | (go_at_call 52; with_reducible refine (K0.out _).mono ?_; rintro e w' ⟨rfl, rfl⟩)
    | (go_at_call 52; with_reducible refine (K1.out _).mono ?_; rintro e w' ⟨rfl, rfl⟩)
    | (go_at_call 52; with_reducible refine (K2.out _).mono ?_; rintro e w' ⟨rfl, rfl⟩))
  go_ret
  exact ⟨rfl, S1.out.bel⟩

set_option maxRecDepth 100000 in
set_option maxHeartbeats 4000000 in
theorem refRanges_no3 (b : Bd) (w : World) (q4 q5 q6 q7 : Bool) (C : InC b true true true false q4 q5 q6 q7) :
    Calls Try.prog 25 #[Bd_.v b] w fun e w' => e = .returned (.bool false) ∧ Below w.heap.size w w' := by
  obtain ⟨w1, hw1⟩ : ∃ w1, w.alloc (.cells (Bd_.C b) 27) = w1 := ⟨_, rfl⟩
  have S1 := Lib.hid (show Stb w b w1 from hw1 ▸ Stb.new w b)
  have d2 : w1.cell? ⟨w.heap.size, 2, none⟩ = some (.int .i64 b.st) := S1.out.box.all 2
  have K0 := Lib.hid C.c0
  have d3 : w1.cell? ⟨w.heap.size, 3, none⟩ = some (.int .i64 b.hn) := S1.out.box.all 3
  have K1 := Lib.hid C.c1
  have d6 : w1.cell? ⟨w.heap.size, 6, none⟩ = some (.int .i64 b.dv) := S1.out.box.all 6
  have K2 := Lib.hid C.c2
  have d8 : w1.cell? ⟨w.heap.size, 8, none⟩ = some (.int .i64 b.ai) := S1.out.box.all 8
  have K3 := Lib.hid C.c3
  clear C
  go_enter Try.func25, Try.ntmps25
  go_wp2_with (first
    | (go_at_call 52; with_reducible refine (K0.out _).mono ?_; rintro e w' ⟨rfl, rfl⟩)
    | (go_at_call 52; with_reducible refine (K1.out _).mono ?_; rintro e w' ⟨rfl, rfl⟩)
    | (go_at_call 52; with_reducible refine (K2.out _).mono ?_; rintro e w' ⟨rfl, rfl⟩)
    | (go_at_call 52; with_reducible refine (K3.out _).mono ?_; rintro e w' ⟨rfl, rfl⟩))
  go_ret
  exact ⟨rfl, S1.out.bel⟩

set_option maxRecDepth 100000 in
set_option maxHeartbeats 4000000 in
theorem refRanges_no4 (b : Bd) (w : World) (q5 q6 q7 : Bool) (C : InC b true true true true false q5 q6 q7) :
    Calls Try.prog 25 #[Bd_.v b] w fun e w' => e = .returned (.bool false) ∧ Below w.heap.size w w' := by
  obtain ⟨w1, hw1⟩ : ∃ w1, w.alloc (.cells (Bd_.C b) 27) = w1 := ⟨_, rfl⟩
  have S1 := Lib.hid (show Stb w b w1 from hw1 ▸ Stb.new w b)
  have d2 : w1.cell? ⟨w.heap.size, 2, none⟩ = some (.int .i64 b.st) := S1.out.box.all 2
  have K0 := Lib.hid C.c0
  have d3 : w1.cell? ⟨w.heap.size, 3, none⟩ = some (.int .i64 b.hn) := S1.out.box.all 3
  have K1 := Lib.hid C.c1
  have d6 : w1.cell? ⟨w.heap.size, 6, none⟩ = some (.int .i64 b.dv) := S1.out.box.all 6
  have K2 := Lib.hid C.c2
  have d8 : w1.cell? ⟨w.heap.size, 8, none⟩ = some (.int .i64 b.ai) := S1.out.box.all 8
  have K3 := Lib.hid C.c3
  have d9 : w1.cell? ⟨w.heap.size, 9, none⟩ = some (.int .i64 b.ct) := S1.out.box.all 9
  have K4 := Lib.hid C.c4
  clear C
  go_enter Try.func25, Try.ntmps25
  go_wp2_with (first
    | (go_at_call 52; with_reducible refine (K0.out _).mono ?_; rintro e w' ⟨rfl, rfl⟩)
    | (go_at_call 52; with_reducible refine (K1.out _).mono ?_; rintro e w' ⟨rfl, rfl⟩)
    | (go_at_call 52; with_reducible refine (K2.out _).mono ?_; rintro e w' ⟨rfl, rfl⟩)
    | (go_at_call 52; with_reducible refine (K3.out _).mono ?_; rintro e w' ⟨rfl, rfl⟩)
    | (go_at_call 52; with_reducible refine (K4.out _).mono ?_; rintro e w' ⟨rfl, rfl⟩))
  go_ret
  exact ⟨rfl, S1.out.bel⟩

set_option maxRecDepth 100000 in
set_option maxHeartbeats 4000000 in
theorem refRanges_no5 (b : Bd) (w : World) (q6 q7 : Bool) (C : InC b true true true true true false q6 q7) :
    Calls Try.prog 25 #[Bd_.v b] w fun e w' => e = .returned (.bool false) ∧ Below w.heap.size w w' := by
  obtain ⟨w1, hw1⟩ : ∃ w1, w.alloc (.cells (Bd_.C b) 27) = w1 := ⟨_, rfl⟩
  have S1 := Lib.hid (show Stb w b w1 from hw1 ▸ Stb.new w b)
  have d2 : w1.cell? ⟨w.heap.size, 2, none⟩ = some (.int .i64 b.st) := S1.out.box.all 2
  have K0 := Lib.hid C.c0
  have d3 : w1.cell? ⟨w.heap.size, 3, none⟩ = some (.int .i64 b.hn) := S1.out.box.all 3
  have K1 := Lib.hid C.c1
  have d6 : w1.cell? ⟨w.heap.size, 6, none⟩ = some (.int .i64 b.dv) := S1.out.box.all 6
  have K2 := Lib.hid C.c2
  have d8 : w1.cell? ⟨w.heap.size, 8, none⟩ = some (.int .i64 b.ai) := S1.out.box.all 8
  have K3 := Lib.hid C.c3
  have d9 : w1.cell? ⟨w.heap.size, 9, none⟩ = some (.int .i64 b.ct) := S1.out.box.all 9
  have K4 := Lib.hid C.c4
  have d10 : w1.cell? ⟨w.heap.size, 10, none⟩ = some (.int .i64 b.sr) := S1.out.box.all 10
  have K5 := Lib.hid C.c5
  clear C
  go_enter Try.func25, Try.ntmps25
  go_wp2_with (first
    | (go_at_call 52; with_reducible refine (K0.out _).mono ?_; rintro e w' ⟨rfl, rfl⟩)
    | (go_at_call 52; with_reducible refine (K1.out _).mono ?_; rintro e w' ⟨rfl, rfl⟩)
    | (go_at_call 52; with_reducible refine (K2.out _).mono ?_; rintro e w' ⟨rfl, rfl⟩)
    | (go_at_call 52; with_reducible refine (K3.out _).mono ?_; rintro e w' ⟨rfl, rfl⟩)
    | (go_at_call 52; with_reducible refine (K4.out _).mono ?_; rintro e w' ⟨rfl, rfl⟩)
    | (go_at_call 52; with_reducible refine (K5.out _).mono ?_; rintro e w' ⟨rfl, rfl⟩))
  go_ret
  exact ⟨rfl, S1.out.bel⟩

set_option maxRecDepth 100000 in
set_option maxHeartbeats 4000000 in
theorem refRanges_no6 (b : Bd) (w : World) (q7 : Bool) (C : InC b true true true true true true false q7) :
    Calls Try.prog 25 #[Bd_.v b] w fun e w' => e = .returned (.bool false) ∧ Below w.heap.size w w' := by
  obtain ⟨w1, hw1⟩ : ∃ w1, w.alloc (.cells (Bd_.C b) 27) = w1 := ⟨_, rfl⟩
  have S1 := Lib.hid (show Stb w b w1 from hw1 ▸ Stb.new w b)
  have d2 : w1.cell? ⟨w.heap.size, 2, none⟩ = some (.int .i64 b.st) := S1.out.box.all 2
  have K0 := Lib.hid C.c0
  have d3 : w1.cell? ⟨w.heap.size, 3, none⟩ = some (.int .i64 b.hn) := S1.out.box.all 3
  have K1 := Lib.hid C.c1
  have d6 : w1.cell? ⟨w.heap.size, 6, none⟩ = some (.int .i64 b.dv) := S1.out.box.all 6
  have K2 := Lib.hid C.c2
  have d8 : w1.cell? ⟨w.heap.size, 8, none⟩ = some (.int .i64 b.ai) := S1.out.box.all 8
  have K3 := Lib.hid C.c3
  have d9 : w1.cell? ⟨w.heap.size, 9, none⟩ = some (.int .i64 b.ct) := S1.out.box.all 9
  have K4 := Lib.hid C.c4
  have d10 : w1.cell? ⟨w.heap.size, 10, none⟩ = some (.int .i64 b.sr) := S1.out.box.all 10
  have K5 := Lib.hid C.c5
  have d11 : w1.cell? ⟨w.heap.size, 11, none⟩ = some (.int .i64 b.sz) := S1.out.box.all 11
  have K6 := Lib.hid C.c6
  clear C
  go_enter Try.func25, Try.ntmps25
  go_wp2_with (first
    | (go_at_call 52; with_reducible refine (K0.out _).mono ?_; rintro e w' ⟨rfl, rfl⟩)
    | (go_at_call 52; with_reducible refine (K1.out _).mono ?_; rintro e w' ⟨rfl, rfl⟩)
    | (go_at_call 52; with_reducible refine (K2.out _).mono ?_; rintro e w' ⟨rfl, rfl⟩)
    | (go_at_call 52; with_reducible refine (K3.out _).mono ?_; rintro e w' ⟨rfl, rfl⟩)
    | (go_at_call 52; with_reducible refine (K4.out _).mono ?_; rintro e w' ⟨rfl, rfl⟩)
    | (go_at_call 52; with_reducible refine (K5.out _).mono ?_; rintro e w' ⟨rfl, rfl⟩)
    | (go_at_call 52; with_reducible refine (K6.out _).mono ?_; rintro e w' ⟨rfl, rfl⟩))
  go_ret
  exact ⟨rfl, S1.out.bel⟩

set_option maxRecDepth 100000 in
set_option maxHeartbeats 4000000 in
theorem refRanges_no7 (b : Bd) (w : World) (C : InC b true true true true true true true false) :
    Calls Try.prog 25 #[Bd_.v b] w fun e w' => e = .returned (.bool false) ∧ Below w.heap.size w w' := by
  obtain ⟨w1, hw1⟩ : ∃ w1, w.alloc (.cells (Bd_.C b) 27) = w1 := ⟨_, rfl⟩
  have S1 := Lib.hid (show Stb w b w1 from hw1 ▸ Stb.new w b)
  have d2 : w1.cell? ⟨w.heap.size, 2, none⟩ = some (.int .i64 b.st) := S1.out.box.all 2
  have K0 := Lib.hid C.c0
  have d3 : w1.cell? ⟨w.heap.size, 3, none⟩ = some (.int .i64 b.hn) := S1.out.box.all 3
  have K1 := Lib.hid C.c1
  have d6 : w1.cell? ⟨w.heap.size, 6, none⟩ = some (.int .i64 b.dv) := S1.out.box.all 6
  have K2 := Lib.hid C.c2
  have d8 : w1.cell? ⟨w.heap.size, 8, none⟩ = some (.int .i64 b.ai) := S1.out.box.all 8
  have K3 := Lib.hid C.c3
  have d9 : w1.cell? ⟨w.heap.size, 9, none⟩ = some (.int .i64 b.ct) := S1.out.box.all 9
  have K4 := Lib.hid C.c4
  have d10 : w1.cell? ⟨w.heap.size, 10, none⟩ = some (.int .i64 b.sr) := S1.out.box.all 10
  have K5 := Lib.hid C.c5
  have d11 : w1.cell? ⟨w.heap.size, 11, none⟩ = some (.int .i64 b.sz) := S1.out.box.all 11
  have K6 := Lib.hid C.c6
  have d13 : w1.cell? ⟨w.heap.size, 13, none⟩ = some (.int .i64 b.cn) := S1.out.box.all 13
  have K7 := Lib.hid C.c7
  clear C
  go_enter Try.func25, Try.ntmps25
  go_wp2_with (first
    | (go_at_call 52; with_reducible refine (K0.out _).mono ?_; rintro e w' ⟨rfl, rfl⟩)
    | (go_at_call 52; with_reducible refine (K1.out _).mono ?_; rintro e w' ⟨rfl, rfl⟩)
    | (go_at_call 52; with_reducible refine (K2.out _).mono ?_; rintro e w' ⟨rfl, rfl⟩)
    | (go_at_call 52; with_reducible refine (K3.out _).mono ?_; rintro e w' ⟨rfl, rfl⟩)
    | (go_at_call 52; with_reducible refine (K4.out _).mono ?_; rintro e w' ⟨rfl, rfl⟩)
    | (go_at_call 52; with_reducible refine (K5.out _).mono ?_; rintro e w' ⟨rfl, rfl⟩)
    | (go_at_call 52; with_reducible refine (K6.out _).mono ?_; rintro e w' ⟨rfl, rfl⟩)
    | (go_at_call 52; with_reducible refine (K7.out _).mono ?_; rintro e w' ⟨rfl, rfl⟩))
  go_ret
  exact ⟨rfl, S1.out.bel⟩

set_option maxRecDepth 100000 in
set_option maxHeartbeats 4000000 in
theorem refRanges_k1 (b : Bd) (w : World) (hd : b.kd = 1) (C : InC b true true true true true true true true) :
    Calls Try.prog 25 #[Bd_.v b] w fun e w' => e = .returned (.bool (finK b)) ∧ Below w.heap.size w w' := by
  obtain ⟨w1, hw1⟩ : ∃ w1, w.alloc (.cells (Bd_.C b) 27) = w1 := ⟨_, rfl⟩
  have S1 := Lib.hid (show Stb w b w1 from hw1 ▸ Stb.new w b)
  have d2 : w1.cell? ⟨w.heap.size, 2, none⟩ = some (.int .i64 b.st) := S1.out.box.all 2
  have K0 := Lib.hid C.c0
  have d3 : w1.cell? ⟨w.heap.size, 3, none⟩ = some (.int .i64 b.hn) := S1.out.box.all 3
  have K1 := Lib.hid C.c1
  have d6 : w1.cell? ⟨w.heap.size, 6, none⟩ = some (.int .i64 b.dv) := S1.out.box.all 6
  have K2 := Lib.hid C.c2
  have d8 : w1.cell? ⟨w.heap.size, 8, none⟩ = some (.int .i64 b.ai) := S1.out.box.all 8
  have K3 := Lib.hid C.c3
  have d9 : w1.cell? ⟨w.heap.size, 9, none⟩ = some (.int .i64 b.ct) := S1.out.box.all 9
  have K4 := Lib.hid C.c4
  have d10 : w1.cell? ⟨w.heap.size, 10, none⟩ = some (.int .i64 b.sr) := S1.out.box.all 10
  have K5 := Lib.hid C.c5
  have d11 : w1.cell? ⟨w.heap.size, 11, none⟩ = some (.int .i64 b.sz) := S1.out.box.all 11
  have K6 := Lib.hid C.c6
  have d13 : w1.cell? ⟨w.heap.size, 13, none⟩ = some (.int .i64 b.cn) := S1.out.box.all 13
  have K7 := Lib.hid C.c7
  have k0 : w1.cell? ⟨w.heap.size, 0, none⟩ = some (.int .i64 1) := by rw [← hd]; exact S1.out.box.all 0
  have HF : Hid (finK b = wn b.sp 1 4) := by unfold Hid finK; rw [hd]; rfl
  have x1 : w1.cell? ⟨w.heap.size, 1, none⟩ = some (.int .i64 b.sp) := S1.out.box.all 1
  have KX := Lib.hid fun w => refIn15_any b.sp 1 4 w
  clear C hd
  go_enter Try.func25, Try.ntmps25
  go_wp2_with (first
    | (go_at_call 52; with_reducible refine (K0.out _).mono ?_; rintro e w' ⟨rfl, rfl⟩)
    | (go_at_call 52; with_reducible refine (K1.out _).mono ?_; rintro e w' ⟨rfl, rfl⟩)
    | (go_at_call 52; with_reducible refine (K2.out _).mono ?_; rintro e w' ⟨rfl, rfl⟩)
    | (go_at_call 52; with_reducible refine (K3.out _).mono ?_; rintro e w' ⟨rfl, rfl⟩)
    | (go_at_call 52; with_reducible refine (K4.out _).mono ?_; rintro e w' ⟨rfl, rfl⟩)
    | (go_at_call 52; with_reducible refine (K5.out _).mono ?_; rintro e w' ⟨rfl, rfl⟩)
    | (go_at_call 52; with_reducible refine (K6.out _).mono ?_; rintro e w' ⟨rfl, rfl⟩)
    | (go_at_call 52; with_reducible refine (K7.out _).mono ?_; rintro e w' ⟨rfl, rfl⟩)
    | (go_at_call 52; with_reducible refine (KX.out _).mono ?_; rintro e w' ⟨rfl, rfl⟩))
  go_ret
  exact ⟨by rw [HF.out]; rfl, S1.out.bel⟩

set_option maxRecDepth 100000 in
set_option maxHeartbeats 4000000 in
theorem refRanges_k2 (b : Bd) (w : World) (hd : b.kd = 2) (C : InC b true true true true true true true true) :
    Calls Try.prog 25 #[Bd_.v b] w fun e w' => e = .returned (.bool (finK b)) ∧ Below w.heap.size w w' := by
  obtain ⟨w1, hw1⟩ : ∃ w1, w.alloc (.cells (Bd_.C b) 27) = w1 := ⟨_, rfl⟩
  have S1 := Lib.hid (show Stb w b w1 from hw1 ▸ Stb.new w b)
  have d2 : w1.cell? ⟨w.heap.size, 2, none⟩ = some (.int .i64 b.st) := S1.out.box.all 2
  have K0 := Lib.hid C.c0
  have d3 : w1.cell? ⟨w.heap.size, 3, none⟩ = some (.int .i64 b.hn) := S1.out.box.all 3
  have K1 := Lib.hid C.c1
  have d6 : w1.cell? ⟨w.heap.size, 6, none⟩ = some (.int .i64 b.dv) := S1.out.box.all 6
  have K2 := Lib.hid C.c2
  have d8 : w1.cell? ⟨w.heap.size, 8, none⟩ = some (.int .i64 b.ai) := S1.out.box.all 8
  have K3 := Lib.hid C.c3
  have d9 : w1.cell? ⟨w.heap.size, 9, none⟩ = some (.int .i64 b.ct) := S1.out.box.all 9
  have K4 := Lib.hid C.c4
  have d10 : w1.cell? ⟨w.heap.size, 10, none⟩ = some (.int .i64 b.sr) := S1.out.box.all 10
  have K5 := Lib.hid C.c5
  have d11 : w1.cell? ⟨w.heap.size, 11, none⟩ = some (.int .i64 b.sz) := S1.out.box.all 11
  have K6 := Lib.hid C.c6
  have d13 : w1.cell? ⟨w.heap.size, 13, none⟩ = some (.int .i64 b.cn) := S1.out.box.all 13
  have K7 := Lib.hid C.c7
  have k0 : w1.cell? ⟨w.heap.size, 0, none⟩ = some (.int .i64 2) := by rw [← hd]; exact S1.out.box.all 0
  have HF : Hid (finK b = (!b.nm.toList.isEmpty && wn b.ls 1 255)) := by unfold Hid finK; rw [hd]; rfl
  have x4 : w1.cell? ⟨w.heap.size, 4, none⟩ = some (.string b.nm) := S1.out.box.all 4
  have x5 : w1.cell? ⟨w.heap.size, 5, none⟩ = some (.int .i64 b.ls) := S1.out.box.all 5
  have KX := Lib.hid fun w => refIn15_any b.ls 1 255 w
  clear C hd
  cases he : b.nm.toList.isEmpty <;> rw [he] at HF
  case true =>
    go_enter Try.func25, Try.ntmps25
    go_wp2_with (first
    | (go_at_call 52; with_reducible refine (K0.out _).mono ?_; rintro e w' ⟨rfl, rfl⟩)
    | (go_at_call 52; with_reducible refine (K1.out _).mono ?_; rintro e w' ⟨rfl, rfl⟩)
    | (go_at_call 52; with_reducible refine (K2.out _).mono ?_; rintro e w' ⟨rfl, rfl⟩)
    | (go_at_call 52; with_reducible refine (K3.out _).mono ?_; rintro e w' ⟨rfl, rfl⟩)
    | (go_at_call 52; with_reducible refine (K4.out _).mono ?_; rintro e w' ⟨rfl, rfl⟩)
    | (go_at_call 52; with_reducible refine (K5.out _).mono ?_; rintro e w' ⟨rfl, rfl⟩)
    | (go_at_call 52; with_reducible refine (K6.out _).mono ?_; rintro e w' ⟨rfl, rfl⟩)
    | (go_at_call 52; with_reducible refine (K7.out _).mono ?_; rintro e w' ⟨rfl, rfl⟩))
    go_ret
    exact ⟨by rw [HF.out]; rfl, S1.out.bel⟩
  case false =>
    go_enter Try.func25, Try.ntmps25
    go_wp2_with (first
    | (go_at_call 52; with_reducible refine (K0.out _).mono ?_; rintro e w' ⟨rfl, rfl⟩)
    | (go_at_call 52; with_reducible refine (K1.out _).mono ?_; rintro e w' ⟨rfl, rfl⟩)
    | (go_at_call 52; with_reducible refine (K2.out _).mono ?_; rintro e w' ⟨rfl, rfl⟩)
    | (go_at_call 52; with_reducible refine (K3.out _).mono ?_; rintro e w' ⟨rfl, rfl⟩)
    | (go_at_call 52; with_reducible refine (K4.out _).mono ?_; rintro e w' ⟨rfl, rfl⟩)
    | (go_at_call 52; with_reducible refine (K5.out _).mono ?_; rintro e w' ⟨rfl, rfl⟩)
    | (go_at_call 52; with_reducible refine (K6.out _).mono ?_; rintro e w' ⟨rfl, rfl⟩)
    | (go_at_call 52; with_reducible refine (K7.out _).mono ?_; rintro e w' ⟨rfl, rfl⟩)
    | (go_at_call 52; with_reducible refine (KX.out _).mono ?_; rintro e w' ⟨rfl, rfl⟩))
    go_ret
    exact ⟨by rw [HF.out]; rfl, S1.out.bel⟩

set_option maxRecDepth 100000 in
set_option maxHeartbeats 4000000 in
theorem refRanges_k3 (b : Bd) (w : World) (hb : BdW b) (hd : b.kd = 3) (C : InC b true true true true true true true true) :
    Calls Try.prog 25 #[Bd_.v b] w fun e w' => e = .returned (.bool (finK b)) ∧ Below w.heap.size w w' := by
  obtain ⟨w1, hw1⟩ : ∃ w1, w.alloc (.cells (Bd_.C b) 27) = w1 := ⟨_, rfl⟩
  have S1 := Lib.hid (show Stb w b w1 from hw1 ▸ Stb.new w b)
  have d2 : w1.cell? ⟨w.heap.size, 2, none⟩ = some (.int .i64 b.st) := S1.out.box.all 2
  have K0 := Lib.hid C.c0
  have d3 : w1.cell? ⟨w.heap.size, 3, none⟩ = some (.int .i64 b.hn) := S1.out.box.all 3
  have K1 := Lib.hid C.c1
  have d6 : w1.cell? ⟨w.heap.size, 6, none⟩ = some (.int .i64 b.dv) := S1.out.box.all 6
  have K2 := Lib.hid C.c2
  have d8 : w1.cell? ⟨w.heap.size, 8, none⟩ = some (.int .i64 b.ai) := S1.out.box.all 8
  have K3 := Lib.hid C.c3
  have d9 : w1.cell? ⟨w.heap.size, 9, none⟩ = some (.int .i64 b.ct) := S1.out.box.all 9
  have K4 := Lib.hid C.c4
  have d10 : w1.cell? ⟨w.heap.size, 10, none⟩ = some (.int .i64 b.sr) := S1.out.box.all 10
  have K5 := Lib.hid C.c5
  have d11 : w1.cell? ⟨w.heap.size, 11, none⟩ = some (.int .i64 b.sz) := S1.out.box.all 11
  have K6 := Lib.hid C.c6
  have d13 : w1.cell? ⟨w.heap.size, 13, none⟩ = some (.int .i64 b.cn) := S1.out.box.all 13
  have K7 := Lib.hid C.c7
  have k0 : w1.cell? ⟨w.heap.size, 0, none⟩ = some (.int .i64 3) := by rw [← hd]; exact S1.out.box.all 0
  have HF : Hid (finK b = ((!b.nm.toList.isEmpty && wn b.ls 1 255) && sgl b.od)) := by unfold Hid finK; rw [hd]; rfl
  have x4 : w1.cell? ⟨w.heap.size, 4, none⟩ = some (.string b.nm) := S1.out.box.all 4
  have x5 : w1.cell? ⟨w.heap.size, 5, none⟩ = some (.int .i64 b.ls) := S1.out.box.all 5
  have KX := Lib.hid fun w => refIn15_any b.ls 1 255 w
  have x7 : w1.cell? ⟨w.heap.size, 7, none⟩ = some (.int .u64 b.od) := S1.out.box.all 7
  have CS := Lib.hid fun w => refSgl15_any b.od w hb.1 hb.2
  clear C hd hb
  cases he : b.nm.toList.isEmpty <;> rw [he] at HF
  case true =>
    go_enter Try.func25, Try.ntmps25
    go_wp2_with (first
    | (go_at_call 52; with_reducible refine (K0.out _).mono ?_; rintro e w' ⟨rfl, rfl⟩)
    | (go_at_call 52; with_reducible refine (K1.out _).mono ?_; rintro e w' ⟨rfl, rfl⟩)
    | (go_at_call 52; with_reducible refine (K2.out _).mono ?_; rintro e w' ⟨rfl, rfl⟩)
    | (go_at_call 52; with_reducible refine (K3.out _).mono ?_; rintro e w' ⟨rfl, rfl⟩)
    | (go_at_call 52; with_reducible refine (K4.out _).mono ?_; rintro e w' ⟨rfl, rfl⟩)
    | (go_at_call 52; with_reducible refine (K5.out _).mono ?_; rintro e w' ⟨rfl, rfl⟩)
    | (go_at_call 52; with_reducible refine (K6.out _).mono ?_; rintro e w' ⟨rfl, rfl⟩)
    | (go_at_call 52; with_reducible refine (K7.out _).mono ?_; rintro e w' ⟨rfl, rfl⟩))
    go_ret
    exact ⟨by rw [HF.out]; rfl, S1.out.bel⟩
  case false =>
    cases hl : wn b.ls 1 255 <;> rw [hl] at KX HF <;> clear hl
    case false =>
      go_enter Try.func25, Try.ntmps25
      go_wp2_with (first
    | (go_at_call 52; with_reducible refine (K0.out _).mono ?_; rintro e w' ⟨rfl, rfl⟩)
    | (go_at_call 52; with_reducible refine (K1.out _).mono ?_; rintro e w' ⟨rfl, rfl⟩)
    | (go_at_call 52; with_reducible refine (K2.out _).mono ?_; rintro e w' ⟨rfl, rfl⟩)
    | (go_at_call 52; with_reducible refine (K3.out _).mono ?_; rintro e w' ⟨rfl, rfl⟩)
    | (go_at_call 52; with_reducible refine (K4.out _).mono ?_; rintro e w' ⟨rfl, rfl⟩)
    | (go_at_call 52; with_reducible refine (K5.out _).mono ?_; rintro e w' ⟨rfl, rfl⟩)
    | (go_at_call 52; with_reducible refine (K6.out _).mono ?_; rintro e w' ⟨rfl, rfl⟩)
    | (go_at_call 52; with_reducible refine (K7.out _).mono ?_; rintro e w' ⟨rfl, rfl⟩)
    | (go_at_call 52; with_reducible refine (KX.out _).mono ?_; rintro e w' ⟨rfl, rfl⟩))
      go_ret
      exact ⟨by rw [HF.out]; rfl, S1.out.bel⟩
    case true =>
      go_enter Try.func25, Try.ntmps25
      go_wp2_with (first
    | (go_at_call 52; with_reducible refine (K0.out _).mono ?_; rintro e w' ⟨rfl, rfl⟩)
    | (go_at_call 52; with_reducible refine (K1.out _).mono ?_; rintro e w' ⟨rfl, rfl⟩)
    | (go_at_call 52; with_reducible refine (K2.out _).mono ?_; rintro e w' ⟨rfl, rfl⟩)
    | (go_at_call 52; with_reducible refine (K3.out _).mono ?_; rintro e w' ⟨rfl, rfl⟩)
    | (go_at_call 52; with_reducible refine (K4.out _).mono ?_; rintro e w' ⟨rfl, rfl⟩)
    | (go_at_call 52; with_reducible refine (K5.out _).mono ?_; rintro e w' ⟨rfl, rfl⟩)
    | (go_at_call 52; with_reducible refine (K6.out _).mono ?_; rintro e w' ⟨rfl, rfl⟩)
    | (go_at_call 52; with_reducible refine (K7.out _).mono ?_; rintro e w' ⟨rfl, rfl⟩)
    | (go_at_call 52; with_reducible refine (KX.out _).mono ?_; rintro e w' ⟨rfl, rfl⟩)
    | (go_at_call 53; refine (CS.out _).mono ?_; rintro e w' ⟨rfl, rfl⟩))
      go_ret
      exact ⟨by rw [HF.out]; rfl, S1.out.bel⟩

set_option maxRecDepth 100000 in
set_option maxHeartbeats 4000000 in
theorem refRanges_k4 (b : Bd) (w : World) (hd : b.kd = 4) (C : InC b true true true true true true true true) :
    Calls Try.prog 25 #[Bd_.v b] w fun e w' => e = .returned (.bool (finK b)) ∧ Below w.heap.size w w' := by
  obtain ⟨w1, hw1⟩ : ∃ w1, w.alloc (.cells (Bd_.C b) 27) = w1 := ⟨_, rfl⟩
  have S1 := Lib.hid (show Stb w b w1 from hw1 ▸ Stb.new w b)
  have d2 : w1.cell? ⟨w.heap.size, 2, none⟩ = some (.int .i64 b.st) := S1.out.box.all 2
  have K0 := Lib.hid C.c0
  have d3 : w1.cell? ⟨w.heap.size, 3, none⟩ = some (.int .i64 b.hn) := S1.out.box.all 3
  have K1 := Lib.hid C.c1
  have d6 : w1.cell? ⟨w.heap.size, 6, none⟩ = some (.int .i64 b.dv) := S1.out.box.all 6
  have K2 := Lib.hid C.c2
  have d8 : w1.cell? ⟨w.heap.size, 8, none⟩ = some (.int .i64 b.ai) := S1.out.box.all 8
  have K3 := Lib.hid C.c3
  have d9 : w1.cell? ⟨w.heap.size, 9, none⟩ = some (.int .i64 b.ct) := S1.out.box.all 9
  have K4 := Lib.hid C.c4
  have d10 : w1.cell? ⟨w.heap.size, 10, none⟩ = some (.int .i64 b.sr) := S1.out.box.all 10
  have K5 := Lib.hid C.c5
  have d11 : w1.cell? ⟨w.heap.size, 11, none⟩ = some (.int .i64 b.sz) := S1.out.box.all 11
  have K6 := Lib.hid C.c6
  have d13 : w1.cell? ⟨w.heap.size, 13, none⟩ = some (.int .i64 b.cn) := S1.out.box.all 13
  have K7 := Lib.hid C.c7
  have k0 : w1.cell? ⟨w.heap.size, 0, none⟩ = some (.int .i64 4) := by rw [← hd]; exact S1.out.box.all 0
  have HF : Hid (finK b = true) := by unfold Hid finK; rw [hd]; rfl
  clear C hd
  go_enter Try.func25, Try.ntmps25
  go_wp2_with (first
    | (go_at_call 52; with_reducible refine (K0.out _).mono ?_; rintro e w' ⟨rfl, rfl⟩)
    | (go_at_call 52; with_reducible refine (K1.out _).mono ?_; rintro e w' ⟨rfl, rfl⟩)
    | (go_at_call 52; with_reducible refine (K2.out _).mono ?_; rintro e w' ⟨rfl, rfl⟩)
    | (go_at_call 52; with_reducible refine (K3.out _).mono ?_; rintro e w' ⟨rfl, rfl⟩)
    | (go_at_call 52; with_reducible refine (K4.out _).mono ?_; rintro e w' ⟨rfl, rfl⟩)
    | (go_at_call 52; with_reducible refine (K5.out _).mono ?_; rintro e w' ⟨rfl, rfl⟩)
    | (go_at_call 52; with_reducible refine (K6.out _).mono ?_; rintro e w' ⟨rfl, rfl⟩)
    | (go_at_call 52; with_reducible refine (K7.out _).mono ?_; rintro e w' ⟨rfl, rfl⟩))
  go_ret
  exact ⟨by rw [HF.out]; rfl, S1.out.bel⟩

set_option maxRecDepth 100000 in
set_option maxHeartbeats 4000000 in
theorem refRanges_k5 (b : Bd) (w : World) (hd : b.kd = 5) (C : InC b true true true true true true true true) :
    Calls Try.prog 25 #[Bd_.v b] w fun e w' => e = .returned (.bool (finK b)) ∧ Below w.heap.size w w' := by
  obtain ⟨w1, hw1⟩ : ∃ w1, w.alloc (.cells (Bd_.C b) 27) = w1 := ⟨_, rfl⟩
  have S1 := Lib.hid (show Stb w b w1 from hw1 ▸ Stb.new w b)
  have d2 : w1.cell? ⟨w.heap.size, 2, none⟩ = some (.int .i64 b.st) := S1.out.box.all 2
  have K0 := Lib.hid C.c0
  have d3 : w1.cell? ⟨w.heap.size, 3, none⟩ = some (.int .i64 b.hn) := S1.out.box.all 3
  have K1 := Lib.hid C.c1
  have d6 : w1.cell? ⟨w.heap.size, 6, none⟩ = some (.int .i64 b.dv) := S1.out.box.all 6
  have K2 := Lib.hid C.c2
  have d8 : w1.cell? ⟨w.heap.size, 8, none⟩ = some (.int .i64 b.ai) := S1.out.box.all 8
  have K3 := Lib.hid C.c3
  have d9 : w1.cell? ⟨w.heap.size, 9, none⟩ = some (.int .i64 b.ct) := S1.out.box.all 9
  have K4 := Lib.hid C.c4
  have d10 : w1.cell? ⟨w.heap.size, 10, none⟩ = some (.int .i64 b.sr) := S1.out.box.all 10
  have K5 := Lib.hid C.c5
  have d11 : w1.cell? ⟨w.heap.size, 11, none⟩ = some (.int .i64 b.sz) := S1.out.box.all 11
  have K6 := Lib.hid C.c6
  have d13 : w1.cell? ⟨w.heap.size, 13, none⟩ = some (.int .i64 b.cn) := S1.out.box.all 13
  have K7 := Lib.hid C.c7
  have k0 : w1.cell? ⟨w.heap.size, 0, none⟩ = some (.int .i64 5) := by rw [← hd]; exact S1.out.box.all 0
  have HF : Hid (finK b = true) := by unfold Hid finK; rw [hd]; rfl
  clear C hd
  go_enter Try.func25, Try.ntmps25
  go_wp2_with (first
    | (go_at_call 52; with_reducible refine (K0.out _).mono ?_; rintro e w' ⟨rfl, rfl⟩)
    | (go_at_call 52; with_reducible refine (K1.out _).mono ?_; rintro e w' ⟨rfl, rfl⟩)
    | (go_at_call 52; with_reducible refine (K2.out _).mono ?_; rintro e w' ⟨rfl, rfl⟩)
    | (go_at_call 52; with_reducible refine (K3.out _).mono ?_; rintro e w' ⟨rfl, rfl⟩)
    | (go_at_call 52; with_reducible refine (K4.out _).mono ?_; rintro e w' ⟨rfl, rfl⟩)
    | (go_at_call 52; with_reducible refine (K5.out _).mono ?_; rintro e w' ⟨rfl, rfl⟩)
    | (go_at_call 52; with_reducible refine (K6.out _).mono ?_; rintro e w' ⟨rfl, rfl⟩)
    | (go_at_call 52; with_reducible refine (K7.out _).mono ?_; rintro e w' ⟨rfl, rfl⟩))
  go_ret
  exact ⟨by rw [HF.out]; rfl, S1.out.bel⟩

set_option maxRecDepth 100000 in
set_option maxHeartbeats 4000000 in
theorem refRanges_k7 (b : Bd) (w : World) (hd : b.kd = 7) (C : InC b true true true true true true true true) :
    Calls Try.prog 25 #[Bd_.v b] w fun e w' => e = .returned (.bool (finK b)) ∧ Below w.heap.size w w' := by
  obtain ⟨w1, hw1⟩ : ∃ w1, w.alloc (.cells (Bd_.C b) 27) = w1 := ⟨_, rfl⟩
  have S1 := Lib.hid (show Stb w b w1 from hw1 ▸ Stb.new w b)
  have d2 : w1.cell? ⟨w.heap.size, 2, none⟩ = some (.int .i64 b.st) := S1.out.box.all 2
  have K0 := Lib.hid C.c0
  have d3 : w1.cell? ⟨w.heap.size, 3, none⟩ = some (.int .i64 b.hn) := S1.out.box.all 3
  have K1 := Lib.hid C.c1
  have d6 : w1.cell? ⟨w.heap.size, 6, none⟩ = some (.int .i64 b.dv) := S1.out.box.all 6
  have K2 := Lib.hid C.c2
  have d8 : w1.cell? ⟨w.heap.size, 8, none⟩ = some (.int .i64 b.ai) := S1.out.box.all 8
  have K3 := Lib.hid C.c3
  have d9 : w1.cell? ⟨w.heap.size, 9, none⟩ = some (.int .i64 b.ct) := S1.out.box.all 9
  have K4 := Lib.hid C.c4
  have d10 : w1.cell? ⟨w.heap.size, 10, none⟩ = some (.int .i64 b.sr) := S1.out.box.all 10
  have K5 := Lib.hid C.c5
  have d11 : w1.cell? ⟨w.heap.size, 11, none⟩ = some (.int .i64 b.sz) := S1.out.box.all 11
  have K6 := Lib.hid C.c6
  have d13 : w1.cell? ⟨w.heap.size, 13, none⟩ = some (.int .i64 b.cn) := S1.out.box.all 13
  have K7 := Lib.hid C.c7
  have k0 : w1.cell? ⟨w.heap.size, 0, none⟩ = some (.int .i64 7) := by rw [← hd]; exact S1.out.box.all 0
  have HF : Hid (finK b = true) := by unfold Hid finK; rw [hd]; rfl
  clear C hd
  go_enter Try.func25, Try.ntmps25
  go_wp2_with (first
    | (go_at_call 52; with_reducible refine (K0.out _).mono ?_; rintro e w' ⟨rfl, rfl⟩)
    | (go_at_call 52; with_reducible refine (K1.out _).mono ?_; rintro e w' ⟨rfl, rfl⟩)
    | (go_at_call 52; with_reducible refine (K2.out _).mono ?_; rintro e w' ⟨rfl, rfl⟩)
    | (go_at_call 52; with_reducible refine (K3.out _).mono ?_; rintro e w' ⟨rfl, rfl⟩)
    | (go_at_call 52; with_reducible refine (K4.out _).mono ?_; rintro e w' ⟨rfl, rfl⟩)
    | (go_at_call 52; with_reducible refine (K5.out _).mono ?_; rintro e w' ⟨rfl, rfl⟩)
    | (go_at_call 52; with_reducible refine (K6.out _).mono ?_; rintro e w' ⟨rfl, rfl⟩)
    | (go_at_call 52; with_reducible refine (K7.out _).mono ?_; rintro e w' ⟨rfl, rfl⟩))
  go_ret
  exact ⟨by rw [HF.out]; rfl, S1.out.bel⟩

set_option maxRecDepth 100000 in
set_option maxHeartbeats 4000000 in
theorem refRanges_k8 (b : Bd) (w : World) (hd : b.kd = 8) (C : InC b true true true true true true true true) :
    Calls Try.prog 25 #[Bd_.v b] w fun e w' => e = .returned (.bool (finK b)) ∧ Below w.heap.size w w' := by
  obtain ⟨w1, hw1⟩ : ∃ w1, w.alloc (.cells (Bd_.C b) 27) = w1 := ⟨_, rfl⟩
  have S1 := Lib.hid (show Stb w b w1 from hw1 ▸ Stb.new w b)
  have d2 : w1.cell? ⟨w.heap.size, 2, none⟩ = some (.int .i64 b.st) := S1.out.box.all 2
  have K0 := Lib.hid C.c0
  have d3 : w1.cell? ⟨w.heap.size, 3, none⟩ = some (.int .i64 b.hn) := S1.out.box.all 3
  have K1 := Lib.hid C.c1
  have d6 : w1.cell? ⟨w.heap.size, 6, none⟩ = some (.int .i64 b.dv) := S1.out.box.all 6
  have K2 := Lib.hid C.c2
  have d8 : w1.cell? ⟨w.heap.size, 8, none⟩ = some (.int .i64 b.ai) := S1.out.box.all 8
  have K3 := Lib.hid C.c3
  have d9 : w1.cell? ⟨w.heap.size, 9, none⟩ = some (.int .i64 b.ct) := S1.out.box.all 9
  have K4 := Lib.hid C.c4
  have d10 : w1.cell? ⟨w.heap.size, 10, none⟩ = some (.int .i64 b.sr) := S1.out.box.all 10
  have K5 := Lib.hid C.c5
  have d11 : w1.cell? ⟨w.heap.size, 11, none⟩ = some (.int .i64 b.sz) := S1.out.box.all 11
  have K6 := Lib.hid C.c6
  have d13 : w1.cell? ⟨w.heap.size, 13, none⟩ = some (.int .i64 b.cn) := S1.out.box.all 13
  have K7 := Lib.hid C.c7
  have k0 : w1.cell? ⟨w.heap.size, 0, none⟩ = some (.int .i64 8) := by rw [← hd]; exact S1.out.box.all 0
  have HF : Hid (finK b = true) := by unfold Hid finK; rw [hd]; rfl
  clear C hd
  go_enter Try.func25, Try.ntmps25
  go_wp2_with (first
    | (go_at_call 52; with_reducible refine (K0.out _).mono ?_; rintro e w' ⟨rfl, rfl⟩)
    | (go_at_call 52; with_reducible refine (K1.out _).mono ?_; rintro e w' ⟨rfl, rfl⟩)
    | (go_at_call 52; with_reducible refine (K2.out _).mono ?_; rintro e w' ⟨rfl, rfl⟩)
    | (go_at_call 52; with_reducible refine (K3.out _).mono ?_; rintro e w' ⟨rfl, rfl⟩)
    | (go_at_call 52; with_reducible refine (K4.out _).mono ?_; rintro e w' ⟨rfl, rfl⟩)
    | (go_at_call 52; with_reducible refine (K5.out _).mono ?_; rintro e w' ⟨rfl, rfl⟩)
    | (go_at_call 52; with_reducible refine (K6.out _).mono ?_; rintro e w' ⟨rfl, rfl⟩)
    | (go_at_call 52; with_reducible refine (K7.out _).mono ?_; rintro e w' ⟨rfl, rfl⟩))
  go_ret
  exact ⟨by rw [HF.out]; rfl, S1.out.bel⟩

set_option maxRecDepth 100000 in
set_option maxHeartbeats 4000000 in
theorem refRanges_k6 (b : Bd) (w : World) (hd : b.kd = 6) (C : InC b true true true true true true true true) :
    Calls Try.prog 25 #[Bd_.v b] w fun e w' => e = .returned (.bool (finK b)) ∧ Below w.heap.size w w' := by
  obtain ⟨w1, hw1⟩ : ∃ w1, w.alloc (.cells (Bd_.C b) 27) = w1 := ⟨_, rfl⟩
  have S1 := Lib.hid (show Stb w b w1 from hw1 ▸ Stb.new w b)
  have d2 : w1.cell? ⟨w.heap.size, 2, none⟩ = some (.int .i64 b.st) := S1.out.box.all 2
  have K0 := Lib.hid C.c0
  have d3 : w1.cell? ⟨w.heap.size, 3, none⟩ = some (.int .i64 b.hn) := S1.out.box.all 3
  have K1 := Lib.hid C.c1
  have d6 : w1.cell? ⟨w.heap.size, 6, none⟩ = some (.int .i64 b.dv) := S1.out.box.all 6
  have K2 := Lib.hid C.c2
  have d8 : w1.cell? ⟨w.heap.size, 8, none⟩ = some (.int .i64 b.ai) := S1.out.box.all 8
  have K3 := Lib.hid C.c3
  have d9 : w1.cell? ⟨w.heap.size, 9, none⟩ = some (.int .i64 b.ct) := S1.out.box.all 9
  have K4 := Lib.hid C.c4
  have d10 : w1.cell? ⟨w.heap.size, 10, none⟩ = some (.int .i64 b.sr) := S1.out.box.all 10
  have K5 := Lib.hid C.c5
  have d11 : w1.cell? ⟨w.heap.size, 11, none⟩ = some (.int .i64 b.sz) := S1.out.box.all 11
  have K6 := Lib.hid C.c6
  have d13 : w1.cell? ⟨w.heap.size, 13, none⟩ = some (.int .i64 b.cn) := S1.out.box.all 13
  have K7 := Lib.hid C.c7
  have k0 : w1.cell? ⟨w.heap.size, 0, none⟩ = some (.int .i64 6) := by rw [← hd]; exact S1.out.box.all 0
  have HF : Hid (finK b = decide (0 < b.sz)) := by unfold Hid finK; rw [hd]; rfl
  clear C hd
  go_enter Try.func25, Try.ntmps25
  go_wp2_with (first
    | (go_at_call 52; with_reducible refine (K0.out _).mono ?_; rintro e w' ⟨rfl, rfl⟩)
    | (go_at_call 52; with_reducible refine (K1.out _).mono ?_; rintro e w' ⟨rfl, rfl⟩)
    | (go_at_call 52; with_reducible refine (K2.out _).mono ?_; rintro e w' ⟨rfl, rfl⟩)
    | (go_at_call 52; with_reducible refine (K3.out _).mono ?_; rintro e w' ⟨rfl, rfl⟩)
    | (go_at_call 52; with_reducible refine (K4.out _).mono ?_; rintro e w' ⟨rfl, rfl⟩)
    | (go_at_call 52; with_reducible refine (K5.out _).mono ?_; rintro e w' ⟨rfl, rfl⟩)
    | (go_at_call 52; with_reducible refine (K6.out _).mono ?_; rintro e w' ⟨rfl, rfl⟩)
    | (go_at_call 52; with_reducible refine (K7.out _).mono ?_; rintro e w' ⟨rfl, rfl⟩))
  go_ret
  exact ⟨by rw [HF.out]; rfl, S1.out.bel⟩

set_option maxRecDepth 100000 in
set_option maxHeartbeats 4000000 in
theorem refRanges_k9 (b : Bd) (w : World) (hd : b.kd = 9) (C : InC b true true true true true true true true) :
    Calls Try.prog 25 #[Bd_.v b] w fun e w' => e = .returned (.bool (finK b)) ∧ Below w.heap.size w w' := by
  obtain ⟨w1, hw1⟩ : ∃ w1, w.alloc (.cells (Bd_.C b) 27) = w1 := ⟨_, rfl⟩
  have S1 := Lib.hid (show Stb w b w1 from hw1 ▸ Stb.new w b)
  have d2 : w1.cell? ⟨w.heap.size, 2, none⟩ = some (.int .i64 b.st) := S1.out.box.all 2
  have K0 := Lib.hid C.c0
  have d3 : w1.cell? ⟨w.heap.size, 3, none⟩ = some (.int .i64 b.hn) := S1.out.box.all 3
  have K1 := Lib.hid C.c1
  have d6 : w1.cell? ⟨w.heap.size, 6, none⟩ = some (.int .i64 b.dv) := S1.out.box.all 6
  have K2 := Lib.hid C.c2
  have d8 : w1.cell? ⟨w.heap.size, 8, none⟩ = some (.int .i64 b.ai) := S1.out.box.all 8
  have K3 := Lib.hid C.c3
  have d9 : w1.cell? ⟨w.heap.size, 9, none⟩ = some (.int .i64 b.ct) := S1.out.box.all 9
  have K4 := Lib.hid C.c4
  have d10 : w1.cell? ⟨w.heap.size, 10, none⟩ = some (.int .i64 b.sr) := S1.out.box.all 10
  have K5 := Lib.hid C.c5
  have d11 : w1.cell? ⟨w.heap.size, 11, none⟩ = some (.int .i64 b.sz) := S1.out.box.all 11
  have K6 := Lib.hid C.c6
  have d13 : w1.cell? ⟨w.heap.size, 13, none⟩ = some (.int .i64 b.cn) := S1.out.box.all 13
  have K7 := Lib.hid C.c7
  have k0 : w1.cell? ⟨w.heap.size, 0, none⟩ = some (.int .i64 9) := by rw [← hd]; exact S1.out.box.all 0
  have HF : Hid (finK b = wn b.ch 1 8) := by unfold Hid finK; rw [hd]; rfl
  have x12 : w1.cell? ⟨w.heap.size, 12, none⟩ = some (.int .i64 b.ch) := S1.out.box.all 12
  have KX := Lib.hid fun w => refIn15_any b.ch 1 8 w
  clear C hd
  go_enter Try.func25, Try.ntmps25
  go_wp2_with (first
    | (go_at_call 52; with_reducible refine (K0.out _).mono ?_; rintro e w' ⟨rfl, rfl⟩)
    | (go_at_call 52; with_reducible refine (K1.out _).mono ?_; rintro e w' ⟨rfl, rfl⟩)
    | (go_at_call 52; with_reducible refine (K2.out _).mono ?_; rintro e w' ⟨rfl, rfl⟩)
    | (go_at_call 52; with_reducible refine (K3.out _).mono ?_; rintro e w' ⟨rfl, rfl⟩)
    | (go_at_call 52; with_reducible refine (K4.out _).mono ?_; rintro e w' ⟨rfl, rfl⟩)
    | (go_at_call 52; with_reducible refine (K5.out _).mono ?_; rintro e w' ⟨rfl, rfl⟩)
    | (go_at_call 52; with_reducible refine (K6.out _).mono ?_; rintro e w' ⟨rfl, rfl⟩)
    | (go_at_call 52; with_reducible refine (K7.out _).mono ?_; rintro e w' ⟨rfl, rfl⟩)
    | (go_at_call 52; with_reducible refine (KX.out _).mono ?_; rintro e w' ⟨rfl, rfl⟩))
  go_ret
  exact ⟨by rw [HF.out]; rfl, S1.out.bel⟩

set_option maxRecDepth 100000 in
set_option maxHeartbeats 4000000 in
theorem refRanges_k10 (b : Bd) (w : World) (hd : b.kd = 10) (C : InC b true true true true true true true true) :
    Calls Try.prog 25 #[Bd_.v b] w fun e w' => e = .returned (.bool (finK b)) ∧ Below w.heap.size w w' := by
  obtain ⟨w1, hw1⟩ : ∃ w1, w.alloc (.cells (Bd_.C b) 27) = w1 := ⟨_, rfl⟩
  have S1 := Lib.hid (show Stb w b w1 from hw1 ▸ Stb.new w b)
  have d2 : w1.cell? ⟨w.heap.size, 2, none⟩ = some (.int .i64 b.st) := S1.out.box.all 2
  have K0 := Lib.hid C.c0
  have d3 : w1.cell? ⟨w.heap.size, 3, none⟩ = some (.int .i64 b.hn) := S1.out.box.all 3
  have K1 := Lib.hid C.c1
  have d6 : w1.cell? ⟨w.heap.size, 6, none⟩ = some (.int .i64 b.dv) := S1.out.box.all 6
  have K2 := Lib.hid C.c2
  have d8 : w1.cell? ⟨w.heap.size, 8, none⟩ = some (.int .i64 b.ai) := S1.out.box.all 8
  have K3 := Lib.hid C.c3
  have d9 : w1.cell? ⟨w.heap.size, 9, none⟩ = some (.int .i64 b.ct) := S1.out.box.all 9
  have K4 := Lib.hid C.c4
  have d10 : w1.cell? ⟨w.heap.size, 10, none⟩ = some (.int .i64 b.sr) := S1.out.box.all 10
  have K5 := Lib.hid C.c5
  have d11 : w1.cell? ⟨w.heap.size, 11, none⟩ = some (.int .i64 b.sz) := S1.out.box.all 11
  have K6 := Lib.hid C.c6
  have d13 : w1.cell? ⟨w.heap.size, 13, none⟩ = some (.int .i64 b.cn) := S1.out.box.all 13
  have K7 := Lib.hid C.c7
  have k0 : w1.cell? ⟨w.heap.size, 0, none⟩ = some (.int .i64 10) := by rw [← hd]; exact S1.out.box.all 0
  have HF : Hid (finK b = (plf b || wop b)) := by unfold Hid finK; rw [hd]; rfl
  have lf := S1.out.box.loadF
  have CP := Lib.hid fun w => refPlan15_any b w
  clear C hd
  go_enter Try.func25, Try.ntmps25
  go_wp2_with (first
    | (go_at_call 52; with_reducible refine (K0.out _).mono ?_; rintro e w' ⟨rfl, rfl⟩)
    | (go_at_call 52; with_reducible refine (K1.out _).mono ?_; rintro e w' ⟨rfl, rfl⟩)
    | (go_at_call 52; with_reducible refine (K2.out _).mono ?_; rintro e w' ⟨rfl, rfl⟩)
    | (go_at_call 52; with_reducible refine (K3.out _).mono ?_; rintro e w' ⟨rfl, rfl⟩)
    | (go_at_call 52; with_reducible refine (K4.out _).mono ?_; rintro e w' ⟨rfl, rfl⟩)
    | (go_at_call 52; with_reducible refine (K5.out _).mono ?_; rintro e w' ⟨rfl, rfl⟩)
    | (go_at_call 52; with_reducible refine (K6.out _).mono ?_; rintro e w' ⟨rfl, rfl⟩)
    | (go_at_call 52; with_reducible refine (K7.out _).mono ?_; rintro e w' ⟨rfl, rfl⟩)
    | (go_at_call 54; refine (CP.out _).mono ?_; rintro e w2 ⟨rfl, hb⟩; have S2 := Lib.hid (S1.out.keep hb); clear hb))
  go_ret
  exact ⟨by rw [HF.out]; rfl, S2.out.bel⟩

set_option maxRecDepth 100000 in
set_option maxHeartbeats 4000000 in
theorem refRanges_k11 (b : Bd) (w : World) (hd : b.kd = 11) (C : InC b true true true true true true true true) :
    Calls Try.prog 25 #[Bd_.v b] w fun e w' => e = .returned (.bool (finK b)) ∧ Below w.heap.size w w' := by
  obtain ⟨w1, hw1⟩ : ∃ w1, w.alloc (.cells (Bd_.C b) 27) = w1 := ⟨_, rfl⟩
  have S1 := Lib.hid (show Stb w b w1 from hw1 ▸ Stb.new w b)
  have d2 : w1.cell? ⟨w.heap.size, 2, none⟩ = some (.int .i64 b.st) := S1.out.box.all 2
  have K0 := Lib.hid C.c0
  have d3 : w1.cell? ⟨w.heap.size, 3, none⟩ = some (.int .i64 b.hn) := S1.out.box.all 3
  have K1 := Lib.hid C.c1
  have d6 : w1.cell? ⟨w.heap.size, 6, none⟩ = some (.int .i64 b.dv) := S1.out.box.all 6
  have K2 := Lib.hid C.c2
  have d8 : w1.cell? ⟨w.heap.size, 8, none⟩ = some (.int .i64 b.ai) := S1.out.box.all 8
  have K3 := Lib.hid C.c3
  have d9 : w1.cell? ⟨w.heap.size, 9, none⟩ = some (.int .i64 b.ct) := S1.out.box.all 9
  have K4 := Lib.hid C.c4
  have d10 : w1.cell? ⟨w.heap.size, 10, none⟩ = some (.int .i64 b.sr) := S1.out.box.all 10
  have K5 := Lib.hid C.c5
  have d11 : w1.cell? ⟨w.heap.size, 11, none⟩ = some (.int .i64 b.sz) := S1.out.box.all 11
  have K6 := Lib.hid C.c6
  have d13 : w1.cell? ⟨w.heap.size, 13, none⟩ = some (.int .i64 b.cn) := S1.out.box.all 13
  have K7 := Lib.hid C.c7
  have k0 : w1.cell? ⟨w.heap.size, 0, none⟩ = some (.int .i64 11) := by rw [← hd]; exact S1.out.box.all 0
  have HF : Hid (finK b = (plf b || wop b)) := by unfold Hid finK; rw [hd]; rfl
  have lf := S1.out.box.loadF
  have CP := Lib.hid fun w => refPlan15_any b w
  clear C hd
  go_enter Try.func25, Try.ntmps25
  go_wp2_with (first
    | (go_at_call 52; with_reducible refine (K0.out _).mono ?_; rintro e w' ⟨rfl, rfl⟩)
    | (go_at_call 52; with_reducible refine (K1.out _).mono ?_; rintro e w' ⟨rfl, rfl⟩)
    | (go_at_call 52; with_reducible refine (K2.out _).mono ?_; rintro e w' ⟨rfl, rfl⟩)
    | (go_at_call 52; with_reducible refine (K3.out _).mono ?_; rintro e w' ⟨rfl, rfl⟩)
    | (go_at_call 52; with_reducible refine (K4.out _).mono ?_; rintro e w' ⟨rfl, rfl⟩)
    | (go_at_call 52; with_reducible refine (K5.out _).mono ?_; rintro e w' ⟨rfl, rfl⟩)
    | (go_at_call 52; with_reducible refine (K6.out _).mono ?_; rintro e w' ⟨rfl, rfl⟩)
    | (go_at_call 52; with_reducible refine (K7.out _).mono ?_; rintro e w' ⟨rfl, rfl⟩)
    | (go_at_call 54; refine (CP.out _).mono ?_; rintro e w2 ⟨rfl, hb⟩; have S2 := Lib.hid (S1.out.keep hb); clear hb))
  go_ret
  exact ⟨by rw [HF.out]; rfl, S2.out.bel⟩

set_option maxRecDepth 100000 in
set_option maxHeartbeats 4000000 in
theorem refRanges_k12 (b : Bd) (w : World) (hb : BdW b) (hd : b.kd = 12) (C : InC b true true true true true true true true) :
    Calls Try.prog 25 #[Bd_.v b] w fun e w' => e = .returned (.bool (finK b)) ∧ Below w.heap.size w w' := by
  obtain ⟨w1, hw1⟩ : ∃ w1, w.alloc (.cells (Bd_.C b) 27) = w1 := ⟨_, rfl⟩
  have S1 := Lib.hid (show Stb w b w1 from hw1 ▸ Stb.new w b)
  have d2 : w1.cell? ⟨w.heap.size, 2, none⟩ = some (.int .i64 b.st) := S1.out.box.all 2
  have K0 := Lib.hid C.c0
  have d3 : w1.cell? ⟨w.heap.size, 3, none⟩ = some (.int .i64 b.hn) := S1.out.box.all 3
  have K1 := Lib.hid C.c1
  have d6 : w1.cell? ⟨w.heap.size, 6, none⟩ = some (.int .i64 b.dv) := S1.out.box.all 6
  have K2 := Lib.hid C.c2
  have d8 : w1.cell? ⟨w.heap.size, 8, none⟩ = some (.int .i64 b.ai) := S1.out.box.all 8
  have K3 := Lib.hid C.c3
  have d9 : w1.cell? ⟨w.heap.size, 9, none⟩ = some (.int .i64 b.ct) := S1.out.box.all 9
  have K4 := Lib.hid C.c4
  have d10 : w1.cell? ⟨w.heap.size, 10, none⟩ = some (.int .i64 b.sr) := S1.out.box.all 10
  have K5 := Lib.hid C.c5
  have d11 : w1.cell? ⟨w.heap.size, 11, none⟩ = some (.int .i64 b.sz) := S1.out.box.all 11
  have K6 := Lib.hid C.c6
  have d13 : w1.cell? ⟨w.heap.size, 13, none⟩ = some (.int .i64 b.cn) := S1.out.box.all 13
  have K7 := Lib.hid C.c7
  have k0 : w1.cell? ⟨w.heap.size, 0, none⟩ = some (.int .i64 12) := by rw [← hd]; exact S1.out.box.all 0
  have HF : Hid (finK b = sgl b.od) := by unfold Hid finK; rw [hd]; rfl
  have x7 : w1.cell? ⟨w.heap.size, 7, none⟩ = some (.int .u64 b.od) := S1.out.box.all 7
  have CS := Lib.hid fun w => refSgl15_any b.od w hb.1 hb.2
  clear C hd hb
  go_enter Try.func25, Try.ntmps25
  go_wp2_with (first
    | (go_at_call 52; with_reducible refine (K0.out _).mono ?_; rintro e w' ⟨rfl, rfl⟩)
    | (go_at_call 52; with_reducible refine (K1.out _).mono ?_; rintro e w' ⟨rfl, rfl⟩)
    | (go_at_call 52; with_reducible refine (K2.out _).mono ?_; rintro e w' ⟨rfl, rfl⟩)
    | (go_at_call 52; with_reducible refine (K3.out _).mono ?_; rintro e w' ⟨rfl, rfl⟩)
    | (go_at_call 52; with_reducible refine (K4.out _).mono ?_; rintro e w' ⟨rfl, rfl⟩)
    | (go_at_call 52; with_reducible refine (K5.out _).mono ?_; rintro e w' ⟨rfl, rfl⟩)
    | (go_at_call 52; with_reducible refine (K6.out _).mono ?_; rintro e w' ⟨rfl, rfl⟩)
    | (go_at_call 52; with_reducible refine (K7.out _).mono ?_; rintro e w' ⟨rfl, rfl⟩)
    | (go_at_call 53; refine (CS.out _).mono ?_; rintro e w' ⟨rfl, rfl⟩))
  go_ret
  exact ⟨by rw [HF.out]; rfl, S1.out.bel⟩

theorem refRanges_any (b : Bd) (w : World) (hb : BdW b) (hk : isK b.kd) (hu : usB b = b) :
    Calls Try.prog 25 #[Bd_.v b] w fun e w' => e = .returned (.bool (rng b)) ∧ Below w.heap.size w w' := by
  rw [rng_ref hk hu]
  have C := InC.new b
  unfold all8
  cases h0 : wn b.st 0 255 <;> rw [h0] at C
  case false => simp only [Bool.false_and]; exact refRanges_no0 b w _ _ _ _ _ _ _ C
  case true =>
  cases h1 : wn b.hn 0 65535 <;> rw [h1] at C
  case false => simp only [Bool.false_and, Bool.true_and]; exact refRanges_no1 b w _ _ _ _ _ _ C
  case true =>
  cases h2 : wn b.dv 0 15 <;> rw [h2] at C
  case false => simp only [Bool.false_and, Bool.true_and]; exact refRanges_no2 b w _ _ _ _ _ C
  case true =>
  cases h3 : wn b.ai 0 63 <;> rw [h3] at C
  case false => simp only [Bool.false_and, Bool.true_and]; exact refRanges_no3 b w _ _ _ _ C
  case true =>
  cases h4 : wn b.ct 0 3 <;> rw [h4] at C
  case false => simp only [Bool.false_and, Bool.true_and]; exact refRanges_no4 b w _ _ _ C
  case true =>
  cases h5 : wn b.sr 0 4095 <;> rw [h5] at C
  case false => simp only [Bool.false_and, Bool.true_and]; exact refRanges_no5 b w _ _ C
  case true =>
  cases h6 : wn b.sz 0 64 <;> rw [h6] at C
  case false => simp only [Bool.false_and, Bool.true_and]; exact refRanges_no6 b w _ C
  case true =>
  cases h7 : wn b.cn 0 255 <;> rw [h7] at C
  case false => simp only [Bool.false_and, Bool.true_and]; exact refRanges_no7 b w C
  case true =>
  simp only [Bool.true_and]
  rcases kinds hk with h | h | h | h | h | h | h | h | h | h | h | h
  · exact refRanges_k1 b w h C
  · exact refRanges_k2 b w h C
  · exact refRanges_k3 b w hb h C
  · exact refRanges_k4 b w h C
  · exact refRanges_k5 b w h C
  · exact refRanges_k6 b w h C
  · exact refRanges_k7 b w h C
  · exact refRanges_k8 b w h C
  · exact refRanges_k9 b w h C
  · exact refRanges_k10 b w h C
  · exact refRanges_k11 b w h C
  · exact refRanges_k12 b w hb h C
end Go.Proofs.Ytcpfkikifhcdmaa
