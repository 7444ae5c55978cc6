/-
  THE LAWS HistoryNotes and HistoryNil.
-/
import Derived.Test.YtacjdgglfeemcaaHiLives
import Derived.Test.YtacjdgglfeemcaaHiLa
namespace Go.Proofs.Ytacjdgglfeemcaa
open Go.RowKit Go.Hi
attribute [local go_sem ↓ high] Lw_.loadF Lw_.storeF Lw_.v_cells Lw_.v_match
attribute [local go_sem] Lw_.loadF_new Lw_.storeF_zero Lw_.guard Lw_.guard_lit

set_option maxRecDepth 100000 in
set_option maxHeartbeats 2000000 in
theorem notes_any (l : La) (s f : Int) (W : World) : Calls Try.prog 3 #[Lw_.v l, .int .i64 s, .int .i64 f] W fun e W' => e = .returned (.bool true) ∧ Below W.heap.size W W' := by
  have C1 : Hid (∀ w, Calls Try.prog 8 #[Lw_.v l, .int .i64 s, .int .i64 f] w fun e w' => e = .returned (.tuple #[Lw_.v (nt s f), .int .i64 (ag l s f)]) ∧ Below w.heap.size w w') := fun w => hiNote_any l s f w
  have C2 : Hid (∀ w, Calls Try.prog 9 #[Lw_.v l, .int .i64 s, .int .i64 f] w fun e w' => e = .returned (.tuple #[Lw_.v (nt s f), .int .i64 (ag l s f)]) ∧ Below w.heap.size w w') := fun w => ref19Note_any l s f w
  have CL := Lib.hid lives19_any
  have q1 : ∀ w, (binOp .eql 23 (Lw_.v (nt s f)) (Lw_.v (nt s f))).run Try.prog w = .ok (.bool true) w := fun w => by rw [Lw_.eql, decide_eq_true rfl]
  generalize nt s f = y at *
  generalize ag l s f = n at *
  have q2 : (n == n) = true := beq_self_eq_true n
  obtain ⟨w1, hw1⟩ : ∃ w1, W.alloc (.cells (Lw_.C l) 23) = w1 := ⟨_, rfl⟩
  have X1 := Lib.hid (show Lw_.Box w1 W.heap.size l from hw1 ▸ Lw_.Box.new W l)
  have B1 : Hid (Below W.heap.size W w1) := hw1 ▸ (Below.refl _ _).alloc (Nat.le_refl _) _
  have l1 := X1.out.loadF
  go_enter Try.func3, Try.ntmps3
  go_wp2_with fail
  refine (C1.out w1).mono ?_
  rintro e w2 ⟨rfl, h⟩
  have B2 := Lib.hid (B1.out.trans (h.mono B1.out.size))
  have X2 := Lib.hid (X1.out.below h X1.out.lt)
  clear h B1 C1 l1 hw1 X1
  obtain ⟨w3, hw3⟩ : ∃ w3, w2.alloc (.cells (Lw_.C y) 23) = w3 := ⟨_, rfl⟩
  have b3 : Below w2.heap.size w2 w3 := hw3 ▸ (Below.refl _ _).alloc (Nat.le_refl _) _
  have Y3 := Lib.hid (show Lw_.Box w3 w2.heap.size y from hw3 ▸ Lw_.Box.new w2 y)
  have B3 := Lib.hid (B2.out.trans (b3.mono B2.out.size))
  have X3 := Lib.hid (X2.out.below b3 X2.out.lt)
  have l3 := X3.out.loadF
  clear b3 B2 X2
  go_wp2_with fail
  refine (C2.out w3).mono ?_
  rintro e w4 ⟨rfl, h⟩
  have B4 := Lib.hid (B3.out.trans (h.mono B3.out.size))
  have Y4 := Lib.hid (Y3.out.below h Y3.out.lt)
  clear h B3 C2 l3 hw3 X3 Y3
  obtain ⟨w5, hw5⟩ : ∃ w5, w4.alloc (.cells (Lw_.C y) 23) = w5 := ⟨_, rfl⟩
  have b5 : Below w4.heap.size w4 w5 := hw5 ▸ (Below.refl _ _).alloc (Nat.le_refl _) _
  have m5 := (show Lw_.Box w5 w4.heap.size y from hw5 ▸ Lw_.Box.new w4 y).loadF
  have B5 := Lib.hid (B4.out.trans (b5.mono B4.out.size))
  have l5 := (Y4.out.below b5 Y4.out.lt).loadF
  clear b5 B4 Y4
  go_wp2_with (go_at_call 10; refine (CL.out _).mono ?_; rintro e w6 ⟨rfl, h⟩; have B6 := Lib.hid (B5.out.trans (h.mono B5.out.size)); clear h)
  go_returns
  exact ⟨rfl, B6.out⟩
theorem historyNotes_walk0 (l : La) (_ : (Lit.int .i64 l.q).wf = true ∧ (Lit.int .i64 l.f).wf = true) (s : Int) (_ : (Lit.int .i64 s).wf = true) (f : Int) (_ : (Lit.int .i64 f).wf = true) (W : World) :
    Calls Try.prog 3 #[La_.v l, .int .i64 s, .int .i64 f] W fun e W' => e = .returned (.bool true) ∧ Below W.heap.size W W' := notes_any l s f W

set_option maxRecDepth 100000 in
set_option maxHeartbeats 2000000 in
theorem nil_any (p k : Int) (l : La) (hp : (Lit.int .u64 p).wf = true) (W : World) : Calls Try.prog 7 #[.int .u64 p, .int .i64 k, Lw_.v l] W fun e W' => e = .returned (.bool true) ∧ Below W.heap.size W W' := by
  have C1 := Lib.hid fun w => hiPut_nil p k l w
  have C2 := Lib.hid fun w => hiDrop_nil p w hp
  have C3 := Lib.hid fun w => hiGet_nil p k w hp
  have C4 : Hid (∀ w, Calls Try.prog 12 #[.map none] w fun e w' => ∃ v0 c, e = .returned (.slice v0 0 c) ∧ Below w.heap.size w w') := fun w =>
    (hiPeers_nil (fun g c d W h hn hl => sort12 g c d W h hn (Nat.le_trans hl (Nat.zero_le _))) sort_nil w).mono fun _ _ ⟨v0, c, h1, _, h3⟩ => ⟨v0, c, h1, h3⟩
  have CL := Lib.hid lives19_any
  have q1 : ∀ w, (binOp .eql 23 (Lw_.v zl) (.agg #[.bool false, .int .i64 0, .int .i64 0])).run Try.prog w = .ok (.bool true) w := fun w => by rw [Lw_.eql_lit]; rfl
  obtain ⟨w1, hw1⟩ : ∃ w1, W.alloc (.cells (Lw_.C l) 23) = w1 := ⟨_, rfl⟩
  have X1 := Lib.hid (show Lw_.Box w1 W.heap.size l from hw1 ▸ Lw_.Box.new W l)
  have B1 : Hid (Below W.heap.size W w1) := hw1 ▸ (Below.refl _ _).alloc (Nat.le_refl _) _
  have l1 := X1.out.loadF
  clear hp
  go_enter Try.func7, Try.ntmps7
  go_wp2_with (first
    | (go_at_call 15; refine (C1.out _).mono ?_; rintro e w2 ⟨rfl, h⟩; have B2 := Lib.hid (B1.out.trans (h.mono B1.out.size)); clear h)
    | (go_at_call 16; refine (C2.out _).mono ?_; rintro e w3 ⟨rfl, rfl⟩)
    | (go_at_call 13; refine (C3.out _).mono ?_; rintro e w4 ⟨rfl, h⟩; have B4 := Lib.hid (B2.out.trans (h.mono B2.out.size)); clear h)
    | (go_at_call 12; refine (C4.out _).mono ?_; rintro e w5 ⟨v0, c, rfl, h⟩; have B5 := Lib.hid (B4.out.trans (h.mono B4.out.size)); clear h)
    | (go_at_call 10; refine (CL.out _).mono ?_; rintro e w6 ⟨rfl, h⟩; have B6 := Lib.hid (B5.out.trans (h.mono B5.out.size)); clear h))
  go_returns
  exact ⟨rfl, B6.out⟩
theorem historyNil_walk0 (p : Int) (hp : (Lit.int .u64 p).wf = true) (k : Int) (_ : (Lit.int .i64 k).wf = true) (l : La) (_ : (Lit.int .i64 l.q).wf = true ∧ (Lit.int .i64 l.f).wf = true) (W : World) :
    Calls Try.prog 7 #[.int .u64 p, .int .i64 k, La_.v l] W fun e W' => e = .returned (.bool true) ∧ Below W.heap.size W W' := nil_any p k l hp W
end Go.Proofs.Ytacjdgglfeemcaa
