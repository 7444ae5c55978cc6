/-
  THE WALK of ReorderChecks.
-/
import Derived.Test.YteffmfloopkmoaaRoLives
namespace Go.Proofs.Yteffmfloopkmoaa
open Go.RowKit Go.Ro Go.Sq Go.Wr
attribute [local go_sem ↓ high] Rw_.loadF Rw_.storeF Rw_.v_cells Rw_.v_match
attribute [local go_sem] Rw_.C0 Rw_.C1 Rw_.C2 Rw_.loadF_new Rw_.storeF_zero Oper.semAt_some

theorem new_nil (s z : Int) : (new s z).1.hs = [] := by unfold new; split <;> rfl
theorem lies_new (s z : Int) (w : World) : Lies w ⟨(new s z).1.st, (new s z).1.sz, none, 0, 0⟩ (new s z).1 := ⟨rfl, rfl, by rw [new_nil]; rfl, by rw [new_nil]; exact Hd_.Sl.none _⟩
/-- The buffer that came in, two new ones. -/
structure Cst (w : World) (x y : Rw) (b : Bf) (B7 B9 : Nat) (wi : World) : Prop where
  bx : Rw_.Box wi w.heap.size x
  b7 : Rw_.Box wi B7 y
  b9 : Rw_.Box wi B9 y
  bel : Below w.heap.size w wi
  ls : Lies wi x b
theorem Cst.keep {w : World} {x y : Rw} {b : Bf} {B7 B9 : Nat} (wi wj : World) (h : Cst w x y b B7 B9 wi) (hb : Below wi.heap.size wi wj) : Cst w x y b B7 B9 wj :=
  ⟨h.bx.below hb h.bx.lt, h.b7.below hb h.b7.lt, h.b9.below hb h.b9.lt, h.bel.trans (hb.mono h.bel.size), h.ls.below hb⟩
theorem Cst.drew {w : World} {x y : Rw} {b : Bf} {B7 B9 : Nat} {wi : World} (h : Cst w x y b B7 B9 wi) : Cst w x y b B7 B9 wi.drew :=
  h.keep _ _ ⟨rfl, rfl, rfl, Nat.le_refl _, fun _ _ => rfl⟩

set_option maxRecDepth 100000 in
set_option maxHeartbeats 4000000 in
theorem reorderChecks_walk1 (x : Rw) (b : Bf) (W : World) (hL : Lies W x b) (s z : Int) :
    Calls Try.prog 4 #[Rw_.v x, .int .i64 s, .int .i64 z] W fun e w' => e = .returned (.bool true) ∧ Below W.heap.size W w' := by
  obtain ⟨w1, hw1⟩ : ∃ w1, W.alloc (.cells (Rw_.C x) 25) = w1 := ⟨_, rfl⟩
  have hb : Rw_.Box w1 W.heap.size x := hw1 ▸ Rw_.Box.new W x
  have HBX := Lib.hid hb
  have B1 : Hid (Below W.heap.size W w1) := hw1 ▸ (Below.refl _ _).alloc (Nat.le_refl _) _
  have l1 := hb.loadF
  have hn := not20
  have CM := Lib.hid (r_small_any x b w1 (hL.below B1.out))
  have CL := Lib.hid lives20_any
  have N1 := Lib.hid (fun W => ro_new_any s z W)
  have N2 := Lib.hid (fun W => r_new_any s z W)
  unfold NewPost at N1 N2
  have HS : Hid (∀ W, Calls Try.prog 14 #[Rw_.v ⟨(new s z).1.st, (new s z).1.sz, none, 0, 0⟩, Rw_.v ⟨(new s z).1.st, (new s z).1.sz, none, 0, 0⟩] W fun e w' => e = .returned (.bool true) ∧ Below W.heap.size W w') := fun W =>
    r_same_any _ _ (new s z).1 W (lies_new s z W) (lies_new s z W) (by rw [new_nil]; exact Nat.zero_le _)
  generalize hy : (⟨(new s z).1.st, (new s z).1.sz, none, 0, 0⟩ : Rw) = y at *
  generalize (new s z).2 = E at *
  have HL := Lib.hid hL
  clear hb hy hL
  cases hm : small b
  · rw [hm] at CM
    go_enter Try.func4, Try.ntmps4
    go_wp2_with (first
      | (go_at_call 12; refine CM.out.mono ?_; rintro e w2 ⟨rfl, h2⟩; have B2 := Lib.hid (B1.out.trans (h2.mono B1.out.size)); clear h2)
      | (go_at_call 8; refine (CL.out _).mono ?_; rintro e w3 ⟨rfl, h3⟩; have B3 := Lib.hid (B2.out.trans (h3.mono B2.out.size)); clear h3))
    go_returns
    exact ⟨rfl, B3.out⟩
  · rw [hm] at CM
    have hlen : b.hs.length ≤ 70 := (small_iff.1 hm).1
    have K1 : Hid (∀ W, Lies W x b → Calls Try.prog 15 #[Rw_.v x] W fun e w' => e = .returned (.int .i64 (chk b)) ∧ Below W.heap.size W w') := fun W h => ro_check_any x b W h (by omega)
    have K2 : Hid (∀ W, Lies W x b → Calls Try.prog 16 #[Rw_.v x] W fun e w' => e = .returned (.int .i64 (chk b)) ∧ Below W.heap.size W w') := fun W h => r_check_any x b W h (by omega)
    clear hm hlen
    generalize chk b = K at *
    go_enter Try.func4, Try.ntmps4
    go_wp2_with fail
    refine CM.out.mono ?_
    rintro e w2 ⟨rfl, h2⟩
    have B2 := Lib.hid (B1.out.trans (h2.mono B1.out.size))
    have X2 := Lib.hid (HBX.out.below h2 HBX.out.lt)
    clear h2 CM B1 HBX l1 hw1
    go_wp2_with fail
    refine (N1.out w2).mono ?_
    rintro e w3 ⟨rfl, h3⟩
    obtain ⟨w4, hw4⟩ : ∃ w4, w3.alloc (.cells (Rw_.C y) 25) = w4 := ⟨_, rfl⟩
    have hz4 := Rw_.storeF_zero w3 y
    rw [hw4] at hz4
    have b4 := h3.trans ((show Below w3.heap.size w3 w4 from hw4 ▸ (Below.refl _ _).alloc (Nat.le_refl _) _).mono h3.size)
    have Y4 := Lib.hid (show Rw_.Box w4 w3.heap.size y from hw4 ▸ Rw_.Box.new w3 y)
    have X4 := Lib.hid (X2.out.below b4 X2.out.lt)
    have B4 := Lib.hid (B2.out.trans (b4.mono B2.out.size))
    clear h3 hw4 b4 X2 B2 N1
    go_wp2_with fail
    refine (N2.out w4).mono ?_
    rintro e w5 ⟨rfl, h5⟩
    obtain ⟨w6, hw6⟩ : ∃ w6, w5.alloc (.cells (Rw_.C y) 25) = w6 := ⟨_, rfl⟩
    have hz6 := Rw_.storeF_zero w5 y
    rw [hw6] at hz6
    have b6 := h5.trans ((show Below w5.heap.size w5 w6 from hw6 ▸ (Below.refl _ _).alloc (Nat.le_refl _) _).mono h5.size)
    have B6 := B4.out.trans (b6.mono B4.out.size)
    have C6 : Hid (Cst W x y b w3.heap.size w5.heap.size w6) := ⟨X4.out.below b6 X4.out.lt, Y4.out.below b6 Y4.out.lt, hw6 ▸ Rw_.Box.new w5 y, B6, HL.out.below B6⟩
    clear h5 hw6 b6 X4 B4 N2 Y4 B6 HL
    go_wp2
    generalize w3.heap.size = B7 at *
    generalize w5.heap.size = B9 at *
    have q1 : ∀ (q : Of (Cst W x y b B7 B9)), (Rw_.LoadF ⟨W.heap.size, 0, none⟩).run Try.prog q.w = .ok (Rw_.v x) q.w := fun q => q.ok.bx.loadF
    have q2 : ∀ (q : Of (Cst W x y b B7 B9)), (Rw_.LoadF ⟨B7, 0, none⟩).run Try.prog q.w = .ok (Rw_.v y) q.w := fun q => q.ok.b7.loadF
    have q3 : ∀ (q : Of (Cst W x y b B7 B9)), (Rw_.LoadF ⟨B9, 0, none⟩).run Try.prog q.w = .ok (Rw_.v y) q.w := fun q => q.ok.b9.loadF
    have K1q := Lib.hid (fun (q : Of (Cst W x y b B7 B9)) => K1.out q.w q.ok.ls)
    have K2q := Lib.hid (fun (q : Of (Cst W x y b B7 B9)) => K2.out q.w q.ok.ls)
    have _ne : Nonempty (Of (Cst W x y b B7 B9)) := ⟨⟨_, C6.out⟩⟩
    refine wp_region_of (Cst W x y b B7 B9) (by kernel_rfl) (Region.lexB_of_fast (by kernel_rfl)) C6.out.drew ?_
    repeat (go_big_quiet_step (first
      | (go_at_call 14; exact Calls.of_below Cst.keep (HS.out _))
      | (go_at_call 15; exact Calls.of_below Cst.keep (K1q.out _))
      | (go_at_call 16; exact Calls.of_below Cst.keep (K2q.out _))
      | (go_at_call 8; exact Calls.of_below Cst.keep (CL.out _))))
    refine wpQuiet_nil ?_
    rintro _ ⟨q, rfl⟩
    have HB2 := Lib.hid q.ok.bel
    generalize q.w = w9 at *
    clear q1 q2 q3
    go_wp2
    go_returns
    exact ⟨rfl, HB2.out⟩

theorem reorderChecks_walk0 {W : World} (x : Rw) (b : Bf) (hL : Lies W x b) (s : Int) (_ : (Lit.int .i64 s).wf = true) (z : Int) (_ : (Lit.int .i64 z).wf = true) :
    Calls Try.prog 4 #[Rw_.v x, .int .i64 s, .int .i64 z] W fun e w' => e = .returned (.bool true) ∧ Below W.heap.size W w' := reorderChecks_walk1 x b W hL s z
end Go.Proofs.Yteffmfloopkmoaa
