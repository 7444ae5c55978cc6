/-
  THE WALKS of ScoreChecks, ScoreNotes, ScoreMoves.
-/
import Derived.Test.YtjighkagmnoncaaScLives
namespace Go.Proofs.Ytjighkagmnoncaa
open Go.RowKit Go.Sc Go.Sq Go.Bs
attribute [local go_sem ↓ high] Sw_.loadF Sw_.storeF Sw_.v_cells Sw_.v_match
attribute [local go_sem] Sw_.C0 Sw_.C1 Sw_.C2 Sw_.loadF_new Sw_.storeF_zero Sw_.eql Sw_.guard Oper.semAt_some

theorem nat_mp {a : Int} (h : (Lit.int .u64 a).wf = true) : ∃ n : Nat, a = n ∧ n < 18446744073709551616 := by
  simp [Lit.wf, IntKind.min, IntKind.max, IntKind.signed, IntKind.bits] at h
  exact ⟨a.toNat, by omega, by omega⟩
/-- The scoreboard that came in, two new ones. -/
structure Cst (w : World) (x y : Sc) (B7 B9 : Nat) (wi : World) : Prop where
  bx : Sw_.Box wi w.heap.size x
  b7 : Sw_.Box wi B7 y
  b9 : Sw_.Box wi B9 y
  bel : Below w.heap.size w wi
theorem Cst.keep {w : World} {x y : Sc} {B7 B9 : Nat} (wi wj : World) (h : Cst w x y B7 B9 wi) (hb : Below wi.heap.size wi wj) : Cst w x y B7 B9 wj :=
  ⟨h.bx.below hb h.bx.lt, h.b7.below hb h.b7.lt, h.b9.below hb h.b9.lt, h.bel.trans (hb.mono h.bel.size)⟩
theorem Cst.drew {w : World} {x y : Sc} {B7 B9 : Nat} {wi : World} (h : Cst w x y B7 B9 wi) : Cst w x y B7 B9 wi.drew := h.keep _ _ ⟨rfl, rfl, rfl, Nat.le_refl _, fun _ _ => rfl⟩

set_option maxRecDepth 100000 in
set_option maxHeartbeats 4000000 in
theorem scoreChecks_walk1 (st sz : Int) (m : Nat) (hm : m < 18446744073709551616) (s z : Int) (W : World) :
    Calls Try.prog 3 #[Sw_.v ⟨st, sz, m⟩, .int .i64 s, .int .i64 z] W fun e w' => e = .returned (.bool true) ∧ Below W.heap.size W w' := by
  obtain ⟨x, hx⟩ : ∃ x : Sc, ⟨st, sz, m⟩ = x := ⟨_, rfl⟩
  have K1 : Hid (∀ W, Calls Try.prog 10 #[Sw_.v x] W fun e w' => e = .returned (.int .i64 (ck st sz m)) ∧ Below W.heap.size W w') := fun W => by rw [← hx]; exact sc_check_any st sz m W hm
  have K2 : Hid (∀ W, Calls Try.prog 11 #[Sw_.v x] W fun e w' => e = .returned (.int .i64 (ck st sz m)) ∧ Below W.heap.size W w') := fun W => by rw [← hx]; exact r21_check_any st sz m W hm
  rw [hx]
  obtain ⟨w1, hw1⟩ : ∃ w1, W.alloc (.cells (Sw_.C x) 24) = w1 := ⟨_, rfl⟩
  have HBX := Lib.hid (show Sw_.Box w1 W.heap.size x from hw1 ▸ Sw_.Box.new W x)
  have B1 : Hid (Below W.heap.size W w1) := hw1 ▸ (Below.refl _ _).alloc (Nat.le_refl _) _
  have CL := Lib.hid awake21_any
  have N1 := Lib.hid (fun W => sc_new_any s z W)
  have N2 := Lib.hid (fun W => r21_new_any s z W)
  unfold NwPost at N1 N2
  generalize nwC s z = y at *
  generalize ck s z 0 = E at *
  generalize ck st sz m = K at *
  have hE : (E == E) = true := by simp
  have hK : (K == K) = true := by simp
  clear hx hm
  go_enter Try.func3, Try.ntmps3
  go_wp2_with fail
  refine (N1.out w1).mono ?_
  rintro e w3 ⟨rfl, h3⟩
  obtain ⟨w4, hw4⟩ : ∃ w4, w3.alloc (.cells (Sw_.C y) 24) = w4 := ⟨_, rfl⟩
  have hz4 := Sw_.storeF_zero w3 y
  rw [hw4] at hz4
  have b4 := h3.trans ((show Below w3.heap.size w3 w4 from hw4 ▸ (Below.refl _ _).alloc (Nat.le_refl _) _).mono h3.size)
  have Y4 := Lib.hid (show Sw_.Box w4 w3.heap.size y from hw4 ▸ Sw_.Box.new w3 y)
  have X4 := Lib.hid (HBX.out.below b4 HBX.out.lt)
  have B4 := Lib.hid (B1.out.trans (b4.mono B1.out.size))
  clear h3 hw4 b4 HBX B1 N1 hw1
  go_wp2_with fail
  refine (N2.out w4).mono ?_
  rintro e w5 ⟨rfl, h5⟩
  obtain ⟨w6, hw6⟩ : ∃ w6, w5.alloc (.cells (Sw_.C y) 24) = w6 := ⟨_, rfl⟩
  have hz6 := Sw_.storeF_zero w5 y
  rw [hw6] at hz6
  have b6 := h5.trans ((show Below w5.heap.size w5 w6 from hw6 ▸ (Below.refl _ _).alloc (Nat.le_refl _) _).mono h5.size)
  have B6 := B4.out.trans (b6.mono B4.out.size)
  have C6 : Hid (Cst W x y w3.heap.size w5.heap.size w6) := ⟨X4.out.below b6 X4.out.lt, Y4.out.below b6 Y4.out.lt, hw6 ▸ Sw_.Box.new w5 y, B6⟩
  clear h5 hw6 b6 X4 B4 N2 Y4 B6
  go_wp2_with fail
  generalize w3.heap.size = B7 at *
  generalize w5.heap.size = B9 at *
  have q1 : ∀ (q : Of (Cst W x y B7 B9)), (Sw_.LoadF ⟨W.heap.size, 0, none⟩).run Try.prog q.w = .ok (Sw_.v x) q.w := fun q => q.ok.bx.loadF
  have q2 : ∀ (q : Of (Cst W x y B7 B9)), (Sw_.LoadF ⟨B7, 0, none⟩).run Try.prog q.w = .ok (Sw_.v y) q.w := fun q => q.ok.b7.loadF
  have q3 : ∀ (q : Of (Cst W x y B7 B9)), (Sw_.LoadF ⟨B9, 0, none⟩).run Try.prog q.w = .ok (Sw_.v y) q.w := fun q => q.ok.b9.loadF
  have _ne : Nonempty (Of (Cst W x y B7 B9)) := ⟨⟨_, C6.out⟩⟩
  refine wp_region_of (Cst W x y B7 B9) (by kernel_rfl) (Region.lexB_of_fast (by kernel_rfl)) C6.out.drew ?_
  repeat (go_big_quiet_step (first
    | (go_at_call 10; exact Calls.of_below Cst.keep (K1.out _))
    | (go_at_call 11; exact Calls.of_below Cst.keep (K2.out _))
    | (go_at_call 12; exact Calls.of_below Cst.keep (CL.out _))))
  refine wpQuiet_nil ?_
  rintro _ ⟨q, rfl⟩
  have HB2 := Lib.hid q.ok.bel
  generalize q.w = w9 at *
  clear q1 q2 q3
  go_wp2
  go_returns
  exact ⟨rfl, HB2.out⟩

theorem scoreChecks_walk0 {W : World} (x : Sc) (hx : (Lit.int .i64 x.st).wf = true ∧ (Lit.int .i64 x.sz).wf = true ∧ (Lit.int .u64 x.mp).wf = true) (s : Int) (_ : (Lit.int .i64 s).wf = true) (z : Int) (_ : (Lit.int .i64 z).wf = true) :
    Calls Try.prog 3 #[Sw_.v x, .int .i64 s, .int .i64 z] W fun e w' => e = .returned (.bool true) ∧ Below W.heap.size W w' := by
  obtain ⟨st, sz, mp⟩ := x
  obtain ⟨m, hm, h⟩ := nat_mp hx.2.2
  obtain rfl : mp = (m : Int) := hm
  exact scoreChecks_walk1 st sz m h s z W

set_option maxRecDepth 100000 in
set_option maxHeartbeats 4000000 in
theorem scoreNotes_walk1 (st sz : Int) (m : Nat) (hm : m < 18446744073709551616) (n o : Int) (W : World) :
    Calls Try.prog 4 #[Sw_.v ⟨st, sz, m⟩, .int .i64 n, .int .i64 o] W fun e w' => e = .returned (.bool true) ∧ Below W.heap.size W w' := by
  obtain ⟨x, hx⟩ : ∃ x : Sc, ⟨st, sz, m⟩ = x := ⟨_, rfl⟩
  have K2 : Hid (∀ W, Calls Try.prog 11 #[Sw_.v x] W fun e w' => e = .returned (.int .i64 (ck st sz m)) ∧ Below W.heap.size W w') := fun W => by rw [← hx]; exact r21_check_any st sz m W hm
  rw [hx]
  obtain ⟨w1, hw1⟩ : ∃ w1, W.alloc (.cells (Sw_.C x) 24) = w1 := ⟨_, rfl⟩
  have S1 : Hid (Sst W W.heap.size x w1) := ⟨hw1 ▸ Sw_.Box.new W x, hw1 ▸ (Below.refl _ _).alloc (Nat.le_refl _) _⟩
  have CL := Lib.hid awake21_any
  have l1 := S1.out.bx.loadF
  by_cases hk : ck st sz m = 0
  · have g := ck_gd.1 hk
    rw [hk] at K2
    have CN1 : Hid (∀ W, Calls Try.prog 14 #[Sw_.v x, .int .i64 n] W fun e w' => e = .returned (Sw_.v ⟨nS st sz n, sz, (nM st sz m n : Nat)⟩) ∧ Below W.heap.size W w') := fun W => by rw [← hx]; exact sc_note_any st sz m n W hm ⟨g.lo, g.hi⟩
    have CN2 : Hid (∀ W, Calls Try.prog 15 #[Sw_.v x, .int .i64 n] W fun e w' => e = .returned (Sw_.v ⟨nS st sz n, sz, (nM st sz m n : Nat)⟩) ∧ Below W.heap.size W w') := fun W => by rw [← hx]; exact r21_note_any st sz m n W hm g
    have CH1 : Hid (∀ W, Calls Try.prog 16 #[Sw_.v x, .int .i64 o] W fun e w' => e = .returned (.bool (hs st sz m o)) ∧ Below W.heap.size W w') := fun W => by rw [← hx]; exact sc_has_any st sz m o W hm
    have CH2 : Hid (∀ W, Calls Try.prog 17 #[Sw_.v x, .int .i64 o] W fun e w' => e = .returned (.bool (hs st sz m o)) ∧ Below W.heap.size W w') := fun W => by rw [← hx]; exact r21_has_any st sz m o W hm g.hi
    have CR : Hid (∀ W, Calls Try.prog 13 #[Sw_.v x] W fun e w' => e = .returned (.tuple #[.int .i64 st, .int .u64 (m : Int)]) ∧ Below W.heap.size W w') := fun W => by rw [← hx]; exact sc_report_any _ W
    have c0 : (Sw_.C x)[0]? = some (.int .i64 st) := by rw [← hx]; rfl
    have c2 : (Sw_.C x)[2]? = some (.int .u64 (m : Int)) := by rw [← hx]; rfl
    generalize (⟨nS st sz n, sz, (nM st sz m n : Nat)⟩ : Sc) = y at *
    generalize hs st sz m o = H at *
    have hH : (H == H) = true := by simp
    have hst : (st == st) = true := by simp
    have hmm : ((m : Int) == (m : Int)) = true := by simp
    have q0 : ∀ (q : Of (Sst W W.heap.size x)) (j : Nat), q.w.cell? ⟨W.heap.size, j, none⟩ = (Sw_.C x)[j]? := fun q j => q.ok.bx.all j
    have q1 : ∀ (q : Of (Sst W W.heap.size x)), (Sw_.LoadF ⟨W.heap.size, 0, none⟩).run Try.prog q.w = .ok (Sw_.v x) q.w := fun q => q.ok.bx.loadF
    have _ne : Nonempty (Of (Sst W W.heap.size x)) := ⟨⟨_, S1.out⟩⟩
    clear hx hm hk g
    go_enter Try.func4, Try.ntmps4
    go_wp2_with (first
      | (go_at_call 11; refine (K2.out _).mono ?_; rintro e w2 ⟨rfl, h⟩; have S2 := Lib.hid (Sst.keep _ _ S1.out h); have l2 := S2.out.bx.loadF; clear h)
      | (go_at_call 13; refine (CR.out _).mono ?_; rintro e w3 ⟨rfl, h⟩; have S3 := Lib.hid (Sst.keep _ _ S2.out h); clear h))
    refine wp_region_of (Sst W W.heap.size x) (by kernel_rfl) (Region.lexB_of_fast (by kernel_rfl)) S3.out.drew ?_
    repeat (go_big_quiet_step (first
      | (go_at_call 14; exact Calls.of_below Sst.keep (CN1.out _))
      | (go_at_call 15; exact Calls.of_below Sst.keep (CN2.out _))
      | (go_at_call 16; exact Calls.of_below Sst.keep (CH1.out _))
      | (go_at_call 17; exact Calls.of_below Sst.keep (CH2.out _))
      | (go_at_call 12; exact Calls.of_below Sst.keep (CL.out _))))
    refine wpQuiet_nil ?_
    rintro _ ⟨q, rfl⟩
    have HB2 := Lib.hid q.ok.bel
    generalize q.w = w9 at *
    clear q0 q1
    go_wp2
    go_returns
    exact ⟨rfl, HB2.out⟩
  · have hk' : (ck st sz m != 0) = true := by simpa using hk
    generalize ck st sz m = K at *
    clear hx hm
    go_enter Try.func4, Try.ntmps4
    go_wp2_with (first
      | (go_at_call 11; refine (K2.out _).mono ?_; rintro e w2 ⟨rfl, h⟩; have S2 := Lib.hid (Sst.keep _ _ S1.out h); clear h)
      | (go_at_call 12; refine (CL.out _).mono ?_; rintro e w3 ⟨rfl, h⟩; have B3 := Lib.hid (S2.out.bel.trans (h.mono S2.out.bel.size)); clear h))
    go_returns
    exact ⟨rfl, B3.out⟩

theorem scoreNotes_walk0 {W : World} (x : Sc) (hx : (Lit.int .i64 x.st).wf = true ∧ (Lit.int .i64 x.sz).wf = true ∧ (Lit.int .u64 x.mp).wf = true) (s : Int) (_ : (Lit.int .i64 s).wf = true) (z : Int) (_ : (Lit.int .i64 z).wf = true) :
    Calls Try.prog 4 #[Sw_.v x, .int .i64 s, .int .i64 z] W fun e w' => e = .returned (.bool true) ∧ Below W.heap.size W w' := by
  obtain ⟨st, sz, mp⟩ := x
  obtain ⟨m, hm, h⟩ := nat_mp hx.2.2
  obtain rfl : mp = (m : Int) := hm
  exact scoreNotes_walk1 st sz m h s z W

set_option maxRecDepth 100000 in
set_option maxHeartbeats 4000000 in
theorem scoreMoves_walk1 (st sz : Int) (m : Nat) (hm : m < 18446744073709551616) (n : Int) (W : World) :
    Calls Try.prog 5 #[Sw_.v ⟨st, sz, m⟩, .int .i64 n] W fun e w' => e = .returned (.bool true) ∧ Below W.heap.size W w' := by
  obtain ⟨x, hx⟩ : ∃ x : Sc, ⟨st, sz, m⟩ = x := ⟨_, rfl⟩
  have K2 : Hid (∀ W, Calls Try.prog 11 #[Sw_.v x] W fun e w' => e = .returned (.int .i64 (ck st sz m)) ∧ Below W.heap.size W w') := fun W => by rw [← hx]; exact r21_check_any st sz m W hm
  rw [hx]
  obtain ⟨w1, hw1⟩ : ∃ w1, W.alloc (.cells (Sw_.C x) 24) = w1 := ⟨_, rfl⟩
  have S1 : Hid (Sst W W.heap.size x w1) := ⟨hw1 ▸ Sw_.Box.new W x, hw1 ▸ (Below.refl _ _).alloc (Nat.le_refl _) _⟩
  have CL := Lib.hid awake21_any
  have l1 := S1.out.bx.loadF
  by_cases hk : ck st sz m = 0
  · have g := ck_gd.1 hk
    rw [hk] at K2
    have CN1 : Hid (∀ W, Calls Try.prog 18 #[Sw_.v x, .int .i64 n] W fun e w' => e = .returned (Sw_.v ⟨mS st n, sz, (mM st m n : Nat)⟩) ∧ Below W.heap.size W w') := fun W => by rw [← hx]; exact sc_move_any st sz m n W hm
    have CN2 : Hid (∀ W, Calls Try.prog 19 #[Sw_.v x, .int .i64 n] W fun e w' => e = .returned (Sw_.v ⟨mS st n, sz, (mM st m n : Nat)⟩) ∧ Below W.heap.size W w') := fun W => by rw [← hx]; exact r21_move_any st sz m n W hm g
    generalize (⟨mS st n, sz, (mM st m n : Nat)⟩ : Sc) = y at *
    have q1 : ∀ (q : Of (Sst W W.heap.size x)), (Sw_.LoadF ⟨W.heap.size, 0, none⟩).run Try.prog q.w = .ok (Sw_.v x) q.w := fun q => q.ok.bx.loadF
    have _ne : Nonempty (Of (Sst W W.heap.size x)) := ⟨⟨_, S1.out⟩⟩
    clear hx hm hk g
    go_enter Try.func5, Try.ntmps5
    go_wp2_with (first
      | (go_at_call 11; refine (K2.out _).mono ?_; rintro e w2 ⟨rfl, h⟩; have S2 := Lib.hid (Sst.keep _ _ S1.out h); clear h))
    refine wp_region_of (Sst W W.heap.size x) (by kernel_rfl) (Region.lexB_of_fast (by kernel_rfl)) S2.out.drew ?_
    repeat (go_big_quiet_step (first
      | (go_at_call 18; exact Calls.of_below Sst.keep (CN1.out _))
      | (go_at_call 19; exact Calls.of_below Sst.keep (CN2.out _))
      | (go_at_call 12; exact Calls.of_below Sst.keep (CL.out _))))
    refine wpQuiet_nil ?_
    rintro _ ⟨q, rfl⟩
    have HB2 := Lib.hid q.ok.bel
    generalize q.w = w9 at *
    clear q1
    go_wp2
    go_returns
    exact ⟨rfl, HB2.out⟩
  · have hk' : (ck st sz m != 0) = true := by simpa using hk
    generalize ck st sz m = K at *
    clear hx hm
    go_enter Try.func5, Try.ntmps5
    go_wp2_with (first
      | (go_at_call 11; refine (K2.out _).mono ?_; rintro e w2 ⟨rfl, h⟩; have S2 := Lib.hid (Sst.keep _ _ S1.out h); clear h)
      | (go_at_call 12; refine (CL.out _).mono ?_; rintro e w3 ⟨rfl, h⟩; have B3 := Lib.hid (S2.out.bel.trans (h.mono S2.out.bel.size)); clear h))
    go_returns
    exact ⟨rfl, B3.out⟩

theorem scoreMoves_walk0 {W : World} (x : Sc) (hx : (Lit.int .i64 x.st).wf = true ∧ (Lit.int .i64 x.sz).wf = true ∧ (Lit.int .u64 x.mp).wf = true) (s : Int) (_ : (Lit.int .i64 s).wf = true) :
    Calls Try.prog 5 #[Sw_.v x, .int .i64 s] W fun e w' => e = .returned (.bool true) ∧ Below W.heap.size W w' := by
  obtain ⟨st, sz, mp⟩ := x
  obtain ⟨m, hm, h⟩ := nat_mp hx.2.2
  obtain rfl : mp = (m : Int) := hm
  exact scoreMoves_walk1 st sz m h s W
end Go.Proofs.Ytjighkagmnoncaa
