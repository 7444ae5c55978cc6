/-
  WALKS of package score: inWindow, isAhead, Check, New, Has, Report.
-/
import Derived.Test.YtjighkagmnoncaaScEq
import Derived.Test.YtjighkagmnoncaaSqArith
import Derived.Test.YtjighkagmnoncaaBsRange
import Derived.BigQuiet
import Derived.Test.YtjighkagmnoncaaQuietOf
import Derived.Test.YtjighkagmnoncaaLexFast
namespace Go.Proofs.Ytjighkagmnoncaa
open Go.RowKit Go.Sc Go.Sq Go.Bs
attribute [local go_sem ↓ high] Sw_.loadF Sw_.storeF Sw_.v_cells Sw_.v_match
attribute [local go_sem] Sw_.C0 Sw_.C1 Sw_.C2 Sw_.loadF_new Sw_.storeF_zero Oper.semAt_some

theorem below_row21 {w wi : World} {r : Nat} (hb : Below w.heap.size w wi) (hr : w.heap.size ≤ r) (c : Array Value) : Below w.heap.size w (wi.setRow r c) :=
  ⟨hb.os, hb.tape, hb.output, by have := hb.size; simpa [World.setRow] using this, fun k hk => (Sw_.setRow_other (by omega) c).trans (hb.block k hk)⟩
/-- A scoreboard handed back out of a result's cell. -/
theorem ret_sc {fn : Func} {p : Tmp} (hr : fn.results = #[.cell p 24]) {tmps : Array Value} {ds : _} {w : World} {g : Nat} {y : Sc} {R : Ending → World → Prop} (hp : tmps.getD p undef = .pointer (some ⟨g, 0, none⟩)) (hb : Sw_.Box w g y) (hd : ds = []) (hR : R (.returned (Sw_.v y)) w) :
    bodyPost Try.prog fn R .ret ⟨tmps, ds⟩ w := by
  refine bodyPost_ret (v := Sw_.v y) ?_ hd hR
  have hp' : tmps[p]?.getD undef = .pointer (some ⟨g, 0, none⟩) := by simpa using hp
  have hl := run_loadVar_row w g 24 24 (Sw_.C y) (0, 0) _ hb Try.underlying24 rfl Sw_.sz
  simp [results, hr, hp', asAddr, hl]
  rfl
/-- And an error beside it. -/
theorem ret_sc2 {fn : Func} {p q : Tmp} (hr : fn.results = #[.cell p 24, .tmp q]) {tmps : Array Value} {ds : _} {w : World} {g : Nat} {y : Sc} {vq : Value} {R : Ending → World → Prop} (hp : tmps.getD p undef = .pointer (some ⟨g, 0, none⟩)) (hq : tmps.getD q undef = vq) (hb : Sw_.Box w g y) (hd : ds = []) (hR : R (.returned (.tuple #[Sw_.v y, vq])) w) :
    bodyPost Try.prog fn R .ret ⟨tmps, ds⟩ w := by
  refine bodyPost_ret (v := .tuple #[Sw_.v y, vq]) ?_ hd hR
  have hp' : tmps[p]?.getD undef = .pointer (some ⟨g, 0, none⟩) := by simpa using hp
  have hq' : tmps[q]?.getD undef = vq := by simpa using hq
  have hl := run_loadVar_row w g 24 24 (Sw_.C y) (0, 0) _ hb Try.underlying24 rfl Sw_.sz
  simp [results, hr, hp', hq', asAddr, hl]
  rfl

theorem below_drewN21 {B : Nat} {w wi : World} (h : Below B w wi) (n : Nat) : Below B w (wi.drewN n) := ⟨h.os, h.tape, h.output, h.size, h.block⟩

/-- A scoreboard in its cell. -/
structure Sst (w : World) (b : Nat) (x : Sc) (wi : World) : Prop where
  bx : Sw_.Box wi b x
  bel : Below w.heap.size w wi
theorem Sst.keep {w : World} {b : Nat} {x : Sc} (wi wj : World) (h : Sst w b x wi) (hb : Below wi.heap.size wi wj) : Sst w b x wj := ⟨h.bx.below hb h.bx.lt, h.bel.trans (hb.mono h.bel.size)⟩
theorem Sst.drew {w : World} {b : Nat} {x : Sc} {wi : World} (h : Sst w b x wi) : Sst w b x wi.drew := h.keep _ _ ⟨rfl, rfl, rfl, Nat.le_refl _, fun _ _ => rfl⟩

set_option maxRecDepth 100000 in
set_option maxHeartbeats 2000000 in
theorem sc_inWindow_any (x : Sc) (n : Int) (w : World) :
    Calls Try.prog 27 #[Sw_.v x, .int .i64 n] w fun e w' => e = .returned (.bool (inn x.st x.sz n)) ∧ Below w.heap.size w w' := by
  obtain ⟨w1, hw1⟩ : ∃ w1, w.alloc (.cells (Sw_.C x) 24) = w1 := ⟨_, rfl⟩
  have hb : Sw_.Box w1 w.heap.size x := hw1 ▸ Sw_.Box.new w x
  have B1 : Hid (Below w.heap.size w w1) := hw1 ▸ (Below.refl _ _).alloc (Nat.le_refl _) _
  have e1 := hb.all
  have CI := Lib.hid (fun w => in_any x.st x.sz n w)
  clear hb
  go_enter Try.func27, Try.ntmps27
  go_wp2_with (go_at_call 34; refine (CI.out _).mono ?_; rintro e w' ⟨rfl, rfl⟩)
  go_returns
  exact ⟨rfl, B1.out⟩

set_option maxRecDepth 100000 in
set_option maxHeartbeats 2000000 in
theorem sc_isAhead_any (x : Sc) (n : Int) (w : World) :
    Calls Try.prog 26 #[Sw_.v x, .int .i64 n] w fun e w' => e = .returned (.bool (inn x.st 2048 n)) ∧ Below w.heap.size w w' := by
  obtain ⟨w1, hw1⟩ : ∃ w1, w.alloc (.cells (Sw_.C x) 24) = w1 := ⟨_, rfl⟩
  have hb : Sw_.Box w1 w.heap.size x := hw1 ▸ Sw_.Box.new w x
  have B1 : Hid (Below w.heap.size w w1) := hw1 ▸ (Below.refl _ _).alloc (Nat.le_refl _) _
  have e1 := hb.all
  have CI := Lib.hid (fun w => in_any x.st 2048 n w)
  clear hb
  go_enter Try.func26, Try.ntmps26
  go_wp2_with (go_at_call 34; refine (CI.out _).mono ?_; rintro e w' ⟨rfl, rfl⟩)
  go_returns
  exact ⟨rfl, B1.out⟩

set_option maxRecDepth 100000 in
set_option maxHeartbeats 4000000 in
theorem sc_check_any (st sz : Int) (m : Nat) (w : World) (hm : m < 18446744073709551616) :
    Calls Try.prog 10 #[Sw_.v ⟨st, sz, m⟩] w fun e w' => e = .returned (.int .i64 (ck st sz m)) ∧ Below w.heap.size w w' := by
  obtain ⟨x, hx⟩ : ∃ x : Sc, ⟨st, sz, m⟩ = x := ⟨_, rfl⟩
  rw [hx]
  obtain ⟨w1, hw1⟩ : ∃ w1, w.alloc (.cells (Sw_.C x) 24) = w1 := ⟨_, rfl⟩
  have hb : Sw_.Box w1 w.heap.size x := hw1 ▸ Sw_.Box.new w x
  have B1 : Hid (Below w.heap.size w w1) := hw1 ▸ (Below.refl _ _).alloc (Nat.le_refl _) _
  have e1 := hb.all
  have c0 : (Sw_.C x)[0]? = some (.int .i64 st) := by rw [← hx]; rfl
  have c1 : (Sw_.C x)[1]? = some (.int .i64 sz) := by rw [← hx]; rfl
  have c2 : (Sw_.C x)[2]? = some (.int .u64 (m : Int)) := by rw [← hx]; rfl
  have CV := Lib.hid (fun w => valid_any st w)
  have CD := Lib.hid (fun w => down_any m sz w hm)
  have HO := Lib.hid (@ck_out st sz m)
  have HI := Lib.hid (@ck_in st sz m)
  generalize ck st sz m = R at *
  clear hb hm hx
  cases hv : vl st
  · obtain rfl := HO.out (by rw [hv]; simp)
    rw [hv] at CV
    clear HO HI
    go_enter Try.func10, Try.ntmps10
    go_wp2_with (go_at_call 24; refine (CV.out _).mono ?_; rintro e w' ⟨rfl, rfl⟩)
    go_returns
    exact ⟨rfl, B1.out⟩
  by_cases h1 : sz < 1
  · obtain rfl := HO.out (fun h => by have := h.2.1; omega)
    rw [hv] at CV
    clear HO HI
    go_enter Try.func10, Try.ntmps10
    go_wp2_with (go_at_call 24; refine (CV.out _).mono ?_; rintro e w' ⟨rfl, rfl⟩)
    go_returns
    exact ⟨rfl, B1.out⟩
  by_cases h2 : 64 < sz
  · obtain rfl := HO.out (fun h => by have := h.2.2; omega)
    rw [hv] at CV
    clear HO HI
    go_enter Try.func10, Try.ntmps10
    go_wp2_with (go_at_call 24; refine (CV.out _).mono ?_; rintro e w' ⟨rfl, rfl⟩)
    go_returns
    exact ⟨rfl, B1.out⟩
  have hr := HI.out hv (by omega) (by omega)
  rw [hv] at CV
  clear HO HI
  obtain ⟨D, hD⟩ : ∃ D, dwn m sz = D := ⟨_, rfl⟩
  rw [hD] at hr CD
  by_cases h3 : D = 0
  · rw [if_pos h3] at hr
    subst hr
    subst h3
    clear hD
    go_enter Try.func10, Try.ntmps10
    go_wp2_with (first
      | (go_at_call 24; refine (CV.out _).mono ?_; rintro e w' ⟨rfl, rfl⟩)
      | (go_at_call 25; refine (CD.out _).mono ?_; rintro e w' ⟨rfl, rfl⟩))
    go_returns
    exact ⟨rfl, B1.out⟩
  · rw [if_neg h3] at hr
    subst hr
    have h4 : ((D : Int) != 0) = true := by simp; omega
    clear hD
    go_enter Try.func10, Try.ntmps10
    go_wp2_with (first
      | (go_at_call 24; refine (CV.out _).mono ?_; rintro e w' ⟨rfl, rfl⟩)
      | (go_at_call 25; refine (CD.out _).mono ?_; rintro e w' ⟨rfl, rfl⟩))
    go_returns
    exact ⟨rfl, B1.out⟩

/-- What New answers: a scoreboard without numbers, or none. -/
def nwC (s z : Int) : Sc := if ck s z 0 = 0 then ⟨s, z, 0⟩ else zs
def NwPost (s z : Int) (w : World) (e : Ending) (w' : World) : Prop := e = .returned (.tuple #[Sw_.v (nwC s z), .int .i64 (ck s z 0)]) ∧ Below w.heap.size w w'

set_option maxRecDepth 100000 in
set_option maxHeartbeats 4000000 in
theorem sc_new_any (s z : Int) (w : World) :
    Calls Try.prog 8 #[.int .i64 s, .int .i64 z] w fun e w' => NwPost s z w e w' := by
  obtain ⟨w1, hw1⟩ : ∃ w1, w.alloc (.cells (Sw_.C zs) 24) = w1 := ⟨_, rfl⟩
  obtain ⟨w2, hw2⟩ : ∃ w2, w1.alloc (.cells (Sw_.C ⟨s, z, 0⟩) 24) = w2 := ⟨_, rfl⟩
  have hw1' : w.alloc (.cells #[.int .i64 0, .int .i64 0, .int .u64 0] 24) = w1 := hw1
  have z1 : w1.heap.size = w.heap.size + 1 := by rw [← hw1]; simp
  have X1 : Sw_.Box w1 w.heap.size zs := hw1 ▸ Sw_.Box.new w zs
  have b2 : Below w1.heap.size w1 w2 := hw2 ▸ (Below.refl _ _).alloc (Nat.le_refl _) _
  have B2 : Hid (Below w.heap.size w w2) := (show Below w.heap.size w w1 from hw1 ▸ (Below.refl _ _).alloc (Nat.le_refl _) _).trans (b2.mono (by omega))
  have X2 := Lib.hid (X1.below b2 X1.lt)
  have Y2 := Lib.hid (show Sw_.Box w2 (w.heap.size + 1) ⟨s, z, 0⟩ by rw [← hw2, ← z1]; exact Sw_.Box.new w1 _)
  have st0 : (Sw_.StoreF ⟨w.heap.size + 1, 0, none⟩ (.agg #[.int .i64 s, .int .i64 z, .int .u64 0])).run Try.prog (w1.alloc (.cells #[.int .i64 0, .int .i64 0, .int .u64 0] 24)) = .ok () w2 := by
    rw [← hw2, ← z1]; exact Sw_.storeF_new w1 zs ⟨s, z, 0⟩
  have l2 := Y2.out.loadF
  have CC : Hid (Calls Try.prog 10 #[Sw_.v ⟨s, z, 0⟩] w2 fun e w' => e = .returned (.int .i64 (ck s z 0)) ∧ Below w2.heap.size w2 w') := sc_check_any s z 0 w2 (by decide)
  have HY := Lib.hid (fun (h : ck s z 0 = 0) => show nwC s z = ⟨s, z, 0⟩ from if_pos h)
  have HN := Lib.hid (fun (h : ¬ ck s z 0 = 0) => show nwC s z = zs from if_neg h)
  unfold NwPost
  generalize nwC s z = y at *
  generalize ck s z 0 = K at *
  clear X1 b2 hw1 hw2
  by_cases hk : K = 0
  · obtain rfl := HY.out hk
    subst hk
    clear HY HN
    go_enter Try.func8, Try.ntmps8
    go_wp2_with (go_at_call 10; refine CC.out.mono ?_; rintro e w3 ⟨rfl, hw3⟩; have X3 := Lib.hid (X2.out.below hw3 X2.out.lt); have B3 := Lib.hid (B2.out.trans (hw3.mono B2.out.size)); have l3 := (Y2.out.below hw3 Y2.out.lt).loadF; have st3 := X3.out.storeF ⟨s, z, 0⟩; clear hw3)
    exact ret_sc2 Try.results8 rfl rfl (X3.out.setRow ⟨s, z, 0⟩) rfl ⟨rfl, below_row21 B3.out (Nat.le_refl _) _⟩
  · obtain rfl := HN.out hk
    have hk' : (K != 0) = true := by simpa using hk
    clear HY HN
    go_enter Try.func8, Try.ntmps8
    go_wp2_with (go_at_call 10; refine CC.out.mono ?_; rintro e w3 ⟨rfl, hw3⟩; have X3 := Lib.hid (X2.out.below hw3 X2.out.lt); have B3 := Lib.hid (B2.out.trans (hw3.mono B2.out.size)); have st3 : (Sw_.StoreF ⟨w.heap.size, 0, none⟩ (.agg #[.int .i64 0, .int .i64 0, .int .u64 0])).run Try.prog w3 = .ok () (w3.setRow w.heap.size (Sw_.C zs)) := X3.out.storeF zs; clear hw3)
    exact ret_sc2 Try.results8 rfl rfl (X3.out.setRow zs) rfl ⟨rfl, below_row21 B3.out (Nat.le_refl _) _⟩

set_option maxRecDepth 100000 in
set_option maxHeartbeats 4000000 in
theorem sc_report_any (x : Sc) (w : World) :
    Calls Try.prog 13 #[Sw_.v x] w fun e w' => e = .returned (.tuple #[.int .i64 x.st, .int .u64 x.mp]) ∧ Below w.heap.size w w' := by
  obtain ⟨w1, hw1⟩ : ∃ w1, w.alloc (.cells (Sw_.C x) 24) = w1 := ⟨_, rfl⟩
  have hb : Sw_.Box w1 w.heap.size x := hw1 ▸ Sw_.Box.new w x
  have B1 : Hid (Below w.heap.size w w1) := hw1 ▸ (Below.refl _ _).alloc (Nat.le_refl _) _
  have e1 := hb.all
  clear hb
  go_enter Try.func13, Try.ntmps13
  go_wp2
  go_quiet (fail)
  go_wp2
  go_returns
  exact ⟨rfl, below_drewN21 B1.out _⟩

set_option maxRecDepth 100000 in
set_option maxHeartbeats 4000000 in
theorem sc_has_any (st sz : Int) (m : Nat) (n : Int) (w : World) (hm : m < 18446744073709551616) :
    Calls Try.prog 16 #[Sw_.v ⟨st, sz, m⟩, .int .i64 n] w fun e w' => e = .returned (.bool (hs st sz m n)) ∧ Below w.heap.size w w' := by
  obtain ⟨x, hx⟩ : ∃ x : Sc, ⟨st, sz, m⟩ = x := ⟨_, rfl⟩
  rw [hx]
  obtain ⟨w1, hw1⟩ : ∃ w1, w.alloc (.cells (Sw_.C x) 24) = w1 := ⟨_, rfl⟩
  have hb : Sw_.Box w1 w.heap.size x := hw1 ▸ Sw_.Box.new w x
  have B1 : Hid (Below w.heap.size w w1) := hw1 ▸ (Below.refl _ _).alloc (Nat.le_refl _) _
  have e1 := hb.all
  have l1 := hb.loadF
  have c0 : (Sw_.C x)[0]? = some (.int .i64 st) := by rw [← hx]; rfl
  have c1 : (Sw_.C x)[1]? = some (.int .i64 sz) := by rw [← hx]; rfl
  have c2 : (Sw_.C x)[2]? = some (.int .u64 (m : Int)) := by rw [← hx]; rfl
  have CW : Hid (∀ W, Calls Try.prog 27 #[Sw_.v x, .int .i64 n] W fun e w' => e = .returned (.bool (inn st sz n)) ∧ Below W.heap.size W w') := fun W => by rw [← hx]; exact sc_inWindow_any _ n W
  have CD := Lib.hid (fun w => distance_any st n w)
  have CH := Lib.hid (fun w => has_any m (dist st n) w hm)
  have HH : Hid (hs st sz m n = (inn st sz n && has m (dist st n))) := rfl
  rw [HH.out]
  generalize has m (dist st n) = H at *
  generalize dist st n = D at *
  generalize inn st sz n = I at *
  clear hb hm hx HH
  have S1 := Lib.hid (show Sst w w.heap.size x w1 from ⟨hw1 ▸ Sw_.Box.new w x, B1.out⟩)
  have q0 : ∀ (q : Of (Sst w w.heap.size x)) (j : Nat), q.w.cell? ⟨w.heap.size, j, none⟩ = (Sw_.C x)[j]? := fun q j => q.ok.bx.all j
  have q1 : ∀ (q : Of (Sst w w.heap.size x)), (Sw_.LoadF ⟨w.heap.size, 0, none⟩).run Try.prog q.w = .ok (Sw_.v x) q.w := fun q => q.ok.bx.loadF
  have _ne : Nonempty (Of (Sst w w.heap.size x)) := ⟨⟨_, S1.out⟩⟩
  clear e1 l1 B1
  cases I
  all_goals
    first | rw [Bool.false_and] | rw [Bool.true_and]
    go_enter Try.func16, Try.ntmps16
    go_wp2_with fail
    refine wp_region_of (Sst w w.heap.size x) (by kernel_rfl) (Region.lexB_of_fast (by kernel_rfl)) S1.out.drew ?_
    repeat (go_big_quiet_step (first
      | (go_at_call 27; exact Calls.of_below Sst.keep (CW.out _))
      | (go_at_call 30; exact Calls.of_same (CD.out _))
      | (go_at_call 32; exact Calls.of_same (CH.out _))))
    refine wpQuiet_nil ?_
    rintro _ ⟨q, rfl⟩
    have HB2 := Lib.hid q.ok.bel
    generalize q.w = w9 at *
    clear q0 q1
    go_wp2
    go_returns
    exact ⟨rfl, HB2.out⟩
end Go.Proofs.Ytjighkagmnoncaa
