/-
  WALKS of package window: what it holds, the small functions.
-/
import Derived.Test.YtldeflpaghbmmaaWnW
import Derived.Test.YtldeflpaghbmmaaWnLib
import Derived.Test.YtldeflpaghbmmaaWnCut
import Derived.Test.YtldeflpaghbmmaaWnIs
import Derived.Test.YtldeflpaghbmmaaSqArith
import Derived.Test.YtldeflpaghbmmaaQuietOf
import Derived.Test.YtldeflpaghbmmaaLexFast
import Derived.Deep.LoopGhost
import Derived.Lib.MinMax
namespace Go.Proofs.Ytldeflpaghbmmaa
open Go.RowKit Go.Wn Go.Sq Go.Wr
attribute [local go_sem ↓ high] Ww_.loadF Ww_.storeF Ww_.v_cells Ww_.v_match
attribute [local go_sem] Ww_.C0 Ww_.C1 Ww_.C2 Ww_.C3 Ww_.loadF_new Ww_.storeF_zero Oper.semAt_some

/-- A state's packets lie behind what the machine has of it. -/
structure Lies (w : World) (x : Wn) (s : St) : Prop where
  nx : x.nx = s.nx
  sz : x.sz = s.sz
  rq : x.rq = s.rq
  n : x.n = s.l.length
  sl : Sn_.Sl w x.sa s.l x.c
theorem Lies.below {w w' : World} {x : Wn} {s : St} (h : Lies w x s) (hb : Below w.heap.size w w') : Lies w' x s := ⟨h.nx, h.sz, h.rq, h.n, h.sl.below hb⟩
def zw : Wn := ⟨0, 0, none, 0, 0, false⟩
theorem owns_below22 {w w' : World} {base size n : Nat} {e : TypeId} {v : Value} {xs : List Value} (h : w.ownsRow base e size v n xs) (hb : Below w.heap.size w w') : w'.ownsRow base e size v n xs := by
  obtain ⟨h0, h1 | ⟨g, cap, cur, h1, h2, h3, h4⟩⟩ := h
  · exact ⟨h0, .inl h1⟩
  · exact ⟨h0, .inr ⟨g, cap, cur, h1, h2, (hb.block g (Array.getElem?_eq_some_iff.1 h3).1).trans h3, h4⟩⟩
theorem below_row22 {w wi : World} {r : Nat} (hb : Below w.heap.size w wi) (hr : w.heap.size ≤ r) (c : Array Value) : Below w.heap.size w (wi.setRow r c) :=
  ⟨hb.os, hb.tape, hb.output, by have := hb.size; simpa [World.setRow] using this, fun k hk => (Ww_.setRow_other (by omega) c).trans (hb.block k hk)⟩
theorem below_set22 {w wi : World} {a : Addr} (hb : Below w.heap.size w wi) (hr : w.heap.size ≤ a.block) (u : Value) : Below w.heap.size w (wi.setCell a u) :=
  ⟨hb.os, hb.tape, hb.output, by have := hb.size; simpa [World.setCell] using this, fun k hk => (Below.heap_setCell _ _ _ _ (by omega)).trans (hb.block k hk)⟩
/-- Results handed back out of a result's cell. -/
theorem ret_wn1 {fn : Func} {p : Tmp} (hr : fn.results = #[.cell p 29]) {tmps : Array Value} {ds : _} {w : World} {g : Nat} {y : Wn} {R : Ending → World → Prop} (hp : tmps.getD p undef = .pointer (some ⟨g, 0, none⟩)) (hb : Ww_.Box w g y) (hd : ds = []) (hR : R (.returned (Ww_.v y)) w) :
    bodyPost Try.prog fn R .ret ⟨tmps, ds⟩ w := by
  refine bodyPost_ret (v := Ww_.v y) ?_ hd hR
  have hp' : tmps[p]?.getD undef = .pointer (some ⟨g, 0, none⟩) := by simpa using hp
  have hl := run_loadVar_row w g 29 29 (Ww_.C y) (0, 0) _ hb Try.underlying29 rfl Ww_.sz
  simp [results, hr, hp', asAddr, hl]
  rfl
theorem ret_wn2 {fn : Func} {p q : Tmp} (hr : fn.results = #[.cell p 29, .tmp q]) {tmps : Array Value} {ds : _} {w : World} {g : Nat} {y : Wn} {vq : Value} {R : Ending → World → Prop} (hp : tmps.getD p undef = .pointer (some ⟨g, 0, none⟩)) (hq : tmps.getD q undef = vq) (hb : Ww_.Box w g y) (hd : ds = []) (hR : R (.returned (.tuple #[Ww_.v y, vq])) w) :
    bodyPost Try.prog fn R .ret ⟨tmps, ds⟩ w := by
  refine bodyPost_ret (v := .tuple #[Ww_.v y, vq]) ?_ hd hR
  have hp' : tmps[p]?.getD undef = .pointer (some ⟨g, 0, none⟩) := by simpa using hp
  have hq' : tmps[q]?.getD undef = vq := by simpa using hq
  have hl := run_loadVar_row w g 29 29 (Ww_.C y) (0, 0) _ hb Try.underlying29 rfl Ww_.sz
  simp [results, hr, hp', hq', asAddr, hl]
  rfl
theorem ret_wn3 {fn : Func} {p q r : Tmp} (hr : fn.results = #[.cell p 29, .tmp q, .tmp r]) {tmps : Array Value} {ds : _} {w : World} {g : Nat} {y : Wn} {vq vr : Value} {R : Ending → World → Prop} (hp : tmps.getD p undef = .pointer (some ⟨g, 0, none⟩)) (hq : tmps.getD q undef = vq) (hr' : tmps.getD r undef = vr) (hb : Ww_.Box w g y) (hd : ds = []) (hR : R (.returned (.tuple #[Ww_.v y, vq, vr])) w) :
    bodyPost Try.prog fn R .ret ⟨tmps, ds⟩ w := by
  refine bodyPost_ret (v := .tuple #[Ww_.v y, vq, vr]) ?_ hd hR
  have hp' : tmps[p]?.getD undef = .pointer (some ⟨g, 0, none⟩) := by simpa using hp
  have hq' : tmps[q]?.getD undef = vq := by simpa using hq
  have hr'' : tmps[r]?.getD undef = vr := by simpa using hr'
  have hl := run_loadVar_row w g 29 29 (Ww_.C y) (0, 0) _ hb Try.underlying29 rfl Ww_.sz
  simp [results, hr, hp', hq', hr'', asAddr, hl]
  rfl

/-- A state in its cell. -/
structure Wst (w : World) (b : Nat) (x : Wn) (wi : World) : Prop where
  bx : Ww_.Box wi b x
  bel : Below w.heap.size w wi
theorem Wst.keep {w : World} {b : Nat} {x : Wn} (wi wj : World) (h : Wst w b x wi) (hb : Below wi.heap.size wi wj) : Wst w b x wj := ⟨h.bx.below hb h.bx.lt, h.bel.trans (hb.mono h.bel.size)⟩
theorem Wst.drew {w : World} {b : Nat} {x : Wn} {wi : World} (h : Wst w b x wi) : Wst w b x wi.drew := h.keep _ _ ⟨rfl, rfl, rfl, Nat.le_refl _, fun _ _ => rfl⟩

set_option maxHeartbeats 1000000 in
theorem wn_isOpen_any (p : Sn) (w : World) : Calls Try.prog 49 #[Sn_.v p] w fun e w' => e = .returned (.bool (isOp p)) ∧ Below w.heap.size w w' := by
  unfold Sn_.v
  obtain ⟨w1, hw1⟩ : ∃ w1, w.alloc (.cells #[.int .i64 p.id, .int .i64 p.q, .int .i64 p.tr, .bool p.dn, .string p.da] 76) = w1 := ⟨_, rfl⟩
  have hb : Sn_.Box w1 w.heap.size p := hw1 ▸ Sn_.Box.new w p rfl
  have B1 : Hid (Below w.heap.size w w1) := hw1 ▸ (Below.refl _ _).alloc (Nat.le_refl _) _
  have e2 := hb.cells
  clear hb
  go_enter Try.func49, Try.ntmps49
  go_wp2
  go_returns
  exact ⟨rfl, B1.out⟩

set_option maxHeartbeats 1000000 in
theorem wn_width_any (x : Wn) (w : World) : Calls Try.prog 42 #[Ww_.v x] w fun e w' => e = .returned (.int .i64 (wid x.sz)) ∧ Below w.heap.size w w' := by
  obtain ⟨w1, hw1⟩ : ∃ w1, w.alloc (.cells (Ww_.C x) 29) = w1 := ⟨_, rfl⟩
  have hb : Ww_.Box w1 w.heap.size x := hw1 ▸ Ww_.Box.new w x
  have B1 : Hid (Below w.heap.size w w1) := hw1 ▸ (Below.refl _ _).alloc (Nat.le_refl _) _
  have e1 := hb.all
  clear hb
  go_enter Try.func42, Try.ntmps42
  go_wp2
  go_returns
  refine ⟨?_, B1.out⟩
  unfold wid
  by_cases h : 1 < x.sz
  · simp [h]; try omega
  · simp [h]; try omega

set_option maxRecDepth 100000 in
set_option maxHeartbeats 2000000 in
theorem wn_start_any (x : Wn) (s : St) (w : World) (hL : Lies w x s) : Calls Try.prog 20 #[Ww_.v x] w fun e w' => e = .returned (.int .i64 (bgn s)) ∧ Below w.heap.size w w' := by
  obtain ⟨w1, hw1⟩ : ∃ w1, w.alloc (.cells (Ww_.C x) 29) = w1 := ⟨_, rfl⟩
  have hb : Ww_.Box w1 w.heap.size x := hw1 ▸ Ww_.Box.new w x
  have B1 : Hid (Below w.heap.size w w1) := hw1 ▸ (Below.refl _ _).alloc (Nat.le_refl _) _
  have e1 := hb.all
  clear hb
  by_cases h0 : s.l.length = 0
  · have hn : x.n = 0 := hL.n.trans h0
    have hr : bgn s = x.nx := (startL_nil h0).trans hL.nx.symm
    rw [hr]
    clear hL hr h0
    go_enter Try.func20, Try.ntmps20
    go_wp2
    go_returns
    exact ⟨rfl, B1.out⟩
  · have h1 : 0 < s.l.length := by omega
    obtain ⟨b, off, hsa, hbl, k0, k1, k2, k3, k4⟩ := hL.sl.lies 0 h1
    have c1 := (B1.out.cell hbl).trans k1
    rw [Nat.zero_mul, Nat.add_zero] at c1
    have hn : ¬ x.n = 0 := by rw [hL.n]; exact h0
    have hr : bgn s = s.l[0].q := startL_cons h1
    have hle : x.n ≤ x.c := by rw [hL.n]; exact hL.sl.le
    rw [hr]
    generalize s.l[0] = h at *
    clear hL hr h0 k0 k1 k2 k3 k4 h1
    have hn1 : (0 : Int) < (x.n : Int) := by omega
    go_enter Try.func20, Try.ntmps20
    go_wp2
    go_returns
    exact ⟨rfl, B1.out⟩

set_option maxRecDepth 100000 in
set_option maxHeartbeats 2000000 in
theorem wn_used_any (x : Wn) (s : St) (w : World) (hL : Lies w x s) : Calls Try.prog 41 #[Ww_.v x] w fun e w' => e = .returned (.int .i64 (used s)) ∧ Below w.heap.size w w' := by
  obtain ⟨w1, hw1⟩ : ∃ w1, w.alloc (.cells (Ww_.C x) 29) = w1 := ⟨_, rfl⟩
  have hb : Ww_.Box w1 w.heap.size x := hw1 ▸ Ww_.Box.new w x
  have B1 : Hid (Below w.heap.size w w1) := hw1 ▸ (Below.refl _ _).alloc (Nat.le_refl _) _
  have S1 := Lib.hid (show Wst w w.heap.size x w1 from ⟨hb, B1.out⟩)
  have hr : used s = dist (bgn s) x.nx := by unfold used; rw [hL.nx]
  have CS : Hid (∀ W, Wst w w.heap.size x W → Calls Try.prog 20 #[Ww_.v x] W fun e w' => e = .returned (.int .i64 (bgn s)) ∧ Below W.heap.size W w') := fun W hW => wn_start_any x s W (hL.below hW.bel)
  have CD := Lib.hid (fun w => distance_any (bgn s) x.nx w)
  rw [hr]
  generalize bgn s = T at *
  generalize dist T x.nx = D at *
  have q0 : ∀ (q : Of (Wst w w.heap.size x)) (j : Nat), q.w.cell? ⟨w.heap.size, j, none⟩ = (Ww_.C x)[j]? := fun q j => q.ok.bx.all j
  have q1 : ∀ (q : Of (Wst w w.heap.size x)), (Ww_.LoadF ⟨w.heap.size, 0, none⟩).run Try.prog q.w = .ok (Ww_.v x) q.w := fun q => q.ok.bx.loadF
  have _ne : Nonempty (Of (Wst w w.heap.size x)) := ⟨⟨_, S1.out⟩⟩
  clear hb hL hr B1
  go_enter Try.func41, Try.ntmps41
  go_wp2_with fail
  refine wp_region_of (Wst w w.heap.size x) (by kernel_rfl) (Region.lexB_of_fast (by kernel_rfl)) S1.out.drew ?_
  repeat (go_big_quiet_step (first
    | (go_at_call 20; exact Calls.of_below Wst.keep (CS.out _ (Of.ok _)))
    | (go_at_call 51; exact Calls.of_same (CD.out _))))
  refine wpQuiet_nil ?_
  rintro _ ⟨q, rfl⟩
  have HB2 := Lib.hid q.ok.bel
  generalize q.w = w9 at *
  clear q0 q1
  go_wp2
  go_returns
  exact ⟨rfl, HB2.out⟩

theorem wid_pos (z : Int) : 1 ≤ wid z := by unfold wid; split <;> omega
theorem wid_le {z : Int} (h : (Lit.int .i64 z).wf = true) : wid z ≤ 9223372036854775807 := by
  have : z ≤ 9223372036854775807 := by
    simp [Lit.wf] at h
    exact h.2
  unfold wid; split <;> omega
theorem dist_in22 (s q : Int) : 0 ≤ dist s q ∧ dist s q < 4096 := md_in _

set_option maxRecDepth 100000 in
set_option maxHeartbeats 2000000 in
theorem wn_room_any (x : Wn) (s : St) (w : World) (hL : Lies w x s) (hz : wid s.sz ≤ 9223372036854775807) : Calls Try.prog 22 #[Ww_.v x] w fun e w' => e = .returned (.int .i64 (room s)) ∧ Below w.heap.size w w' := by
  obtain ⟨w1, hw1⟩ : ∃ w1, w.alloc (.cells (Ww_.C x) 29) = w1 := ⟨_, rfl⟩
  have hb : Ww_.Box w1 w.heap.size x := hw1 ▸ Ww_.Box.new w x
  have B1 : Hid (Below w.heap.size w w1) := hw1 ▸ (Below.refl _ _).alloc (Nat.le_refl _) _
  have S1 := Lib.hid (show Wst w w.heap.size x w1 from ⟨hb, B1.out⟩)
  have e1 := hb.all
  cases hq : s.rq
  · have hr : room s = wid s.sz - used s := by unfold room; rw [hq]; rfl
    have hx : x.rq = false := hL.rq.trans hq
    have CS : Hid (∀ W, Wst w w.heap.size x W → Calls Try.prog 41 #[Ww_.v x] W fun e w' => e = .returned (.int .i64 (used s)) ∧ Below W.heap.size W w') := fun W hW => wn_used_any x s W (hL.below hW.bel)
    have CW := Lib.hid (fun w => wn_width_any x w)
    have hsz := hL.sz
    rw [hsz] at CW
    have hw0 : wrap64 (wid s.sz - used s) = wid s.sz - used s := IntWalk.wrap64_in _ (by
      have h1 := wid_pos s.sz
      have h2 : 0 ≤ used s ∧ used s < 4096 := dist_in22 _ _
      omega)
    have HW0 := Lib.hid hw0
    rw [hr]
    generalize used s = U at *
    generalize wid s.sz = D at *
    have q0 : ∀ (q : Of (Wst w w.heap.size x)) (j : Nat), q.w.cell? ⟨w.heap.size, j, none⟩ = (Ww_.C x)[j]? := fun q j => q.ok.bx.all j
    have q1 : ∀ (q : Of (Wst w w.heap.size x)), (Ww_.LoadF ⟨w.heap.size, 0, none⟩).run Try.prog q.w = .ok (Ww_.v x) q.w := fun q => q.ok.bx.loadF
    have _ne : Nonempty (Of (Wst w w.heap.size x)) := ⟨⟨_, S1.out⟩⟩
    clear hb hL hr B1 hw0 hz hsz
    go_enter Try.func22, Try.ntmps22
    go_wp2_with fail
    refine wp_region_of (Wst w w.heap.size x) (by kernel_rfl) (Region.lexB_of_fast (by kernel_rfl)) S1.out.drew ?_
    repeat (go_big_quiet_step (first
      | (go_at_call 42; exact Calls.of_below Wst.keep (CW.out _))
      | (go_at_call 41; exact Calls.of_below Wst.keep (CS.out _ (Of.ok _)))))
    refine wpQuiet_nil ?_
    rintro _ ⟨q, rfl⟩
    have HB2 := Lib.hid q.ok.bel
    generalize q.w = w9 at *
    clear q0 q1
    go_wp2
    go_returns
    exact ⟨by rw [HW0.out]; rfl, HB2.out⟩
  · have hr : room s = 0 := by unfold room; rw [hq]; rfl
    have hx : x.rq = true := hL.rq.trans hq
    rw [hr]
    clear hb hL hr
    go_enter Try.func22, Try.ntmps22
    go_wp2
    go_returns
    exact ⟨rfl, B1.out⟩

set_option maxRecDepth 100000 in
set_option maxHeartbeats 2000000 in
theorem wn_new_any (n : Int) (w : World) : Calls Try.prog 15 #[.int .i64 n] w fun e w' => e = .returned (Ww_.v ⟨md n, 0, none, 0, 0, false⟩) ∧ Below w.heap.size w w' := by
  obtain ⟨w1, hw1⟩ : ∃ w1, w.alloc (.cells (Ww_.C zw) 29) = w1 := ⟨_, rfl⟩
  have hw1' : w.alloc (.cells #[.int .i64 0, .int .i64 0, .slice none 0 0, .bool false] 29) = w1 := hw1
  have hb : Ww_.Box w1 w.heap.size zw := hw1 ▸ Ww_.Box.new w zw
  have B1 : Hid (Below w.heap.size w w1) := hw1 ▸ (Below.refl _ _).alloc (Nat.le_refl _) _
  have st : (Ww_.StoreF ⟨w.heap.size, 0, none⟩ (.agg #[.int .i64 (md n), .int .i64 0, .slice none 0 0, .bool false])).run Try.prog w1 = .ok () (w1.setRow w.heap.size (Ww_.C ⟨md n, 0, none, 0, 0, false⟩)) := hb.storeF ⟨md n, 0, none, 0, 0, false⟩
  have X2 := Lib.hid (hb.setRow ⟨md n, 0, none, 0, 0, false⟩)
  have CA := Lib.hid (fun w => add_any n 0 w)
  rw [show add n 0 = md n by unfold add; rw [Int.add_zero]] at CA
  clear hb hw1
  generalize md n = M at *
  go_enter Try.func15, Try.ntmps15
  go_wp2_with (go_at_call 45; refine (CA.out _).mono ?_; rintro e w' ⟨rfl, rfl⟩)
  exact ret_wn1 Try.results15 rfl X2.out rfl ⟨rfl, below_row22 B1.out (Nat.le_refl _) _⟩
end Go.Proofs.Ytldeflpaghbmmaa
