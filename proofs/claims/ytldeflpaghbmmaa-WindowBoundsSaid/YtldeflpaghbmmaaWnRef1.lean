/-
  WALKS of the reference of layer 22: Mod, Distance, in, Start, Room, with, bit, among, trim.
-/
import Derived.Test.YtldeflpaghbmmaaWnAck
import Derived.Test.YtldeflpaghbmmaaWnV
import Derived.Test.YtldeflpaghbmmaaSqRef
import Derived.Deep.DeepCutAuto
import Derived.Deep.RegionWith
import Derived.BigRegion
namespace Go.Proofs.Ytldeflpaghbmmaa
open Go.RowKit Go.Wn Go.Sq Go.Wr
attribute [local go_sem ↓ high] Wv_.loadF Wv_.storeF Wv_.v_cells Wv_.v_match
attribute [local go_sem] Wv_.C0 Wv_.C1 Wv_.C2 Wv_.C3 Wv_.loadF_new Wv_.storeF_zero Oper.semAt_some

set_option maxHeartbeats 400000 in
theorem r22_mod_any (n : Int) (w : World) :
    Calls Try.prog 16 #[.int .i64 n] w fun e w' => e = .returned (.int .i64 (md n)) ∧ w = w' := by
  have hb : -4096 < n.tmod 4096 ∧ n.tmod 4096 < 4096 := ⟨Int.lt_tmod_of_pos n (by decide), Int.tmod_lt_of_pos n (by decide)⟩
  have he : (wrap64 (n.tmod 4096 + 4096)).tmod 4096 = md n := by
    rw [IntWalk.wrap64_in _ (by omega), Int.tmod_eq_emod_of_nonneg (by omega)]
    unfold md
    have := Int.tmod_add_mul_tdiv n 4096
    omega
  have HE := Lib.hid he
  clear he hb
  go_enter Try.func16, Try.ntmps16
  go_wp2
  go_returns
  exact ⟨by rw [← HE.out]; rfl, rfl⟩

set_option maxHeartbeats 1000000 in
theorem r22_dist_any (a b : Int) (w : World) :
    Calls Try.prog 37 #[.int .i64 a, .int .i64 b] w fun e w' => e = .returned (.int .i64 (dist a b)) ∧ w = w' := by
  have C1 := Lib.hid (fun w => r22_mod_any b w)
  have C2 := Lib.hid (fun w => r22_mod_any a w)
  have h1 : 0 ≤ md a ∧ md a < 4096 := md_in a
  have h2 : 0 ≤ md b ∧ md b < 4096 := md_in b
  have hw : IntKind.i64.wrap (md b - md a) = md b - md a := IntWalk.i64_in _ (by omega)
  have C3 : Hid (∀ w, Calls Try.prog 16 #[.int .i64 (md b - md a)] w fun e w' => e = .returned (.int .i64 (dist a b)) ∧ w = w') := fun w => by
    have h := r22_mod_any (md b - md a) w
    rw [show md (md b - md a) = dist a b by unfold dist md; omega] at h; exact h
  generalize md a = x at *
  generalize md b = y at *
  generalize dist a b = c at *
  go_enter Try.func37, Try.ntmps37
  go_wp2_with (first
    | (go_at_call 16; with_reducible refine (C1.out _).mono ?_; rintro e w' ⟨rfl, rfl⟩)
    | (go_at_call 16; with_reducible refine (C2.out _).mono ?_; rintro e w' ⟨rfl, rfl⟩)
    | (go_at_call 16; with_reducible refine (C3.out _).mono ?_; rintro e w' ⟨rfl, rfl⟩))
  go_returns
  exact ⟨rfl, rfl⟩

set_option maxHeartbeats 1000000 in
theorem r22_in_any (n : Int) (w : World) :
    Calls Try.prog 43 #[.int .i64 n] w fun e w' => e = .returned (.bool (vl n)) ∧ w = w' := by
  have hy : (0 ≤ n ∧ n < 4096) → vl n = true := fun h => decide_eq_true h
  have hn : ¬ (0 ≤ n ∧ n < 4096) → vl n = false := fun h => decide_eq_false h
  generalize vl n = v at *
  by_cases h1 : 0 ≤ n
  · by_cases h2 : n ≤ 4095
    · obtain rfl := hy ⟨h1, by omega⟩
      clear hy hn
      go_enter Try.func43, Try.ntmps43
      go_wp2
      go_returns
      exact ⟨by simp [*], rfl⟩
    · obtain rfl := hn (fun h => by omega)
      clear hy hn
      go_enter Try.func43, Try.ntmps43
      go_wp2
      go_returns
      exact ⟨by simp [*], rfl⟩
  · obtain rfl := hn (fun h => by omega)
    clear hy hn
    go_enter Try.func43, Try.ntmps43
    go_wp2
    go_returns
    exact ⟨by simp [*], rfl⟩

set_option maxRecDepth 100000 in
set_option maxHeartbeats 2000000 in
theorem r22_start_any (x : Wn) (s : St) (w : World) (hL : Lies w x s) : Calls Try.prog 21 #[Wv_.v x] w fun e w' => e = .returned (.int .i64 (bgn s)) ∧ Below w.heap.size w w' := by
  obtain ⟨w1, hw1⟩ : ∃ w1, w.alloc (.cells (Wv_.C x) 24) = w1 := ⟨_, rfl⟩
  have hb : Wv_.Box w1 w.heap.size x := hw1 ▸ Wv_.Box.new w x
  have B1 : Hid (Below w.heap.size w w1) := hw1 ▸ (Below.refl _ _).alloc (Nat.le_refl _) _
  have e1 := hb.all
  clear hb
  by_cases h0 : s.l.length = 0
  · have hn : x.n = 0 := hL.n.trans h0
    have hr : bgn s = x.nx := (startL_nil h0).trans hL.nx.symm
    rw [hr]
    clear hL hr h0
    go_enter Try.func21, Try.ntmps21
    go_wp2
    go_returns
    exact ⟨rfl, B1.out⟩
  · have h1 : 0 < s.l.length := by omega
    obtain ⟨b, off, hsa, hbl, k0, k1, k2, k3, k4⟩ := hL.sl.lies 0 h1
    have c1 := (B1.out.cell hbl).trans k1
    rw [Nat.zero_mul, Nat.add_zero] at c1
    have hn : ¬ x.n = 0 := by rw [hL.n]; exact h0
    have hr : bgn s = s.l[0].q := startL_cons h1
    have hle : x.n ≤ x.c := by rw [hL.n]; exact hL.sl.le
    rw [hr]
    generalize s.l[0] = h at *
    clear hL hr h0 k0 k1 k2 k3 k4 h1
    have hn1 : (0 : Int) < (x.n : Int) := by omega
    go_enter Try.func21, Try.ntmps21
    go_wp2
    go_returns
    exact ⟨rfl, B1.out⟩

/-- A state of the reference in its cell. -/
structure Vst (w : World) (b : Nat) (x : Wn) (wi : World) : Prop where
  bx : Wv_.Box wi b x
  bel : Below w.heap.size w wi
theorem Vst.keep {w : World} {b : Nat} {x : Wn} (wi wj : World) (h : Vst w b x wi) (hb : Below wi.heap.size wi wj) : Vst w b x wj := ⟨h.bx.below hb h.bx.lt, h.bel.trans (hb.mono h.bel.size)⟩
theorem Vst.drew {w : World} {b : Nat} {x : Wn} {wi : World} (h : Vst w b x wi) : Vst w b x wi.drew := h.keep _ _ ⟨rfl, rfl, rfl, Nat.le_refl _, fun _ _ => rfl⟩

set_option maxRecDepth 100000 in
set_option maxHeartbeats 4000000 in
theorem r22_room_any (x : Wn) (s : St) (w : World) (hL : Lies w x s) (hz : wid s.sz ≤ 9223372036854775807) : Calls Try.prog 23 #[Wv_.v x] w fun e w' => e = .returned (.int .i64 (room s)) ∧ Below w.heap.size w w' := by
  obtain ⟨w1, hw1⟩ : ∃ w1, w.alloc (.cells (Wv_.C x) 24) = w1 := ⟨_, rfl⟩
  have hb : Wv_.Box w1 w.heap.size x := hw1 ▸ Wv_.Box.new w x
  have B1 : Hid (Below w.heap.size w w1) := hw1 ▸ (Below.refl _ _).alloc (Nat.le_refl _) _
  have S1 := Lib.hid (show Vst w w.heap.size x w1 from ⟨hb, B1.out⟩)
  have e1 := hb.all
  cases hq : s.rq
  · have hr : room s = wid s.sz - used s := by unfold room; rw [hq]; rfl
    have hx : x.rq = false := hL.rq.trans hq
    have CS : Hid (∀ W, Vst w w.heap.size x W → Calls Try.prog 21 #[Wv_.v x] W fun e w' => e = .returned (.int .i64 (bgn s)) ∧ Below W.heap.size W w') := fun W hW => r22_start_any x s W (hL.below hW.bel)
    have CD := Lib.hid (fun w => r22_dist_any (bgn s) x.nx w)
    have hsz := hL.sz
    have hu : dist (bgn s) x.nx = used s := by unfold used; rw [hL.nx]
    have hwd : max x.sz 1 = wid s.sz := by unfold wid; rw [hsz]; split <;> omega
    have hw0 : wrap64 (wid s.sz - used s) = wid s.sz - used s := IntWalk.wrap64_in _ (by
      have h1 := wid_pos s.sz
      have h2 : 0 ≤ used s ∧ used s < 4096 := dist_in22 _ _
      omega)
    have HW0 := Lib.hid hw0
    have HWD := Lib.hid hwd
    rw [hu] at CD
    rw [hr]
    have q0 : ∀ (q : Of (Vst w w.heap.size x)) (j : Nat), q.w.cell? ⟨w.heap.size, j, none⟩ = (Wv_.C x)[j]? := fun q j => q.ok.bx.all j
    have q1 : ∀ (q : Of (Vst w w.heap.size x)), (Wv_.LoadF ⟨w.heap.size, 0, none⟩).run Try.prog q.w = .ok (Wv_.v x) q.w := fun q => q.ok.bx.loadF
    have _ne : Nonempty (Of (Vst w w.heap.size x)) := ⟨⟨_, S1.out⟩⟩
    clear hb hL hr B1 hw0 hz hsz hu hwd
    generalize used s = U at *
    go_enter Try.func23, Try.ntmps23
    go_wp2_with fail
    refine wp_region_of (Vst w w.heap.size x) (by kernel_rfl) (Region.lexB_of_fast (by kernel_rfl)) S1.out.drew ?_
    repeat (go_big_quiet_step (first
      | (go_at_call 21; exact Calls.of_below Vst.keep (CS.out _ (Of.ok _)))
      | (go_at_call 37; exact Calls.of_same (CD.out _))))
    refine wpQuiet_nil ?_
    rintro _ ⟨q, rfl⟩
    have HB2 := Lib.hid q.ok.bel
    generalize q.w = w9 at *
    clear q0 q1
    go_wp2
    go_returns
    exact ⟨by rw [HWD.out, HW0.out]; rfl, HB2.out⟩
  · have hr : room s = 0 := by unfold room; rw [hq]; rfl
    have hx : x.rq = true := hL.rq.trans hq
    rw [hr]
    clear hb hL hr
    go_enter Try.func23, Try.ntmps23
    go_wp2
    go_returns
    exact ⟨rfl, B1.out⟩
end Go.Proofs.Ytldeflpaghbmmaa
