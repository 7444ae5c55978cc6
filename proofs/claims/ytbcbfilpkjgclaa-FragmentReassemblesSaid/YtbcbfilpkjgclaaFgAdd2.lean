/-
  WALKS of package fragment: continues, proceed, Add.
-/
import Derived.Test.YtbcbfilpkjgclaaFgAdd
namespace Go.Proofs.Ytbcbfilpkjgclaa
open Go.RowKit Go.Fg
attribute [local go_sem ↓ high] Pw_.loadF Pw_.storeF Pw_.v_cells Pw_.v_match Xw_.loadF Xw_.v_cells Xw_.v_match
attribute [local go_sem] Pw_.C0 Pw_.C1 Pw_.C2 Pw_.C3 Xw_.C0 Xw_.C1 Xw_.C2 Xw_.C3 Xw_.C4 Pw_.loadF_new Xw_.loadF_new

theorem cont_t {b : Bool} {q n q' f : Int} {m r : Bool} {s u : ByteArray} (h1 : b = true) (h2 : q = q') (h3 : n = f) (h4 : s.size + u.size ≤ 2048) : cont ⟨b, q, n, s⟩ ⟨q', f, m, r, u⟩ = true := cont_iff.2 ⟨h1, h2, h3, h4⟩
theorem cont_f {b : Bool} {q n q' f : Int} {m r : Bool} {s u : ByteArray} (h : b = false ∨ ¬ q = q' ∨ ¬ n = f ∨ ¬ s.size + u.size ≤ 2048) : cont ⟨b, q, n, s⟩ ⟨q', f, m, r, u⟩ = false := by
  refine Bool.eq_false_iff.2 fun hh => ?_
  obtain ⟨h1, h2, h3, h4⟩ := cont_iff.1 hh
  rcases h with h | h | h | h
  · have h1 : b = true := h1
    rw [h] at h1; cases h1
  · exact h h2
  · exact h h3
  · exact h h4
theorem sum_sz {s u : ByteArray} (hs : s.size ≤ 5000) (hu : u.size ≤ 5000) : wrap64 ((s.size : Int) + (u.size : Int)) = ((s.size + u.size : Nat) : Int) := by
  rw [IntWalk.wrap64_in _ (by omega)]; rfl

set_option maxRecDepth 100000 in
set_option maxHeartbeats 2000000 in
theorem fgCont_any (b : Bool) (pq n : Int) (ps : ByteArray) (q f : Int) (m r : Bool) (s : ByteArray) (w : World) (hps : ps.size ≤ 5000) (hs : s.size ≤ 5000) :
    Calls Try.prog 21 #[.agg #[.bool b, .int .i64 pq, .int .i64 n, .string ps], .agg #[.int .i64 q, .int .i64 f, .bool m, .bool r, .string s]] w fun e w' => e = .returned (.bool (cont ⟨b, pq, n, ps⟩ ⟨q, f, m, r, s⟩)) ∧ Below w.heap.size w w' := by
  have HT := Lib.hid (@cont_t b pq n q f m r ps s)
  have HF := Lib.hid (@cont_f b pq n q f m r ps s)
  have hw := sum_sz hps hs
  have HB : Hid (Below w.heap.size w ((w.alloc (.cells #[.bool b, .int .i64 pq, .int .i64 n, .string ps] 29)).alloc (.cells #[.int .i64 q, .int .i64 f, .bool m, .bool r, .string s] 31))) := ((Below.refl _ _).alloc (Nat.le_refl _) _).alloc (by simp) _
  clear hps hs
  cases b
  case' true => by_cases h1 : pq = q
  case' pos => by_cases h2 : n = f
  case' pos => by_cases h3 : ps.size + s.size ≤ 2048
  all_goals
    first
      | (have HR := Lib.hid (HT.out rfl h1 h2 h3))
      | (have HR := Lib.hid (HF.out (.inl rfl)))
      | (have HR := Lib.hid (HF.out (.inr (.inl h1))))
      | (have HR := Lib.hid (HF.out (.inr (.inr (.inl h2)))))
      | (have HR := Lib.hid (HF.out (.inr (.inr (.inr h3)))))
    generalize cont _ _ = R at *
    clear HT HF
    first
      | (have d1 : (pq == q) = true := by rw [beq_iff_eq]; exact h1)
      | (have d1 : (pq == q) = false := by rw [beq_eq_false_iff_ne]; exact h1)
      | skip
    first | clear h1 | skip
    first
      | (have d2 : (n == f) = true := by rw [beq_iff_eq]; exact h2)
      | (have d2 : (n == f) = false := by rw [beq_eq_false_iff_ne]; exact h2)
      | skip
    first | clear h2 | skip
    first
      | (have d3 : decide (((ps.size + s.size : Nat) : Int) ≤ 2048) = true := decide_eq_true (by omega))
      | (have d3 : decide (((ps.size + s.size : Nat) : Int) ≤ 2048) = false := decide_eq_false (by omega))
      | skip
    first
      | (have D3 : Hid (decide ((ps.size : Int) + (s.size : Int) ≤ 2048) = true) := decide_eq_true (by omega))
      | (have D3 : Hid (decide ((ps.size : Int) + (s.size : Int) ≤ 2048) = false) := decide_eq_false (by omega))
      | skip
    first | clear h3 | skip
    obtain rfl := HR.out
    go_enter Try.func21, Try.ntmps21
    go_wp2
    go_returns
    refine ⟨?_, HB.out⟩
    first
      | rfl
      | exact congrArg (fun z => Ending.returned (.bool z)) D3.out

/-- A state, a number and a string handed back out of a result's cell. -/
theorem ret_pt {fn : Func} {p q r : Tmp} (hr : fn.results = #[.cell p 29, .tmp q, .tmp r]) {tmps : Array Value} {ds : _} {w : World} {g : Nat} {y : Pt} {vq vr : Value} {R : Ending → World → Prop} (hp : tmps.getD p undef = .pointer (some ⟨g, 0, none⟩)) (hq : tmps.getD q undef = vq) (hr' : tmps.getD r undef = vr) (hb : Pw_.Box w g y) (hd : ds = []) (hR : R (.returned (.tuple #[Pw_.v y, vq, vr])) w) :
    bodyPost Try.prog fn R .ret ⟨tmps, ds⟩ w := by
  refine bodyPost_ret (v := .tuple #[Pw_.v y, vq, vr]) ?_ hd hR
  have hp' : tmps[p]?.getD undef = .pointer (some ⟨g, 0, none⟩) := by simpa using hp
  have hq' : tmps[q]?.getD undef = vq := by simpa using hq
  have hr'' : tmps[r]?.getD undef = vr := by simpa using hr'
  have hl := run_loadVar_row w g 29 29 (Pw_.C y) (0, 0) _ hb Try.underlying29 rfl Pw_.sz
  simp [results, hr, hp', hq', hr'', asAddr, hl]
  rfl
theorem below_setRow18 {w wi : World} {r : Nat} (hb : Below w.heap.size w wi) (hr : w.heap.size ≤ r) (c : Array Value) : Below w.heap.size w (wi.setRow r c) :=
  ⟨hb.os, hb.tape, hb.output, by have := hb.size; simpa [World.setRow] using this, fun k hk => (Pw_.setRow_other (by omega) c).trans (hb.block k hk)⟩

/-- The part in its cell, the result's cell as it was made. -/
structure Ast (w : World) (x : Xr) (wi : World) : Prop where
  bx : Xw_.Box wi w.heap.size x
  rs : Pw_.Box wi (w.heap.size + 1) zp
  bel : Below w.heap.size w wi
theorem Ast.new {w w1 : World} {x : Xr} (h : w.alloc (.cells (Xw_.C x) 31) = w1) : Ast w x (w1.alloc (.cells (Pw_.C zp) 29)) := by
  subst h
  refine ⟨(Xw_.Box.new w x).allocC _, ?_, ((Below.refl _ _).alloc (Nat.le_refl _) _).alloc (by simp) _⟩
  have := Pw_.Box.new (w.alloc (.cells (Xw_.C x) 31)) zp
  rwa [show (w.alloc (.cells (Xw_.C x) 31)).heap.size = w.heap.size + 1 by simp] at this
theorem Ast.fin {w wi : World} {x : Xr} (h : Ast w x wi) (y : Pt) : Below w.heap.size w (wi.setRow (w.heap.size + 1) (Pw_.C y)) := below_setRow18 h.bel (Nat.le_succ _) _

set_option maxRecDepth 100000 in
set_option maxHeartbeats 4000000 in
theorem fgProc_any (d : ByteArray) (x : Xr) (w : World) (hf : 0 ≤ x.f ∧ x.f ≤ 15) (hd : d.size ≤ 5000) (hs : x.s.size ≤ 5000) :
    Calls Try.prog 20 #[.string d, Xw_.v x] w fun e w' => e = .returned (.tuple #[Pw_.v (prS (d ++ x.s) x), .int .i64 (prC x), .string (prD (d ++ x.s) x)]) ∧ Below w.heap.size w w' := by
  obtain ⟨w1, hw1⟩ : ∃ w1, w.alloc (.cells (Xw_.C x) 31) = w1 := ⟨_, rfl⟩
  obtain ⟨w2, hw2⟩ : ∃ w2, w1.alloc (.cells (Pw_.C zp) 29) = w2 := ⟨_, rfl⟩
  have hw2' : w1.alloc (.cells #[.bool false, .int .i64 0, .int .i64 0, .string ⟨#[]⟩] 29) = w2 := hw2
  have hz1 : w1.heap.size = w.heap.size + 1 := by rw [← hw1]; simp
  have S2 := Lib.hid (show Ast w x w2 from hw2 ▸ Ast.new hw1)
  have e1 := S2.out.bx.all
  have hsum : ¬ 9223372036854775807 < d.size + x.s.size := by omega
  have hw : wrap64 (x.f + 1) = x.f + 1 := IntWalk.wrap64_in _ (by omega)
  cases hm : x.m
  · obtain ⟨r1, r2, r3⟩ := pr_last (x := x) (d ++ x.s) (by rw [hm]; decide)
    rw [r1, r2, r3]
    have sf : (Pw_.StoreF ⟨w.heap.size + 1, 0, none⟩ (.agg #[.bool false, .int .i64 0, .int .i64 0, .string ⟨#[]⟩])).run Try.prog w2 = .ok () (w2.setRow (w.heap.size + 1) (Pw_.C zp)) := S2.out.rs.storeF zp
    have c2 := Xw_.C2 x
    rw [hm] at c2
    clear r1 r2 r3 hf hd hs
    go_enter Try.func20, Try.ntmps20
    go_wp2
    exact ret_pt Try.results20 rfl rfl rfl (S2.out.rs.setRow zp) rfl ⟨rfl, S2.out.fin zp⟩
  · obtain ⟨r1, r2, r3⟩ := pr_more (x := x) (d ++ x.s) hm
    rw [r1, r2, r3]
    have sf : (Pw_.StoreF ⟨w.heap.size + 1, 0, none⟩ (.agg #[.bool true, .int .i64 x.q, .int .i64 (x.f + 1), .string (d ++ x.s)])).run Try.prog w2 = .ok () (w2.setRow (w.heap.size + 1) (Pw_.C ⟨true, x.q, x.f + 1, d ++ x.s⟩)) := S2.out.rs.storeF ⟨true, x.q, x.f + 1, d ++ x.s⟩
    have c2 := Xw_.C2 x
    rw [hm] at c2
    clear r1 r2 r3 hf hd hs
    go_enter Try.func20, Try.ntmps20
    go_wp2
    exact ret_pt Try.results20 rfl rfl rfl (S2.out.rs.setRow ⟨true, x.q, x.f + 1, d ++ x.s⟩) rfl ⟨rfl, S2.out.fin ⟨true, x.q, x.f + 1, d ++ x.s⟩⟩

/-- The state, the part, the result's cell. -/
structure Bst (w : World) (p : Pt) (x : Xr) (wi : World) : Prop where
  bp : Pw_.Box wi w.heap.size p
  bx : Xw_.Box wi (w.heap.size + 1) x
  rs : Pw_.Box wi (w.heap.size + 2) zp
  bel : Below w.heap.size w wi
theorem Bst.new {w w1 w2 w3 : World} {p : Pt} {x : Xr} (h1 : w.alloc (.cells (Pw_.C p) 29) = w1) (h2 : w1.alloc (.cells (Xw_.C x) 31) = w2) (h3 : w2.alloc (.cells (Pw_.C zp) 29) = w3) : Bst w p x w3 := by
  subst h1; subst h2; subst h3
  refine ⟨((Pw_.Box.new w p).allocC _).allocC _, ?_, ?_, (((Below.refl _ _).alloc (Nat.le_refl _) _).alloc (by simp) _).alloc (by simp; omega) _⟩
  · have := Xw_.Box.new (w.alloc (.cells (Pw_.C p) 29)) x
    rw [show (w.alloc (.cells (Pw_.C p) 29)).heap.size = w.heap.size + 1 by simp] at this
    exact this.allocC _
  · have := Pw_.Box.new ((w.alloc (.cells (Pw_.C p) 29)).alloc (.cells (Xw_.C x) 31)) zp
    rwa [show ((w.alloc (.cells (Pw_.C p) 29)).alloc (.cells (Xw_.C x) 31)).heap.size = w.heap.size + 2 by simp] at this
theorem Bst.keep {w wi w' : World} {p : Pt} {x : Xr} (h : Bst w p x wi) (hb : Below wi.heap.size wi w') : Bst w p x w' :=
  ⟨h.bp.below hb h.bp.lt, h.bx.below hb h.bx.lt, h.rs.below hb h.rs.lt, h.bel.trans (hb.mono h.bel.size)⟩
theorem Bst.fin {w wi : World} {p : Pt} {x : Xr} (h : Bst w p x wi) (y : Pt) : Below w.heap.size w (wi.setRow (w.heap.size + 2) (Pw_.C y)) := below_setRow18 h.bel (by omega) _

/-- What Add hands back. -/
def AdPost (p : Pt) (x : Xr) (w : World) (e : Ending) (w' : World) : Prop := e = .returned (.tuple #[Pw_.v (adS p x), .int .i64 (adC p x), .string (adD p x)]) ∧ Below w.heap.size w w'

set_option maxRecDepth 100000 in
set_option maxHeartbeats 4000000 in
theorem fgAdd_any (p : Pt) (x : Xr) (w : World) (hp : p.s.size ≤ 5000) (hs : x.s.size ≤ 5000) :
    Calls Try.prog 13 #[Pw_.v p, Xw_.v x] w fun e w' => AdPost p x w e w' := by
  unfold AdPost
  obtain ⟨w1, hw1⟩ : ∃ w1, w.alloc (.cells (Pw_.C p) 29) = w1 := ⟨_, rfl⟩
  obtain ⟨w2, hw2⟩ : ∃ w2, w1.alloc (.cells (Xw_.C x) 31) = w2 := ⟨_, rfl⟩
  obtain ⟨w3, hw3⟩ : ∃ w3, w2.alloc (.cells (Pw_.C zp) 29) = w3 := ⟨_, rfl⟩
  have hw3' : w2.alloc (.cells #[.bool false, .int .i64 0, .int .i64 0, .string ⟨#[]⟩] 29) = w3 := hw3
  have hz1 : w1.heap.size = w.heap.size + 1 := by rw [← hw1]; simp
  have hz2 : w2.heap.size = w.heap.size + 2 := by rw [← hw2]; simp [hz1]
  have S3 := Lib.hid (Bst.new hw1 hw2 hw3)
  have lx := S3.out.bx.loadF
  have lp := S3.out.bp.loadF
  have ex := S3.out.bx.all
  have HK : Hid (∀ wi w', Bst w p x wi → Below wi.heap.size wi w' → Bst w p x w') := fun wi w' h hb => h.keep hb
  have C1 : Hid (∀ w, Calls Try.prog 19 #[Xw_.v x] w fun e w' => e = .returned (.bool (poss x)) ∧ Below w.heap.size w w') := fun w => fgPoss_any x.q x.f x.m x.r x.s w
  have C2 : Hid (∀ w, Calls Try.prog 21 #[Pw_.v p, Xw_.v x] w fun e w' => e = .returned (.bool (cont p x)) ∧ Below w.heap.size w w') := fun w => fgCont_any p.b p.q p.n p.s x.q x.f x.m x.r x.s w hp hs
  cases hpo : poss x
  · obtain ⟨a1, a2, a3⟩ := ad_0 (kd_no (p := p) (x := x) (by rw [hpo]; decide))
    rw [a1, a2, a3]
    rw [hpo] at C1
    clear hpo a1 a2 a3 hp hs C2
    go_enter Try.func13, Try.ntmps13
    go_wp2_with (go_at_call 19; refine (C1.out _).mono ?_; rintro e w4 ⟨rfl, hb⟩; have S4 := Lib.hid (HK.out _ _ S3.out hb); have lp4 := S4.out.bp.loadF; have sf := S4.out.rs.storeF p; clear hb)
    exact ret_pt Try.results13 rfl rfl rfl (S4.out.rs.setRow p) rfl ⟨rfl, S4.out.fin p⟩
  obtain ⟨-, -, h0, h15, -⟩ := poss_iff.1 hpo
  rw [hpo] at C1
  by_cases hf : x.f = 0
  · obtain ⟨a1, a2, a3⟩ := ad_1 (kd_first (p := p) hpo hf)
    rw [a1, a2, a3]
    have C3 : Hid (∀ w, Calls Try.prog 20 #[.string ⟨#[]⟩, Xw_.v x] w fun e w' => e = .returned (.tuple #[Pw_.v (prS x.s x), .int .i64 (prC x), .string (prD x.s x)]) ∧ Below w.heap.size w w') := fun w => by
      have := fgProc_any ⟨#[]⟩ x w ⟨h0, h15⟩ (by decide) hs
      rwa [empty_app] at this
    have c1 : (Xw_.C x)[1]? = some (.int .i64 0) := by rw [Xw_.C1, hf]
    generalize prS x.s x = y at *
    generalize prC x = c at *
    generalize prD x.s x = d at *
    clear hpo a1 a2 a3 hp hs C2 h0 h15
    go_enter Try.func13, Try.ntmps13
    go_wp2_with (first
      | (go_at_call 19; refine (C1.out _).mono ?_; rintro e w4 ⟨rfl, hb⟩; have S4 := Lib.hid (HK.out _ _ S3.out hb); have lx4 := S4.out.bx.loadF; have ex4 := S4.out.bx.all; clear hb)
      | (go_at_call 20; refine (C3.out _).mono ?_; rintro e w5 ⟨rfl, hb⟩; have S5 := Lib.hid (HK.out _ _ S4.out hb); have sf := S5.out.rs.storeF y; clear hb))
    exact ret_pt Try.results13 rfl rfl rfl (S5.out.rs.setRow y) rfl ⟨rfl, S5.out.fin y⟩
  have hf' : (x.f == 0) = false := by rw [beq_eq_false_iff_ne]; exact hf
  cases hco : cont p x
  · obtain ⟨a1, a2, a3⟩ := ad_0 (kd_other (p := p) (x := x) hf (by rw [hco]; decide))
    rw [a1, a2, a3]
    rw [hco] at C2
    clear hpo a1 a2 a3 hp hs h0 h15 hf hco
    go_enter Try.func13, Try.ntmps13
    go_wp2_with (first
      | (go_at_call 19; refine (C1.out _).mono ?_; rintro e w4 ⟨rfl, hb⟩; have S4 := Lib.hid (HK.out _ _ S3.out hb); have lx4 := S4.out.bx.loadF; have ex4 := S4.out.bx.all; have lp4 := S4.out.bp.loadF; clear hb)
      | (go_at_call 21; refine (C2.out _).mono ?_; rintro e w5 ⟨rfl, hb⟩; have S5 := Lib.hid (HK.out _ _ S4.out hb); have lp5 := S5.out.bp.loadF; have sf := S5.out.rs.storeF p; clear hb))
    exact ret_pt Try.results13 rfl rfl rfl (S5.out.rs.setRow p) rfl ⟨rfl, S5.out.fin p⟩
  · obtain ⟨a1, a2, a3⟩ := ad_2 (kd_next (p := p) hpo hf hco)
    rw [a1, a2, a3]
    rw [hco] at C2
    have C3 := Lib.hid fun w => fgProc_any p.s x w ⟨h0, h15⟩ hp hs
    generalize prS (p.s ++ x.s) x = y at *
    generalize prC x = c at *
    generalize prD (p.s ++ x.s) x = d at *
    clear hpo a1 a2 a3 hp hs h0 h15 hf hco
    go_enter Try.func13, Try.ntmps13
    go_wp2_with (first
      | (go_at_call 19; refine (C1.out _).mono ?_; rintro e w4 ⟨rfl, hb⟩; have S4 := Lib.hid (HK.out _ _ S3.out hb); have lx4 := S4.out.bx.loadF; have ex4 := S4.out.bx.all; have lp4 := S4.out.bp.loadF; clear hb)
      | (go_at_call 21; refine (C2.out _).mono ?_; rintro e w5 ⟨rfl, hb⟩; have S5 := Lib.hid (HK.out _ _ S4.out hb); have lx5 := S5.out.bx.loadF; have ep5 := S5.out.bp.all; clear hb)
      | (go_at_call 20; refine (C3.out _).mono ?_; rintro e w6 ⟨rfl, hb⟩; have S6 := Lib.hid (HK.out _ _ S5.out hb); have sf := S6.out.rs.storeF y; clear hb))
    exact ret_pt Try.results13 rfl rfl rfl (S6.out.rs.setRow y) rfl ⟨rfl, S6.out.fin y⟩
end Go.Proofs.Ytbcbfilpkjgclaa
