/-
  THE WALK of the examples of law 23.
-/
import Derived.Test.YtaljdjabppiglaaQuRefP
import Derived.Test.YtaljdjabppiglaaQuHead
namespace Go.Proofs.Ytaljdjabppiglaa
open Go.RowKit Go.Qu Go.Wr Go.Ad
attribute [local go_sem] Oper.semAt_some

def itm (id a : Int) : It := ⟨id, 0, a, 2199023255553, ⟨#[]⟩, 10, 5⟩
def la : Int := 2199023255554
def lb : Int := 2199023255555
def L3 : List It := [itm 1 la, itm 2 lb, itm 3 lb]
def L4 : List It := [itm 1 la, itm 2 lb, itm 3 lb, itm 4 la]
theorem itm_wf (id a : Int) (h : 0 ≤ a ∧ a < 18446744073709551616) : Wf (itm id a) := ⟨h.1, h.2, show (0 : Int) ≤ 2199023255553 by decide, show (2199023255553 : Int) < 18446744073709551616 by decide, show (-9223372036854775808 : Int) ≤ 10 by decide, show (10 : Int) ≤ 9223372036854775807 by decide, show (-9223372036854775808 : Int) ≤ 5 by decide, show (5 : Int) ≤ 9223372036854775807 by decide⟩
theorem L3_wf : ∀ p ∈ L3, Wf p := by
  intro p hp
  rcases List.mem_cons.1 hp with rfl | hp
  · exact itm_wf _ _ (by decide)
  · rcases List.mem_cons.1 hp with rfl | hp
    · exact itm_wf _ _ (by decide)
    · rcases List.mem_cons.1 hp with rfl | hp
      · exact itm_wf _ _ (by decide)
      · exact absurd hp List.not_mem_nil
theorem L4_wf : ∀ p ∈ L4, Wf p := by
  intro p hp
  have : p ∈ L3 ++ [itm 4 la] := hp
  rcases List.mem_append.1 this with h | h
  · exact L3_wf p h
  · rw [List.mem_singleton.1 h]; exact itm_wf _ _ (by decide)
theorem chk_L4 : chk L4 = 0 := by decide +kernel
theorem psh_a : psh L3 (itm 4 la) 9 = (L4, 0) := by
  have h1 : cnx L3 (itm 4 la) = 0 := by decide +kernel
  rw [psh_ok h1 (by decide)]; rfl
theorem psh_b : psh L3 (itm 3 la) 9 = ([], 8) := by
  have h1 : cnx L3 (itm 3 la) = 8 := by decide +kernel
  rw [psh_bad (by rw [h1]; decide), h1]
theorem psh_c : psh L3 (itm 4 la) 3 = ([], 6) := by
  have h1 : cnx L3 (itm 4 la) = 0 := by decide +kernel
  exact psh_full h1 (by decide)

theorem ret_it1 {fn : Func} {p : Tmp} (hr : fn.results = #[.cell p 28]) {tmps : Array Value} {ds : _} {w : World} {g : Nat} {y : It} {R : Ending → World → Prop} (hp : tmps.getD p undef = .pointer (some ⟨g, 0, none⟩)) (hb : Ix_.Box w g y) (hd : ds = []) (hR : R (.returned (Ix_.v y)) w) :
    bodyPost Try.prog fn R .ret ⟨tmps, ds⟩ w := by
  refine bodyPost_ret (v := Ix_.v y) ?_ hd hR
  have hp' : tmps[p]?.getD undef = .pointer (some ⟨g, 0, none⟩) := by simpa using hp
  have hl := run_loadVar_row w g 28 28 (Ix_.C y) (0, 0) _ hb Try.underlying28 rfl Ix_.sz
  simp [results, hr, hp', asAddr, hl]
  rfl
set_option maxRecDepth 100000 in
theorem item23_any (id a : Int) (w : World) :
    Calls Try.prog 28 #[.int .i64 id, .int .u64 a] w fun e w' => e = .returned (.agg #[.int .i64 id, .int .i64 0, .int .u64 a, .int .u64 2199023255553, .string ⟨#[]⟩, .int .i64 10, .int .i64 5]) ∧ Below w.heap.size w w' := by
  have CN : Hid (∀ w, Calls Try.prog 27 #[.int .i64 0] w fun e w' => e = .returned (.int .u64 2199023255553) ∧ w = w') := fun w => node_any 0 w (by decide)
  go_enter Try.func28, Try.ntmps28
  go_wp2_with (go_at_call 27; refine (CN.out _).mono ?_; rintro e w' ⟨rfl, rfl⟩)
  exact ret_it1 (y := itm id a) Try.results28 rfl (Ix_.Box.new w (itm id a)) rfl ⟨rfl, (Below.refl _ _).alloc (Nat.le_refl _) _⟩

set_option maxRecDepth 100000 in
theorem skipA_any (t : Int) (b : Nat) (w : World) (hx : Nc b (.int .u64 la) w) :
    Calls Try.prog 29 #[.int .u64 t, .pointer (some ⟨b, 0, none⟩)] w fun e w' => e = .returned (.bool (t == la)) ∧ Below w.heap.size w w' := by
  have e2 := hx.c
  generalize la = A at *
  go_enter Try.func29, Try.ntmps29
  go_wp2
  go_returns
  exact ⟨rfl, Below.refl _ _⟩
theorem skipA_tells (b : Nat) : TellsA (Nc b (.int .u64 la)) 29 #[.pointer (some ⟨b, 0, none⟩)] (fun t => t == la) :=
  ⟨fun args w => by kernel_rfl, fun t W h => skipA_any t b W h⟩

/-- What the examples hold: an address in its cell, three items behind a slice. -/
structure Lv (W : World) (ba g : Nat) (w : World) : Prop where
  nc : Nc ba (.int .u64 2199023255554) w
  sl : It_.Sl w (some ⟨g, 0, none⟩) L3 3
  bel : Below W.heap.size W w
theorem Lv.keep {W : World} {ba g : Nat} {wi wj : World} (h : Lv W ba g wi) (hb : Below wi.heap.size wi wj) : Lv W ba g wj := ⟨h.nc.keep hb, h.sl.below hb, h.bel.trans (hb.mono h.bel.size)⟩
/-- The cells of the three items. -/
theorem Lv.ld {W : World} {ba g : Nat} {w : World} (h : Lv W ba g w) : w.cell? ⟨ba, 0, none⟩ = some (.int .u64 2199023255554) ∧ (w.cell? ⟨g, 0, none⟩ = some (.int .i64 1) ∧ w.cell? ⟨g, 1, none⟩ = some (.int .i64 0) ∧ w.cell? ⟨g, 2, none⟩ = some (.int .u64 2199023255554) ∧ w.cell? ⟨g, 3, none⟩ = some (.int .u64 2199023255553) ∧ w.cell? ⟨g, 4, none⟩ = some (.string ⟨#[]⟩) ∧ w.cell? ⟨g, 5, none⟩ = some (.int .i64 10) ∧ w.cell? ⟨g, 6, none⟩ = some (.int .i64 5)) ∧ (w.cell? ⟨g, 7, none⟩ = some (.int .i64 2) ∧ w.cell? ⟨g, 8, none⟩ = some (.int .i64 0) ∧ w.cell? ⟨g, 9, none⟩ = some (.int .u64 2199023255555) ∧ w.cell? ⟨g, 10, none⟩ = some (.int .u64 2199023255553) ∧ w.cell? ⟨g, 11, none⟩ = some (.string ⟨#[]⟩) ∧ w.cell? ⟨g, 12, none⟩ = some (.int .i64 10) ∧ w.cell? ⟨g, 13, none⟩ = some (.int .i64 5)) ∧ (w.cell? ⟨g, 14, none⟩ = some (.int .i64 3) ∧ w.cell? ⟨g, 15, none⟩ = some (.int .i64 0) ∧ w.cell? ⟨g, 16, none⟩ = some (.int .u64 2199023255555) ∧ w.cell? ⟨g, 17, none⟩ = some (.int .u64 2199023255553) ∧ w.cell? ⟨g, 18, none⟩ = some (.string ⟨#[]⟩) ∧ w.cell? ⟨g, 19, none⟩ = some (.int .i64 10) ∧ w.cell? ⟨g, 20, none⟩ = some (.int .i64 5)) := by
  obtain ⟨b0, o0, e0, -, x0⟩ := h.sl.lies 0 (by decide)
  obtain ⟨b1, o1, e1, -, x1⟩ := h.sl.lies 1 (by decide)
  obtain ⟨b2, o2, e2, -, x2⟩ := h.sl.lies 2 (by decide)
  cases e0; cases e1; cases e2
  simp only [Nat.zero_add, Nat.zero_mul, Nat.one_mul] at x0 x1 x2
  exact ⟨h.nc.c, x0, x1, x2⟩

theorem box_i2 {w : World} {b : Nat} (h : Ix_.Box w b (itm 2 lb)) : w.cell? ⟨b, 0, none⟩ = some (.int .i64 2) ∧ w.cell? ⟨b, 1, none⟩ = some (.int .i64 0) ∧ w.cell? ⟨b, 2, none⟩ = some (.int .u64 2199023255555) ∧ w.cell? ⟨b, 3, none⟩ = some (.int .u64 2199023255553) ∧ w.cell? ⟨b, 4, none⟩ = some (.string ⟨#[]⟩) ∧ w.cell? ⟨b, 5, none⟩ = some (.int .i64 10) ∧ w.cell? ⟨b, 6, none⟩ = some (.int .i64 5) := ⟨h.all 0, h.all 1, h.all 2, h.all 3, h.all 4, h.all 5, h.all 6⟩
/-- And what Pop gave. -/
structure Lz (W : World) (ba g bp : Nat) (s : Option Addr) (c : Nat) (w : World) : Prop where
  lv : Lv W ba g w
  bx : Ix_.Box w bp (itm 2 lb)
  sl : It_.Sl w s [itm 1 la, itm 3 lb] c
theorem Lz.keep {W : World} {ba g bp : Nat} {s : Option Addr} {c : Nat} {wi wj : World} (h : Lz W ba g bp s c wi) (hb : Below wi.heap.size wi wj) : Lz W ba g bp s c wj := ⟨h.lv.keep hb, h.bx.below hb h.bx.lt, h.sl.below hb⟩
/-- And what Push gave. -/
structure Lm (W : World) (ba g bp : Nat) (s : Option Addr) (c : Nat) (sm : Option Addr) (cm : Nat) (w : World) : Prop where
  z : Lz W ba g bp s c w
  m : It_.Sl w sm L4 cm
theorem Lm.keep {W : World} {ba g bp : Nat} {s : Option Addr} {c : Nat} {sm : Option Addr} {cm : Nat} {wi wj : World} (h : Lm W ba g bp s c sm cm wi) (hb : Below wi.heap.size wi wj) : Lm W ba g bp s c sm cm wj := ⟨h.z.keep hb, h.m.below hb⟩
/-- And what Head gave. -/
structure Lh (W : World) (ba g bp : Nat) (s : Option Addr) (c : Nat) (sm : Option Addr) (cm : Nat) (bh : Nat) (w : World) : Prop where
  m : Lm W ba g bp s c sm cm w
  bx : Ix_.Box w bh (itm 2 lb)
theorem Lh.keep {W : World} {ba g bp bh : Nat} {s : Option Addr} {c : Nat} {sm : Option Addr} {cm : Nat} {wi wj : World} (h : Lh W ba g bp s c sm cm bh wi) (hb : Below wi.heap.size wi wj) : Lh W ba g bp s c sm cm bh wj := ⟨h.m.keep hb, h.bx.below hb h.bx.lt⟩

theorem Lh.ld {W : World} {ba g bp bh : Nat} {s : Option Addr} {c : Nat} {sm : Option Addr} {cm : Nat} {w : World} (h : Lh W ba g bp s c sm cm bh w) : w.cell? ⟨ba, 0, none⟩ = some (.int .u64 2199023255554) ∧ w.cell? ⟨g, 0, none⟩ = some (.int .i64 1) ∧ w.cell? ⟨g, 1, none⟩ = some (.int .i64 0) ∧ w.cell? ⟨g, 2, none⟩ = some (.int .u64 2199023255554) ∧ w.cell? ⟨g, 3, none⟩ = some (.int .u64 2199023255553) ∧ w.cell? ⟨g, 4, none⟩ = some (.string ⟨#[]⟩) ∧ w.cell? ⟨g, 5, none⟩ = some (.int .i64 10) ∧ w.cell? ⟨g, 6, none⟩ = some (.int .i64 5) ∧ w.cell? ⟨g, 7, none⟩ = some (.int .i64 2) ∧ w.cell? ⟨g, 8, none⟩ = some (.int .i64 0) ∧ w.cell? ⟨g, 9, none⟩ = some (.int .u64 2199023255555) ∧ w.cell? ⟨g, 10, none⟩ = some (.int .u64 2199023255553) ∧ w.cell? ⟨g, 11, none⟩ = some (.string ⟨#[]⟩) ∧ w.cell? ⟨g, 12, none⟩ = some (.int .i64 10) ∧ w.cell? ⟨g, 13, none⟩ = some (.int .i64 5) ∧ w.cell? ⟨g, 14, none⟩ = some (.int .i64 3) ∧ w.cell? ⟨g, 15, none⟩ = some (.int .i64 0) ∧ w.cell? ⟨g, 16, none⟩ = some (.int .u64 2199023255555) ∧ w.cell? ⟨g, 17, none⟩ = some (.int .u64 2199023255553) ∧ w.cell? ⟨g, 18, none⟩ = some (.string ⟨#[]⟩) ∧ w.cell? ⟨g, 19, none⟩ = some (.int .i64 10) ∧ w.cell? ⟨g, 20, none⟩ = some (.int .i64 5) ∧ w.cell? ⟨bp, 0, none⟩ = some (.int .i64 2) ∧ w.cell? ⟨bp, 1, none⟩ = some (.int .i64 0) ∧ w.cell? ⟨bp, 2, none⟩ = some (.int .u64 2199023255555) ∧ w.cell? ⟨bp, 3, none⟩ = some (.int .u64 2199023255553) ∧ w.cell? ⟨bp, 4, none⟩ = some (.string ⟨#[]⟩) ∧ w.cell? ⟨bp, 5, none⟩ = some (.int .i64 10) ∧ w.cell? ⟨bp, 6, none⟩ = some (.int .i64 5) ∧ w.cell? ⟨bh, 0, none⟩ = some (.int .i64 2) ∧ w.cell? ⟨bh, 1, none⟩ = some (.int .i64 0) ∧ w.cell? ⟨bh, 2, none⟩ = some (.int .u64 2199023255555) ∧ w.cell? ⟨bh, 3, none⟩ = some (.int .u64 2199023255553) ∧ w.cell? ⟨bh, 4, none⟩ = some (.string ⟨#[]⟩) ∧ w.cell? ⟨bh, 5, none⟩ = some (.int .i64 10) ∧ w.cell? ⟨bh, 6, none⟩ = some (.int .i64 5) := by
  obtain ⟨h0, ⟨a0, a1, a2, a3, a4, a5, a6⟩, ⟨b0, b1, b2, b3, b4, b5, b6⟩, ⟨c0, c1, c2, c3, c4, c5, c6⟩⟩ := h.m.z.lv.ld
  obtain ⟨d0, d1, d2, d3, d4, d5, d6⟩ := box_i2 h.m.z.bx
  obtain ⟨e0, e1, e2, e3, e4, e5, e6⟩ := box_i2 h.bx
  exact ⟨h0, a0, a1, a2, a3, a4, a5, a6, b0, b1, b2, b3, b4, b5, b6, c0, c1, c2, c3, c4, c5, c6, d0, d1, d2, d3, d4, d5, d6, e0, e1, e2, e3, e4, e5, e6⟩
theorem Lh.two {W : World} {ba g bp bh : Nat} {s : Option Addr} {c : Nat} {sm : Option Addr} {cm : Nat} {w : World} (h : Lh W ba g bp s c sm cm bh w) : ∃ gt w', w.heap.size = gt ∧ w.alloc (.cells #[.int .i64 1, .int .i64 0, .int .u64 2199023255554, .int .u64 2199023255553, .string ⟨#[]⟩, .int .i64 10, .int .i64 5, .int .i64 3, .int .i64 0, .int .u64 2199023255555, .int .u64 2199023255553, .string ⟨#[]⟩, .int .i64 10, .int .i64 5] 28) = w' ∧ Lh W ba g bp s c sm cm bh w' ∧ It_.Sl w' (some ⟨gt, 0, none⟩) [itm 1 la, itm 3 lb] 2 :=
  ⟨_, _, rfl, rfl, h.keep ((Below.refl _ _).alloc (Nat.le_refl _) _), It_.sl_lit w [itm 1 la, itm 3 lb] (by decide)⟩

set_option linter.unusedSimpArgs false in
set_option maxRecDepth 100000 in
set_option maxHeartbeats 16000000 in
theorem lives23_any (w : World) : Calls Try.prog 7 #[] w fun e w' => e = .returned (.bool true) ∧ Below w.heap.size w w' := by
  have CN1 : Hid (∀ w, Calls Try.prog 27 #[.int .i64 1] w fun e w' => e = .returned (.int .u64 2199023255554) ∧ w = w') := fun w => node_any 1 w (by decide)
  have CN2 : Hid (∀ w, Calls Try.prog 27 #[.int .i64 2] w fun e w' => e = .returned (.int .u64 2199023255555) ∧ w = w') := fun w => node_any 2 w (by decide)
  have CI := Lib.hid item23_any
  have CP : Hid (∀ W g, It_.Sl W (some ⟨g, 0, none⟩) L3 3 → Calls Try.prog 9 #[.slice (some ⟨g, 0, none⟩) 3 3, .int .u64 2199023255555] W fun e w' => ∃ s c, e = .returned (.tuple #[.agg #[.int .i64 2, .int .i64 0, .int .u64 2199023255555, .int .u64 2199023255553, .string ⟨#[]⟩, .int .i64 10, .int .i64 5], .slice s 2 c, .bool true]) ∧ It_.Sl w' s [itm 1 la, itm 3 lb] c ∧ Below W.heap.size W w') := fun W g h =>
    (qu_pop_any (some ⟨g, 0, none⟩) L3 3 lb W h (by decide)).mono (by
      rintro e w' ⟨v, rfl, hO⟩
      obtain ⟨s, c, rfl, hs⟩ := hO.sl
      exact ⟨s, c, rfl, hs, hO.2⟩)
  have CE1 : Hid (∀ W g, It_.Sl W (some ⟨g, 0, none⟩) L3 3 → Calls Try.prog 10 #[.slice (some ⟨g, 0, none⟩) 3 3, .int .i64 14] W fun e w' => ∃ s c s' c', e = .returned (.tuple #[.slice s 3 c, .slice s' 0 c']) ∧ Below W.heap.size W w') := fun W g h =>
    (qu_expire_any (some ⟨g, 0, none⟩) L3 3 14 W L3_wf (by decide) (by decide) h (by decide)).mono (by
      rintro e w' ⟨v, u, rfl, hT⟩
      obtain ⟨s, c, s', c', rfl, rfl, -⟩ := hT.sl
      exact ⟨s, c, s', c', rfl, hT.bel⟩)
  have CE2 : Hid (∀ W g, It_.Sl W (some ⟨g, 0, none⟩) L3 3 → Calls Try.prog 10 #[.slice (some ⟨g, 0, none⟩) 3 3, .int .i64 15] W fun e w' => ∃ s c s' c', e = .returned (.tuple #[.slice s 0 c, .slice s' 3 c']) ∧ Below W.heap.size W w') := fun W g h =>
    (qu_expire_any (some ⟨g, 0, none⟩) L3 3 15 W L3_wf (by decide) (by decide) h (by decide)).mono (by
      rintro e w' ⟨v, u, rfl, hT⟩
      obtain ⟨s, c, s', c', rfl, rfl, -⟩ := hT.sl
      exact ⟨s, c, s', c', rfl, hT.bel⟩)
  have CA : Hid (∀ W g, It_.Sl W (some ⟨g, 0, none⟩) L3 3 → Calls Try.prog 8 #[.slice (some ⟨g, 0, none⟩) 3 3, .agg #[.int .i64 4, .int .i64 0, .int .u64 2199023255554, .int .u64 2199023255553, .string ⟨#[]⟩, .int .i64 10, .int .i64 5], .int .i64 9] W fun e w' => ∃ s c, e = .returned (.tuple #[.slice s 4 c, .int .i64 0]) ∧ It_.Sl w' s L4 c ∧ Below W.heap.size W w') := fun W g h =>
    (qu_push_any (some ⟨g, 0, none⟩) L3 3 (itm 4 la) 9 W (itm_wf _ _ (by decide)) h (by decide)).mono (by
      rintro e w' ⟨v, rfl, hO⟩
      rw [psh_a] at hO ⊢
      obtain ⟨s, c, rfl, hs⟩ := hO.sl
      exact ⟨s, c, rfl, hs, hO.2⟩)
  have CB : Hid (∀ W g, It_.Sl W (some ⟨g, 0, none⟩) L3 3 → Calls Try.prog 8 #[.slice (some ⟨g, 0, none⟩) 3 3, .agg #[.int .i64 3, .int .i64 0, .int .u64 2199023255554, .int .u64 2199023255553, .string ⟨#[]⟩, .int .i64 10, .int .i64 5], .int .i64 9] W fun e w' => ∃ v, e = .returned (.tuple #[v, .int .i64 8]) ∧ Below W.heap.size W w') := fun W g h =>
    (qu_push_any (some ⟨g, 0, none⟩) L3 3 (itm 3 la) 9 W (itm_wf _ _ (by decide)) h (by decide)).mono (by
      rintro e w' ⟨v, rfl, hO⟩
      rw [psh_b] at hO ⊢
      exact ⟨v, rfl, hO.2⟩)
  have CC : Hid (∀ W g, It_.Sl W (some ⟨g, 0, none⟩) L3 3 → Calls Try.prog 8 #[.slice (some ⟨g, 0, none⟩) 3 3, .agg #[.int .i64 4, .int .i64 0, .int .u64 2199023255554, .int .u64 2199023255553, .string ⟨#[]⟩, .int .i64 10, .int .i64 5], .int .i64 3] W fun e w' => ∃ v, e = .returned (.tuple #[v, .int .i64 6]) ∧ Below W.heap.size W w') := fun W g h =>
    (qu_push_any (some ⟨g, 0, none⟩) L3 3 (itm 4 la) 3 W (itm_wf _ _ (by decide)) h (by decide)).mono (by
      rintro e w' ⟨v, rfl, hO⟩
      rw [psh_c] at hO ⊢
      exact ⟨v, rfl, hO.2⟩)
  have CH : Hid (∀ W g ba, It_.Sl W (some ⟨g, 0, none⟩) L3 3 → Nc ba (.int .u64 2199023255554) W → Calls Try.prog 20 #[.slice (some ⟨g, 0, none⟩) 3 3, .func (.func 29) #[] #[.pointer (some ⟨ba, 0, none⟩)]] W fun e w' => e = .returned (.tuple #[.agg #[.int .i64 2, .int .i64 0, .int .u64 2199023255555, .int .u64 2199023255553, .string ⟨#[]⟩, .int .i64 10, .int .i64 5], .bool true]) ∧ Below W.heap.size W w') := fun W g ba h hn =>
    qu_head_any (Nc ba (.int .u64 la)) 29 #[.pointer (some ⟨ba, 0, none⟩)] (fun t => t == la) (skipA_tells ba) (some ⟨g, 0, none⟩) L3 3 W (fun _ hW => hn.keep hW) h (by decide)
  have CK : Hid (∀ W s c, It_.Sl W s L4 c → Calls Try.prog 12 #[.slice s 4 c] W fun e w' => e = .returned (.int .i64 0) ∧ Below W.heap.size W w') := fun W s c h => by
    have := qu_check_any s L4 c W L4_wf h (by decide)
    rw [chk_L4] at this; exact this
  have CT : Hid (∀ W s c, It_.Sl W s L4 c → Calls Try.prog 24 #[.slice s 4 c, .int .u64 2199023255554] W fun e w' => e = .returned (.int .i64 2) ∧ Below W.heap.size W w') := fun W s c h => qu_count_any s L4 c la W h (by decide)
  have CS : Hid (∀ W s c s' c', It_.Sl W s [itm 1 la, itm 3 lb] c → It_.Sl W s' [itm 1 la, itm 3 lb] c' → Calls Try.prog 18 #[.slice s 2 c, .slice s' 2 c'] W fun e w' => e = .returned (.bool true) ∧ Below W.heap.size W w') := fun W s c s' c' h h' => r23_same_any [itm 1 la, itm 3 lb] s s' c c' W h h' (by decide)
  have EQ : ∀ w : World, (binOp .eql 28 (.agg #[.int .i64 2, .int .i64 0, .int .u64 2199023255555, .int .u64 2199023255553, .string ⟨#[]⟩, .int .i64 10, .int .i64 5]) (.agg #[.int .i64 2, .int .i64 0, .int .u64 2199023255555, .int .u64 2199023255553, .string ⟨#[]⟩, .int .i64 10, .int .i64 5])).run Try.prog w = .ok (.bool true) w := Ix_.eql (itm 2 lb)
  have GU : ∀ (op : BinOp) (a b : Operand) (w : World), (eqGuard op 28 a b (.agg #[.int .i64 2, .int .i64 0, .int .u64 2199023255555, .int .u64 2199023255553, .string ⟨#[]⟩, .int .i64 10, .int .i64 5]) (.agg #[.int .i64 2, .int .i64 0, .int .u64 2199023255555, .int .u64 2199023255553, .string ⟨#[]⟩, .int .i64 10, .int .i64 5])).run Try.prog w = .ok () w := fun op a b => Ix_.guard op a b (itm 2 lb) (itm 2 lb)
  have HS2 : Hid (∀ w : World, It_.Sl (w.alloc (.cells #[.int .i64 1, .int .i64 0, .int .u64 2199023255554, .int .u64 2199023255553, .string ⟨#[]⟩, .int .i64 10, .int .i64 5, .int .i64 3, .int .i64 0, .int .u64 2199023255555, .int .u64 2199023255553, .string ⟨#[]⟩, .int .i64 10, .int .i64 5] 28)) (some ⟨w.heap.size, 0, none⟩) [itm 1 la, itm 3 lb] 2) := fun w => It_.sl_lit w [itm 1 la, itm 3 lb] (by decide)
  have HS3 : Hid (∀ w : World, It_.Sl (w.alloc (.cells #[.int .i64 1, .int .i64 0, .int .u64 2199023255554, .int .u64 2199023255553, .string ⟨#[]⟩, .int .i64 10, .int .i64 5, .int .i64 2, .int .i64 0, .int .u64 2199023255555, .int .u64 2199023255553, .string ⟨#[]⟩, .int .i64 10, .int .i64 5, .int .i64 3, .int .i64 0, .int .u64 2199023255555, .int .u64 2199023255553, .string ⟨#[]⟩, .int .i64 10, .int .i64 5] 28)) (some ⟨w.heap.size, 0, none⟩) L3 3) := fun w => It_.sl_lit w L3 (by decide)
  have hmf : ∀ (fn : Fn) (first cap : Array Value) (w : World), (Instr.makeFunc fn first cap).run Try.prog w = .ok (.func fn first cap) w := fun _ _ _ _ => rfl
  go_enter Try.func7, Try.ntmps7
  go_wp2_with (first
    | (go_at_call 27; with_reducible refine (CN1.out _).mono ?_; rintro e w' ⟨rfl, rfl⟩)
    | (go_at_call 27; with_reducible refine (CN2.out _).mono ?_; rintro e w' ⟨rfl, rfl⟩)
    | (go_at_call 28; refine (CI.out _ _ (w.alloc (.cells #[.int .u64 2199023255554] 26))).mono ?_; rintro e w2 ⟨rfl, hb⟩; have N2 := Lib.hid ((Nc.new w (.int .u64 2199023255554) 26).keep hb); have B2 := Lib.hid ((show Below w.heap.size w (w.alloc (.cells #[.int .u64 2199023255554] 26)) from (Below.refl _ _).alloc (Nat.le_refl _) _).trans (hb.mono (by simp))); clear hb)
    | (go_at_call 28; with_reducible refine (CI.out 2 _ w2).mono ?_; rintro e w3 ⟨rfl, hb⟩; have N3 := Lib.hid (N2.out.keep hb); have B3 := Lib.hid (B2.out.trans (hb.mono B2.out.size)); clear hb)
    | (go_at_call 28; with_reducible refine (CI.out 3 _ w3).mono ?_; rintro e w4 ⟨rfl, hb⟩; have N4 := Lib.hid (N3.out.keep hb); have B4 := Lib.hid (B3.out.trans (hb.mono B3.out.size)); clear hb)
    | (go_at_call 9; refine (CP.out _ _ (HS3.out w4)).mono ?_; rintro e w5 ⟨s1, c1, rfl, hs, hb⟩; have LZ := Lib.hid (show Lz w w.heap.size w4.heap.size w5.heap.size s1 c1 (w5.alloc (.cells (Ix_.C (itm 2 lb)) 28)) from ⟨(Lv.keep ⟨N4.out.keep ((Below.refl _ _).alloc (Nat.le_refl _) _), HS3.out w4, B4.out.alloc B4.out.size _⟩ hb).keep ((Below.refl _ _).alloc (Nat.le_refl _) _), Ix_.Box.new w5 _, hs.below ((Below.refl _ _).alloc (Nat.le_refl _) _)⟩); clear hs hb)
    | (go_at_call 10; refine (CE1.out (w5.alloc (.cells (Ix_.C (itm 2 lb)) 28)) _ LZ.out.lv.sl).mono ?_; rintro e w6 ⟨s2, c2, s3, c3, rfl, hb⟩; replace LZ := Lib.hid (LZ.out.keep hb); clear hb)
    | (go_at_call 10; with_reducible refine (CE2.out _ _ LZ.out.lv.sl).mono ?_; rintro e w7 ⟨s4, c4, s5, c5, rfl, hb⟩; replace LZ := Lib.hid (LZ.out.keep hb); have k7 := LZ.out.lv.nc.c; clear hb)
    | (go_at_call 28; with_reducible refine (CI.out 4 _ w7).mono ?_; rintro e w8 ⟨rfl, hb⟩; replace LZ := Lib.hid (LZ.out.keep hb); clear hb)
    | (go_at_call 8; with_reducible refine (CA.out w8 _ LZ.out.lv.sl).mono ?_; rintro e w9 ⟨s6, c6, rfl, hm, hb⟩; have LM := Lib.hid (Lm.mk (LZ.out.keep hb) hm); have k9 := LM.out.z.lv.nc.c; clear hb hm)
    | (go_at_call 28; with_reducible refine (CI.out 3 _ w9).mono ?_; rintro e w10 ⟨rfl, hb⟩; replace LM := Lib.hid (LM.out.keep hb); clear hb)
    | (go_at_call 8; with_reducible refine (CB.out w10 _ LM.out.z.lv.sl).mono ?_; rintro e w11 ⟨v11, rfl, hb⟩; replace LM := Lib.hid (LM.out.keep hb); have k11 := LM.out.z.lv.nc.c; clear hb)
    | (go_at_call 28; with_reducible refine (CI.out 4 _ w11).mono ?_; rintro e w12 ⟨rfl, hb⟩; replace LM := Lib.hid (LM.out.keep hb); clear hb)
    | (go_at_call 8; with_reducible refine (CC.out w12 _ LM.out.z.lv.sl).mono ?_; rintro e w13 ⟨v13, rfl, hb⟩; replace LM := Lib.hid (LM.out.keep hb); clear hb)
    | (go_at_call 20; refine (CH.out w13 _ _ LM.out.z.lv.sl LM.out.z.lv.nc).mono ?_))
  rintro e w14 ⟨rfl, hb⟩
  obtain ⟨w15, hw15⟩ : ∃ w15, w14.alloc (.cells (Ix_.C (itm 2 lb)) 28) = w15 := ⟨_, rfl⟩
  have hw15' : w14.alloc (.cells #[.int .i64 2, .int .i64 0, .int .u64 2199023255555, .int .u64 2199023255553, .string ⟨#[]⟩, .int .i64 10, .int .i64 5] 28) = w15 := hw15
  have LH := Lib.hid (show Lh w w.heap.size w4.heap.size w5.heap.size s1 c1 s6 c6 w14.heap.size w15.drew from Lh.keep (wi := w15) (hw15 ▸ ⟨(LM.out.keep hb).keep ((Below.refl _ _).alloc (Nat.le_refl _) _), Ix_.Box.new w14 _⟩) ⟨rfl, rfl, rfl, Nat.le_refl _, fun _ _ => rfl⟩)
  clear hb LM LZ k7 k9 k11 N2 N3 N4 B2 B3 B4 CN1 CN2 CI CP CE1 CE2 CA CB CC CH hw15
  go_wp2_with fail
  refine wp_region_held_drew (S := (fun w' => w'.cell? ⟨w.heap.size, 0, none⟩ = some (.int .u64 2199023255554) ∧ w'.cell? ⟨w4.heap.size, 0, none⟩ = some (.int .i64 1) ∧ w'.cell? ⟨w4.heap.size, 1, none⟩ = some (.int .i64 0) ∧ w'.cell? ⟨w4.heap.size, 2, none⟩ = some (.int .u64 2199023255554) ∧ w'.cell? ⟨w4.heap.size, 3, none⟩ = some (.int .u64 2199023255553) ∧ w'.cell? ⟨w4.heap.size, 4, none⟩ = some (.string ⟨#[]⟩) ∧ w'.cell? ⟨w4.heap.size, 5, none⟩ = some (.int .i64 10) ∧ w'.cell? ⟨w4.heap.size, 6, none⟩ = some (.int .i64 5) ∧ w'.cell? ⟨w4.heap.size, 7, none⟩ = some (.int .i64 2) ∧ w'.cell? ⟨w4.heap.size, 8, none⟩ = some (.int .i64 0) ∧ w'.cell? ⟨w4.heap.size, 9, none⟩ = some (.int .u64 2199023255555) ∧ w'.cell? ⟨w4.heap.size, 10, none⟩ = some (.int .u64 2199023255553) ∧ w'.cell? ⟨w4.heap.size, 11, none⟩ = some (.string ⟨#[]⟩) ∧ w'.cell? ⟨w4.heap.size, 12, none⟩ = some (.int .i64 10) ∧ w'.cell? ⟨w4.heap.size, 13, none⟩ = some (.int .i64 5) ∧ w'.cell? ⟨w4.heap.size, 14, none⟩ = some (.int .i64 3) ∧ w'.cell? ⟨w4.heap.size, 15, none⟩ = some (.int .i64 0) ∧ w'.cell? ⟨w4.heap.size, 16, none⟩ = some (.int .u64 2199023255555) ∧ w'.cell? ⟨w4.heap.size, 17, none⟩ = some (.int .u64 2199023255553) ∧ w'.cell? ⟨w4.heap.size, 18, none⟩ = some (.string ⟨#[]⟩) ∧ w'.cell? ⟨w4.heap.size, 19, none⟩ = some (.int .i64 10) ∧ w'.cell? ⟨w4.heap.size, 20, none⟩ = some (.int .i64 5) ∧ w'.cell? ⟨w5.heap.size, 0, none⟩ = some (.int .i64 2) ∧ w'.cell? ⟨w5.heap.size, 1, none⟩ = some (.int .i64 0) ∧ w'.cell? ⟨w5.heap.size, 2, none⟩ = some (.int .u64 2199023255555) ∧ w'.cell? ⟨w5.heap.size, 3, none⟩ = some (.int .u64 2199023255553) ∧ w'.cell? ⟨w5.heap.size, 4, none⟩ = some (.string ⟨#[]⟩) ∧ w'.cell? ⟨w5.heap.size, 5, none⟩ = some (.int .i64 10) ∧ w'.cell? ⟨w5.heap.size, 6, none⟩ = some (.int .i64 5) ∧ w'.cell? ⟨w14.heap.size, 0, none⟩ = some (.int .i64 2) ∧ w'.cell? ⟨w14.heap.size, 1, none⟩ = some (.int .i64 0) ∧ w'.cell? ⟨w14.heap.size, 2, none⟩ = some (.int .u64 2199023255555) ∧ w'.cell? ⟨w14.heap.size, 3, none⟩ = some (.int .u64 2199023255553) ∧ w'.cell? ⟨w14.heap.size, 4, none⟩ = some (.string ⟨#[]⟩) ∧ w'.cell? ⟨w14.heap.size, 5, none⟩ = some (.int .i64 10) ∧ w'.cell? ⟨w14.heap.size, 6, none⟩ = some (.int .i64 5))) (by kernel_rfl) ?_ (fun hHeld => ?_)
  · exact LH.out.ld
  refine wpAnyH_take (i := 0) (oi := { dst := some 72, op := Op.move (Operand.tmp 6), type := 4, pos := "law.go:33", after := #[], guard := none }) (v := ?v1) rfl (by kernel_rfl) (by kernel_rfl) (by kernel_rfl) (fun _ _ _ h => h) (Or.inl ⟨by rfl, ?y1⟩) hHeld ?r1
  case y1 => (intro w hSw; (try dsimp only at hSw); go_simp; try with_reducible rfl)
  try simp only [Act.put, List.setIfInBounds_toArray, List.set_cons_zero, List.set_cons_succ]
  refine wpAnyH_take (i := 1) (oi := { dst := some 73, op := Op.move (Operand.tmp 72), type := 4, pos := "law.go:33", after := #[{ on := 0, ground := Ground.data }], guard := none }) (v := ?v2) rfl (by kernel_rfl) (by kernel_rfl) (by kernel_rfl) (fun _ _ _ h => h) (Or.inl ⟨by rfl, ?y2⟩) hHeld ?r2
  case y2 => (intro w hSw; (try dsimp only at hSw); go_simp; try with_reducible rfl)
  try simp only [Act.put, List.setIfInBounds_toArray, List.set_cons_zero, List.set_cons_succ]
  refine wpAnyH_take (i := 2) (oi := { dst := some 74, op := Op.load 28 (Operand.tmp 4), type := 28, pos := "law.go:33", after := #[{ on := 1, ground := Ground.guard }], guard := some (1, true) }) (v := ?v3) rfl (by kernel_rfl) (by kernel_rfl) (by kernel_rfl) (fun _ _ _ h => h) (Or.inl ⟨by rfl, ?y3⟩) hHeld ?r3
  case y3 => (intro w hSw; (try dsimp only at hSw); go_simp; try with_reducible rfl)
  try simp only [Act.put, List.setIfInBounds_toArray, List.set_cons_zero, List.set_cons_succ]
  refine wpAnyH_take (i := 3) (oi := { dst := some 75, op := Op.move (Operand.tmp 3), type := 24, pos := "law.go:33", after := #[{ on := 1, ground := Ground.guard }], guard := some (1, true) }) (v := ?v4) rfl (by kernel_rfl) (by kernel_rfl) (by kernel_rfl) (fun _ _ _ h => h) (Or.inl ⟨by rfl, ?y4⟩) hHeld ?r4
  case y4 => (intro w hSw; (try dsimp only at hSw); go_simp; try with_reducible rfl)
  try simp only [Act.put, List.setIfInBounds_toArray, List.set_cons_zero, List.set_cons_succ]
  refine wpAnyH_take (i := 4) (oi := { dst := some 76, op := Op.indexAddr 24 (Operand.tmp 75) (Operand.const (Value.int IntKind.i64 1)), type := 0, pos := "law.go:33", after := #[{ on := 3, ground := Ground.data }, { on := 1, ground := Ground.guard }], guard := some (1, true) }) (v := ?v5) rfl (by kernel_rfl) (by kernel_rfl) (by kernel_rfl) (fun _ _ _ h => h) (Or.inl ⟨by rfl, ?y5⟩) hHeld ?r5
  case y5 => (intro w hSw; (try dsimp only at hSw); go_simp; try with_reducible rfl)
  try simp only [Act.put, List.setIfInBounds_toArray, List.set_cons_zero, List.set_cons_succ]
  refine wpAnyH_take (i := 5) (oi := { dst := some 77, op := Op.load 28 (Operand.tmp 76), type := 28, pos := "law.go:33", after := #[{ on := 4, ground := Ground.data }, { on := 1, ground := Ground.guard }], guard := some (1, true) }) (v := ?v6) rfl (by kernel_rfl) (by kernel_rfl) (by kernel_rfl) (fun _ _ _ h => h) (Or.inl ⟨by rfl, ?y6⟩) hHeld ?r6
  case y6 => (intro w hSw; (try dsimp only at hSw); go_simp; try with_reducible rfl)
  try simp only [Act.put, List.setIfInBounds_toArray, List.set_cons_zero, List.set_cons_succ]
  refine wpAnyH_take (i := 6) (oi := { dst := some 78, op := Op.binOp BinOp.eql 28 (Operand.tmp 74) (Operand.tmp 77) 28, type := 4, pos := "law.go:33", after := #[{ on := 2, ground := Ground.data }, { on := 5, ground := Ground.data }, { on := 1, ground := Ground.guard }], guard := some (1, true) }) (v := ?v7) rfl (by kernel_rfl) (by kernel_rfl) (by kernel_rfl) (fun _ _ _ h => h) (Or.inl ⟨by rfl, ?y7⟩) hHeld ?r7
  case y7 => (intro w hSw; (try dsimp only at hSw); go_simp; try with_reducible rfl)
  try simp only [Act.put, List.setIfInBounds_toArray, List.set_cons_zero, List.set_cons_succ]
  refine wpAnyH_take (i := 7) (oi := { dst := some 79, op := Op.pick (Operand.tmp 73) (Operand.tmp 78) (Operand.const (Value.bool false)), type := 4, pos := "law.go:33", after := #[{ on := 1, ground := Ground.data }, { on := 6, ground := Ground.data }], guard := none }) (v := ?v8) rfl (by kernel_rfl) (by kernel_rfl) (by kernel_rfl) (fun _ _ _ h => h) (Or.inl ⟨by rfl, ?y8⟩) hHeld ?r8
  case y8 => (intro w hSw; (try dsimp only at hSw); go_simp; try with_reducible rfl)
  try simp only [Act.put, List.setIfInBounds_toArray, List.set_cons_zero, List.set_cons_succ]
  refine wpAnyH_take (i := 8) (oi := { dst := some 80, op := Op.move (Operand.tmp 79), type := 4, pos := "law.go:33", after := #[{ on := 7, ground := Ground.data }, { on := 1, ground := Ground.chain }], guard := none }) (v := ?v9) rfl (by kernel_rfl) (by kernel_rfl) (by kernel_rfl) (fun _ _ _ h => h) (Or.inl ⟨by rfl, ?y9⟩) hHeld ?r9
  case y9 => (intro w hSw; (try dsimp only at hSw); go_simp; try with_reducible rfl)
  try simp only [Act.put, List.setIfInBounds_toArray, List.set_cons_zero, List.set_cons_succ]
  refine wpAnyH_take (i := 9) (oi := { dst := some 81, op := Op.move (Operand.tmp 5), type := 24, pos := "law.go:33", after := #[{ on := 8, ground := Ground.guard }], guard := some (8, true) }) (v := ?v10) rfl (by kernel_rfl) (by kernel_rfl) (by kernel_rfl) (fun _ _ _ h => h) (Or.inl ⟨by rfl, ?y10⟩) hHeld ?r10
  case y10 => (intro w hSw; (try dsimp only at hSw); go_simp; try with_reducible rfl)
  try simp only [Act.put, List.setIfInBounds_toArray, List.set_cons_zero, List.set_cons_succ]
  refine wpAnyH_take (i := 10) (oi := { dst := some 82, op := Op.move (Operand.tmp 3), type := 24, pos := "law.go:33", after := #[{ on := 8, ground := Ground.guard }], guard := some (8, true) }) (v := ?v11) rfl (by kernel_rfl) (by kernel_rfl) (by kernel_rfl) (fun _ _ _ h => h) (Or.inl ⟨by rfl, ?y11⟩) hHeld ?r11
  case y11 => (intro w hSw; (try dsimp only at hSw); go_simp; try with_reducible rfl)
  try simp only [Act.put, List.setIfInBounds_toArray, List.set_cons_zero, List.set_cons_succ]
  refine wpAnyH_take (i := 11) (oi := { dst := some 83, op := Op.indexAddr 24 (Operand.tmp 82) (Operand.const (Value.int IntKind.i64 0)), type := 0, pos := "law.go:33", after := #[{ on := 10, ground := Ground.data }, { on := 8, ground := Ground.guard }], guard := some (8, true) }) (v := ?v12) rfl (by kernel_rfl) (by kernel_rfl) (by kernel_rfl) (fun _ _ _ h => h) (Or.inl ⟨by rfl, ?y12⟩) hHeld ?r12
  case y12 => (intro w hSw; (try dsimp only at hSw); go_simp; try with_reducible rfl)
  try simp only [Act.put, List.setIfInBounds_toArray, List.set_cons_zero, List.set_cons_succ]
  refine wpAnyH_take (i := 12) (oi := { dst := some 84, op := Op.load 28 (Operand.tmp 83), type := 28, pos := "law.go:33", after := #[{ on := 11, ground := Ground.data }, { on := 8, ground := Ground.guard }], guard := some (8, true) }) (v := ?v13) rfl (by kernel_rfl) (by kernel_rfl) (by kernel_rfl) (fun _ _ _ h => h) (Or.inl ⟨by rfl, ?y13⟩) hHeld ?r13
  case y13 => (intro w hSw; (try dsimp only at hSw); go_simp; try with_reducible rfl)
  try simp only [Act.put, List.setIfInBounds_toArray, List.set_cons_zero, List.set_cons_succ]
  refine wpAnyH_take (i := 13) (oi := { dst := some 85, op := Op.move (Operand.tmp 3), type := 24, pos := "law.go:33", after := #[{ on := 8, ground := Ground.guard }], guard := some (8, true) }) (v := ?v14) rfl (by kernel_rfl) (by kernel_rfl) (by kernel_rfl) (fun _ _ _ h => h) (Or.inl ⟨by rfl, ?y14⟩) hHeld ?r14
  case y14 => (intro w hSw; (try dsimp only at hSw); go_simp; try with_reducible rfl)
  try simp only [Act.put, List.setIfInBounds_toArray, List.set_cons_zero, List.set_cons_succ]
  refine wpAnyH_take (i := 14) (oi := { dst := some 86, op := Op.indexAddr 24 (Operand.tmp 85) (Operand.const (Value.int IntKind.i64 2)), type := 0, pos := "law.go:33", after := #[{ on := 13, ground := Ground.data }, { on := 8, ground := Ground.guard }], guard := some (8, true) }) (v := ?v15) rfl (by kernel_rfl) (by kernel_rfl) (by kernel_rfl) (fun _ _ _ h => h) (Or.inl ⟨by rfl, ?y15⟩) hHeld ?r15
  case y15 => (intro w hSw; (try dsimp only at hSw); go_simp; try with_reducible rfl)
  try simp only [Act.put, List.setIfInBounds_toArray, List.set_cons_zero, List.set_cons_succ]
  refine wpAnyH_take (i := 15) (oi := { dst := some 87, op := Op.load 28 (Operand.tmp 86), type := 28, pos := "law.go:33", after := #[{ on := 14, ground := Ground.data }, { on := 8, ground := Ground.guard }], guard := some (8, true) }) (v := ?v16) rfl (by kernel_rfl) (by kernel_rfl) (by kernel_rfl) (fun _ _ _ h => h) (Or.inl ⟨by rfl, ?y16⟩) hHeld ?r16
  case y16 => (intro w hSw; (try dsimp only at hSw); go_simp; try with_reducible rfl)
  try simp only [Act.put, List.setIfInBounds_toArray, List.set_cons_zero, List.set_cons_succ]
  refine wpAnyH_ready (rs := [16]) (by kernel_rfl) (by simp) ?_
  refine AllReadyH.cons (o := { dst := some 88, op := Op.buildSlice 24 2 #[(0, Operand.tmp 84), (1, Operand.tmp 87)], type := 24, pos := "law.go:33", after := #[{ on := 12, ground := Ground.data }, { on := 15, ground := Ground.data }, { on := 8, ground := Ground.guard }], guard := some (8, true) }) rfl (fun K hK => ?_) ?_
  · clear hHeld
    obtain ⟨gt, w20, e1, e2, hs, hsl⟩ := LH.out.two
    go_simp
    try simp only [e1, e2]
    replace LH := Lib.hid hs
    have HT := Lib.hid hsl
    clear hs hsl e1 e2
    refine hK.out _ _ ?_ (fun hHeld => ?_)
    · exact LH.out.ld
    clear hK K
    try simp only [Act.put, List.setIfInBounds_toArray, List.set_cons_zero, List.set_cons_succ]
    refine wpAnyH_ready (rs := [17]) (by kernel_rfl) (by simp) ?_
    refine AllReadyH.cons (o := { dst := some 89, op := Op.call { callee := Callee.value (Operand.func 18), args := #[Operand.tmp 81, Operand.tmp 88], argTypes := #[24, 24] }, type := 4, pos := "law.go:33", after := #[{ on := 9, ground := Ground.data }, { on := 16, ground := Ground.data }, { on := 8, ground := Ground.chain }, { on := 8, ground := Ground.guard }], guard := some (8, true) }) rfl (fun K hK => ?_) ?_
    · clear hHeld
      go_simp
      go_at_call 18
      with_reducible refine (CS.out _ s1 c1 _ 2 LH.out.m.z.sl HT.out).mono ?_
      rintro e w21 ⟨rfl, hb⟩
      replace LH := Lib.hid (LH.out.keep hb)
      clear hb HT
      refine hK.out _ _ ?_ (fun hHeld => ?_)
      · exact LH.out.ld
      clear hK K
      try simp only [Act.put, List.setIfInBounds_toArray, List.set_cons_zero, List.set_cons_succ]
      refine wpAnyH_take (i := 18) (oi := { dst := some 90, op := Op.pick (Operand.tmp 80) (Operand.tmp 89) (Operand.const (Value.bool false)), type := 4, pos := "law.go:33", after := #[{ on := 8, ground := Ground.data }, { on := 17, ground := Ground.data }], guard := none }) (v := ?v17) rfl (by kernel_rfl) (by kernel_rfl) (by kernel_rfl) (fun _ _ _ h => h) (Or.inl ⟨by rfl, ?y17⟩) hHeld ?r17
      case y17 => (intro w hSw; (try dsimp only at hSw); go_simp; try with_reducible rfl)
      try simp only [Act.put, List.setIfInBounds_toArray, List.set_cons_zero, List.set_cons_succ]
      refine wpAnyH_take (i := 19) (oi := { dst := some 91, op := Op.move (Operand.tmp 90), type := 4, pos := "law.go:33", after := #[{ on := 18, ground := Ground.data }, { on := 17, ground := Ground.chain }], guard := none }) (v := ?v18) rfl (by kernel_rfl) (by kernel_rfl) (by kernel_rfl) (fun _ _ _ h => h) (Or.inl ⟨by rfl, ?y18⟩) hHeld ?r18
      case y18 => (intro w hSw; (try dsimp only at hSw); go_simp; try with_reducible rfl)
      try simp only [Act.put, List.setIfInBounds_toArray, List.set_cons_zero, List.set_cons_succ]
      refine wpAnyH_take (i := 20) (oi := { dst := some 92, op := Op.move (Operand.tmp 7), type := 24, pos := "law.go:33", after := #[{ on := 19, ground := Ground.guard }], guard := some (19, true) }) (v := ?v19) rfl (by kernel_rfl) (by kernel_rfl) (by kernel_rfl) (fun _ _ _ h => h) (Or.inl ⟨by rfl, ?y19⟩) hHeld ?r19
      case y19 => (intro w hSw; (try dsimp only at hSw); go_simp; try with_reducible rfl)
      try simp only [Act.put, List.setIfInBounds_toArray, List.set_cons_zero, List.set_cons_succ]
      refine wpAnyH_take (i := 21) (oi := { dst := some 93, op := Op.call { callee := Callee.builtin Builtin.len, args := #[Operand.tmp 92], argTypes := #[24] }, type := 3, pos := "law.go:33", after := #[{ on := 20, ground := Ground.data }, { on := 19, ground := Ground.guard }], guard := some (19, true) }) (v := ?v20) rfl (by kernel_rfl) (by kernel_rfl) (by kernel_rfl) (fun _ _ _ h => h) (Or.inl ⟨by rfl, ?y20⟩) hHeld ?r20
      case y20 => (intro w hSw; (try dsimp only at hSw); go_simp; try with_reducible rfl)
      try simp only [Act.put, List.setIfInBounds_toArray, List.set_cons_zero, List.set_cons_succ]
      refine wpAnyH_take (i := 22) (oi := { dst := some 94, op := Op.binOp BinOp.eql 3 (Operand.tmp 93) (Operand.const (Value.int IntKind.i64 3)) 3, type := 4, pos := "law.go:33", after := #[{ on := 21, ground := Ground.data }, { on := 19, ground := Ground.guard }], guard := some (19, true) }) (v := ?v21) rfl (by kernel_rfl) (by kernel_rfl) (by kernel_rfl) (fun _ _ _ h => h) (Or.inl ⟨by rfl, ?y21⟩) hHeld ?r21
      case y21 => (intro w hSw; (try dsimp only at hSw); go_simp; try with_reducible rfl)
      try simp only [Act.put, List.setIfInBounds_toArray, List.set_cons_zero, List.set_cons_succ]
      refine wpAnyH_take (i := 23) (oi := { dst := some 95, op := Op.pick (Operand.tmp 91) (Operand.tmp 94) (Operand.const (Value.bool false)), type := 4, pos := "law.go:33", after := #[{ on := 19, ground := Ground.data }, { on := 22, ground := Ground.data }], guard := none }) (v := ?v22) rfl (by kernel_rfl) (by kernel_rfl) (by kernel_rfl) (fun _ _ _ h => h) (Or.inl ⟨by rfl, ?y22⟩) hHeld ?r22
      case y22 => (intro w hSw; (try dsimp only at hSw); go_simp; try with_reducible rfl)
      try simp only [Act.put, List.setIfInBounds_toArray, List.set_cons_zero, List.set_cons_succ]
      refine wpAnyH_take (i := 24) (oi := { dst := some 96, op := Op.move (Operand.tmp 95), type := 4, pos := "law.go:33", after := #[{ on := 23, ground := Ground.data }, { on := 19, ground := Ground.chain }], guard := none }) (v := ?v23) rfl (by kernel_rfl) (by kernel_rfl) (by kernel_rfl) (fun _ _ _ h => h) (Or.inl ⟨by rfl, ?y23⟩) hHeld ?r23
      case y23 => (intro w hSw; (try dsimp only at hSw); go_simp; try with_reducible rfl)
      try simp only [Act.put, List.setIfInBounds_toArray, List.set_cons_zero, List.set_cons_succ]
      refine wpAnyH_take (i := 25) (oi := { dst := some 97, op := Op.move (Operand.tmp 8), type := 24, pos := "law.go:33", after := #[{ on := 24, ground := Ground.guard }], guard := some (24, true) }) (v := ?v24) rfl (by kernel_rfl) (by kernel_rfl) (by kernel_rfl) (fun _ _ _ h => h) (Or.inl ⟨by rfl, ?y24⟩) hHeld ?r24
      case y24 => (intro w hSw; (try dsimp only at hSw); go_simp; try with_reducible rfl)
      try simp only [Act.put, List.setIfInBounds_toArray, List.set_cons_zero, List.set_cons_succ]
      refine wpAnyH_take (i := 26) (oi := { dst := some 98, op := Op.call { callee := Callee.builtin Builtin.len, args := #[Operand.tmp 97], argTypes := #[24] }, type := 3, pos := "law.go:33", after := #[{ on := 25, ground := Ground.data }, { on := 24, ground := Ground.guard }], guard := some (24, true) }) (v := ?v25) rfl (by kernel_rfl) (by kernel_rfl) (by kernel_rfl) (fun _ _ _ h => h) (Or.inl ⟨by rfl, ?y25⟩) hHeld ?r25
      case y25 => (intro w hSw; (try dsimp only at hSw); go_simp; try with_reducible rfl)
      try simp only [Act.put, List.setIfInBounds_toArray, List.set_cons_zero, List.set_cons_succ]
      refine wpAnyH_take (i := 27) (oi := { dst := some 99, op := Op.binOp BinOp.eql 3 (Operand.tmp 98) (Operand.const (Value.int IntKind.i64 0)) 3, type := 4, pos := "law.go:33", after := #[{ on := 26, ground := Ground.data }, { on := 24, ground := Ground.guard }], guard := some (24, true) }) (v := ?v26) rfl (by kernel_rfl) (by kernel_rfl) (by kernel_rfl) (fun _ _ _ h => h) (Or.inl ⟨by rfl, ?y26⟩) hHeld ?r26
      case y26 => (intro w hSw; (try dsimp only at hSw); go_simp; try with_reducible rfl)
      try simp only [Act.put, List.setIfInBounds_toArray, List.set_cons_zero, List.set_cons_succ]
      refine wpAnyH_take (i := 28) (oi := { dst := some 100, op := Op.pick (Operand.tmp 96) (Operand.tmp 99) (Operand.const (Value.bool false)), type := 4, pos := "law.go:33", after := #[{ on := 24, ground := Ground.data }, { on := 27, ground := Ground.data }], guard := none }) (v := ?v27) rfl (by kernel_rfl) (by kernel_rfl) (by kernel_rfl) (fun _ _ _ h => h) (Or.inl ⟨by rfl, ?y27⟩) hHeld ?r27
      case y27 => (intro w hSw; (try dsimp only at hSw); go_simp; try with_reducible rfl)
      try simp only [Act.put, List.setIfInBounds_toArray, List.set_cons_zero, List.set_cons_succ]
      refine wpAnyH_take (i := 29) (oi := { dst := some 101, op := Op.move (Operand.tmp 100), type := 4, pos := "law.go:33", after := #[{ on := 28, ground := Ground.data }, { on := 24, ground := Ground.chain }], guard := none }) (v := ?v28) rfl (by kernel_rfl) (by kernel_rfl) (by kernel_rfl) (fun _ _ _ h => h) (Or.inl ⟨by rfl, ?y28⟩) hHeld ?r28
      case y28 => (intro w hSw; (try dsimp only at hSw); go_simp; try with_reducible rfl)
      try simp only [Act.put, List.setIfInBounds_toArray, List.set_cons_zero, List.set_cons_succ]
      refine wpAnyH_take (i := 30) (oi := { dst := some 102, op := Op.move (Operand.tmp 10), type := 24, pos := "law.go:33", after := #[{ on := 29, ground := Ground.guard }], guard := some (29, true) }) (v := ?v29) rfl (by kernel_rfl) (by kernel_rfl) (by kernel_rfl) (fun _ _ _ h => h) (Or.inl ⟨by rfl, ?y29⟩) hHeld ?r29
      case y29 => (intro w hSw; (try dsimp only at hSw); go_simp; try with_reducible rfl)
      try simp only [Act.put, List.setIfInBounds_toArray, List.set_cons_zero, List.set_cons_succ]
      refine wpAnyH_take (i := 31) (oi := { dst := some 103, op := Op.call { callee := Callee.builtin Builtin.len, args := #[Operand.tmp 102], argTypes := #[24] }, type := 3, pos := "law.go:33", after := #[{ on := 30, ground := Ground.data }, { on := 29, ground := Ground.guard }], guard := some (29, true) }) (v := ?v30) rfl (by kernel_rfl) (by kernel_rfl) (by kernel_rfl) (fun _ _ _ h => h) (Or.inl ⟨by rfl, ?y30⟩) hHeld ?r30
      case y30 => (intro w hSw; (try dsimp only at hSw); go_simp; try with_reducible rfl)
      try simp only [Act.put, List.setIfInBounds_toArray, List.set_cons_zero, List.set_cons_succ]
      refine wpAnyH_take (i := 32) (oi := { dst := some 104, op := Op.binOp BinOp.eql 3 (Operand.tmp 103) (Operand.const (Value.int IntKind.i64 3)) 3, type := 4, pos := "law.go:33", after := #[{ on := 31, ground := Ground.data }, { on := 29, ground := Ground.guard }], guard := some (29, true) }) (v := ?v31) rfl (by kernel_rfl) (by kernel_rfl) (by kernel_rfl) (fun _ _ _ h => h) (Or.inl ⟨by rfl, ?y31⟩) hHeld ?r31
      case y31 => (intro w hSw; (try dsimp only at hSw); go_simp; try with_reducible rfl)
      try simp only [Act.put, List.setIfInBounds_toArray, List.set_cons_zero, List.set_cons_succ]
      refine wpAnyH_take (i := 33) (oi := { dst := some 105, op := Op.pick (Operand.tmp 101) (Operand.tmp 104) (Operand.const (Value.bool false)), type := 4, pos := "law.go:33", after := #[{ on := 29, ground := Ground.data }, { on := 32, ground := Ground.data }], guard := none }) (v := ?v32) rfl (by kernel_rfl) (by kernel_rfl) (by kernel_rfl) (fun _ _ _ h => h) (Or.inl ⟨by rfl, ?y32⟩) hHeld ?r32
      case y32 => (intro w hSw; (try dsimp only at hSw); go_simp; try with_reducible rfl)
      try simp only [Act.put, List.setIfInBounds_toArray, List.set_cons_zero, List.set_cons_succ]
      refine wpAnyH_take (i := 34) (oi := { dst := some 106, op := Op.move (Operand.tmp 105), type := 4, pos := "law.go:33", after := #[{ on := 33, ground := Ground.data }, { on := 29, ground := Ground.chain }], guard := none }) (v := ?v33) rfl (by kernel_rfl) (by kernel_rfl) (by kernel_rfl) (fun _ _ _ h => h) (Or.inl ⟨by rfl, ?y33⟩) hHeld ?r33
      case y33 => (intro w hSw; (try dsimp only at hSw); go_simp; try with_reducible rfl)
      try simp only [Act.put, List.setIfInBounds_toArray, List.set_cons_zero, List.set_cons_succ]
      refine wpAnyH_take (i := 35) (oi := { dst := some 107, op := Op.move (Operand.tmp 12), type := 31, pos := "law.go:33", after := #[{ on := 34, ground := Ground.guard }], guard := some (34, true) }) (v := ?v34) rfl (by kernel_rfl) (by kernel_rfl) (by kernel_rfl) (fun _ _ _ h => h) (Or.inl ⟨by rfl, ?y34⟩) hHeld ?r34
      case y34 => (intro w hSw; (try dsimp only at hSw); go_simp; try with_reducible rfl)
      try simp only [Act.put, List.setIfInBounds_toArray, List.set_cons_zero, List.set_cons_succ]
      refine wpAnyH_take (i := 36) (oi := { dst := some 108, op := Op.binOp BinOp.eql 31 (Operand.tmp 107) (Operand.const (Value.int IntKind.i64 0)) 31, type := 4, pos := "law.go:33", after := #[{ on := 35, ground := Ground.data }, { on := 34, ground := Ground.guard }], guard := some (34, true) }) (v := ?v35) rfl (by kernel_rfl) (by kernel_rfl) (by kernel_rfl) (fun _ _ _ h => h) (Or.inl ⟨by rfl, ?y35⟩) hHeld ?r35
      case y35 => (intro w hSw; (try dsimp only at hSw); go_simp; try with_reducible rfl)
      try simp only [Act.put, List.setIfInBounds_toArray, List.set_cons_zero, List.set_cons_succ]
      refine wpAnyH_take (i := 37) (oi := { dst := some 109, op := Op.pick (Operand.tmp 106) (Operand.tmp 108) (Operand.const (Value.bool false)), type := 4, pos := "law.go:33", after := #[{ on := 34, ground := Ground.data }, { on := 36, ground := Ground.data }], guard := none }) (v := ?v36) rfl (by kernel_rfl) (by kernel_rfl) (by kernel_rfl) (fun _ _ _ h => h) (Or.inl ⟨by rfl, ?y36⟩) hHeld ?r36
      case y36 => (intro w hSw; (try dsimp only at hSw); go_simp; try with_reducible rfl)
      try simp only [Act.put, List.setIfInBounds_toArray, List.set_cons_zero, List.set_cons_succ]
      refine wpAnyH_take (i := 38) (oi := { dst := some 110, op := Op.move (Operand.tmp 109), type := 4, pos := "law.go:33", after := #[{ on := 37, ground := Ground.data }, { on := 34, ground := Ground.chain }], guard := none }) (v := ?v37) rfl (by kernel_rfl) (by kernel_rfl) (by kernel_rfl) (fun _ _ _ h => h) (Or.inl ⟨by rfl, ?y37⟩) hHeld ?r37
      case y37 => (intro w hSw; (try dsimp only at hSw); go_simp; try with_reducible rfl)
      try simp only [Act.put, List.setIfInBounds_toArray, List.set_cons_zero, List.set_cons_succ]
      refine wpAnyH_take (i := 39) (oi := { dst := some 111, op := Op.move (Operand.tmp 11), type := 24, pos := "law.go:33", after := #[{ on := 38, ground := Ground.guard }], guard := some (38, true) }) (v := ?v38) rfl (by kernel_rfl) (by kernel_rfl) (by kernel_rfl) (fun _ _ _ h => h) (Or.inl ⟨by rfl, ?y38⟩) hHeld ?r38
      case y38 => (intro w hSw; (try dsimp only at hSw); go_simp; try with_reducible rfl)
      try simp only [Act.put, List.setIfInBounds_toArray, List.set_cons_zero, List.set_cons_succ]
      refine wpAnyH_take (i := 40) (oi := { dst := some 112, op := Op.call { callee := Callee.builtin Builtin.len, args := #[Operand.tmp 111], argTypes := #[24] }, type := 3, pos := "law.go:33", after := #[{ on := 39, ground := Ground.data }, { on := 38, ground := Ground.guard }], guard := some (38, true) }) (v := ?v39) rfl (by kernel_rfl) (by kernel_rfl) (by kernel_rfl) (fun _ _ _ h => h) (Or.inl ⟨by rfl, ?y39⟩) hHeld ?r39
      case y39 => (intro w hSw; (try dsimp only at hSw); go_simp; try with_reducible rfl)
      try simp only [Act.put, List.setIfInBounds_toArray, List.set_cons_zero, List.set_cons_succ]
      refine wpAnyH_take (i := 41) (oi := { dst := some 113, op := Op.binOp BinOp.eql 3 (Operand.tmp 112) (Operand.const (Value.int IntKind.i64 4)) 3, type := 4, pos := "law.go:33", after := #[{ on := 40, ground := Ground.data }, { on := 38, ground := Ground.guard }], guard := some (38, true) }) (v := ?v40) rfl (by kernel_rfl) (by kernel_rfl) (by kernel_rfl) (fun _ _ _ h => h) (Or.inl ⟨by rfl, ?y40⟩) hHeld ?r40
      case y40 => (intro w hSw; (try dsimp only at hSw); go_simp; try with_reducible rfl)
      try simp only [Act.put, List.setIfInBounds_toArray, List.set_cons_zero, List.set_cons_succ]
      refine wpAnyH_take (i := 42) (oi := { dst := some 114, op := Op.pick (Operand.tmp 110) (Operand.tmp 113) (Operand.const (Value.bool false)), type := 4, pos := "law.go:33", after := #[{ on := 38, ground := Ground.data }, { on := 41, ground := Ground.data }], guard := none }) (v := ?v41) rfl (by kernel_rfl) (by kernel_rfl) (by kernel_rfl) (fun _ _ _ h => h) (Or.inl ⟨by rfl, ?y41⟩) hHeld ?r41
      case y41 => (intro w hSw; (try dsimp only at hSw); go_simp; try with_reducible rfl)
      try simp only [Act.put, List.setIfInBounds_toArray, List.set_cons_zero, List.set_cons_succ]
      refine wpAnyH_take (i := 43) (oi := { dst := some 115, op := Op.move (Operand.tmp 114), type := 4, pos := "law.go:33", after := #[{ on := 42, ground := Ground.data }, { on := 38, ground := Ground.chain }], guard := none }) (v := ?v42) rfl (by kernel_rfl) (by kernel_rfl) (by kernel_rfl) (fun _ _ _ h => h) (Or.inl ⟨by rfl, ?y42⟩) hHeld ?r42
      case y42 => (intro w hSw; (try dsimp only at hSw); go_simp; try with_reducible rfl)
      try simp only [Act.put, List.setIfInBounds_toArray, List.set_cons_zero, List.set_cons_succ]
      refine wpAnyH_take (i := 44) (oi := { dst := some 116, op := Op.move (Operand.tmp 14), type := 31, pos := "law.go:33", after := #[{ on := 43, ground := Ground.guard }], guard := some (43, true) }) (v := ?v43) rfl (by kernel_rfl) (by kernel_rfl) (by kernel_rfl) (fun _ _ _ h => h) (Or.inl ⟨by rfl, ?y43⟩) hHeld ?r43
      case y43 => (intro w hSw; (try dsimp only at hSw); go_simp; try with_reducible rfl)
      try simp only [Act.put, List.setIfInBounds_toArray, List.set_cons_zero, List.set_cons_succ]
      refine wpAnyH_take (i := 45) (oi := { dst := some 117, op := Op.binOp BinOp.eql 31 (Operand.tmp 116) (Operand.const (Value.int IntKind.i64 8)) 31, type := 4, pos := "law.go:33", after := #[{ on := 44, ground := Ground.data }, { on := 43, ground := Ground.guard }], guard := some (43, true) }) (v := ?v44) rfl (by kernel_rfl) (by kernel_rfl) (by kernel_rfl) (fun _ _ _ h => h) (Or.inl ⟨by rfl, ?y44⟩) hHeld ?r44
      case y44 => (intro w hSw; (try dsimp only at hSw); go_simp; try with_reducible rfl)
      try simp only [Act.put, List.setIfInBounds_toArray, List.set_cons_zero, List.set_cons_succ]
      refine wpAnyH_take (i := 46) (oi := { dst := some 118, op := Op.pick (Operand.tmp 115) (Operand.tmp 117) (Operand.const (Value.bool false)), type := 4, pos := "law.go:33", after := #[{ on := 43, ground := Ground.data }, { on := 45, ground := Ground.data }], guard := none }) (v := ?v45) rfl (by kernel_rfl) (by kernel_rfl) (by kernel_rfl) (fun _ _ _ h => h) (Or.inl ⟨by rfl, ?y45⟩) hHeld ?r45
      case y45 => (intro w hSw; (try dsimp only at hSw); go_simp; try with_reducible rfl)
      try simp only [Act.put, List.setIfInBounds_toArray, List.set_cons_zero, List.set_cons_succ]
      refine wpAnyH_take (i := 47) (oi := { dst := some 119, op := Op.move (Operand.tmp 118), type := 4, pos := "law.go:33", after := #[{ on := 46, ground := Ground.data }, { on := 43, ground := Ground.chain }], guard := none }) (v := ?v46) rfl (by kernel_rfl) (by kernel_rfl) (by kernel_rfl) (fun _ _ _ h => h) (Or.inl ⟨by rfl, ?y46⟩) hHeld ?r46
      case y46 => (intro w hSw; (try dsimp only at hSw); go_simp; try with_reducible rfl)
      try simp only [Act.put, List.setIfInBounds_toArray, List.set_cons_zero, List.set_cons_succ]
      refine wpAnyH_take (i := 48) (oi := { dst := some 120, op := Op.move (Operand.tmp 16), type := 31, pos := "law.go:33", after := #[{ on := 47, ground := Ground.guard }], guard := some (47, true) }) (v := ?v47) rfl (by kernel_rfl) (by kernel_rfl) (by kernel_rfl) (fun _ _ _ h => h) (Or.inl ⟨by rfl, ?y47⟩) hHeld ?r47
      case y47 => (intro w hSw; (try dsimp only at hSw); go_simp; try with_reducible rfl)
      try simp only [Act.put, List.setIfInBounds_toArray, List.set_cons_zero, List.set_cons_succ]
      refine wpAnyH_take (i := 49) (oi := { dst := some 121, op := Op.binOp BinOp.eql 31 (Operand.tmp 120) (Operand.const (Value.int IntKind.i64 6)) 31, type := 4, pos := "law.go:33", after := #[{ on := 48, ground := Ground.data }, { on := 47, ground := Ground.guard }], guard := some (47, true) }) (v := ?v48) rfl (by kernel_rfl) (by kernel_rfl) (by kernel_rfl) (fun _ _ _ h => h) (Or.inl ⟨by rfl, ?y48⟩) hHeld ?r48
      case y48 => (intro w hSw; (try dsimp only at hSw); go_simp; try with_reducible rfl)
      try simp only [Act.put, List.setIfInBounds_toArray, List.set_cons_zero, List.set_cons_succ]
      refine wpAnyH_take (i := 50) (oi := { dst := some 122, op := Op.pick (Operand.tmp 119) (Operand.tmp 121) (Operand.const (Value.bool false)), type := 4, pos := "law.go:33", after := #[{ on := 47, ground := Ground.data }, { on := 49, ground := Ground.data }], guard := none }) (v := ?v49) rfl (by kernel_rfl) (by kernel_rfl) (by kernel_rfl) (fun _ _ _ h => h) (Or.inl ⟨by rfl, ?y49⟩) hHeld ?r49
      case y49 => (intro w hSw; (try dsimp only at hSw); go_simp; try with_reducible rfl)
      try simp only [Act.put, List.setIfInBounds_toArray, List.set_cons_zero, List.set_cons_succ]
      refine wpAnyH_take (i := 51) (oi := { dst := some 123, op := Op.move (Operand.tmp 122), type := 4, pos := "law.go:33", after := #[{ on := 50, ground := Ground.data }, { on := 47, ground := Ground.chain }], guard := none }) (v := ?v50) rfl (by kernel_rfl) (by kernel_rfl) (by kernel_rfl) (fun _ _ _ h => h) (Or.inl ⟨by rfl, ?y50⟩) hHeld ?r50
      case y50 => (intro w hSw; (try dsimp only at hSw); go_simp; try with_reducible rfl)
      try simp only [Act.put, List.setIfInBounds_toArray, List.set_cons_zero, List.set_cons_succ]
      refine wpAnyH_take (i := 52) (oi := { dst := some 124, op := Op.move (Operand.tmp 18), type := 4, pos := "law.go:33", after := #[{ on := 51, ground := Ground.guard }], guard := some (51, true) }) (v := ?v51) rfl (by kernel_rfl) (by kernel_rfl) (by kernel_rfl) (fun _ _ _ h => h) (Or.inl ⟨by rfl, ?y51⟩) hHeld ?r51
      case y51 => (intro w hSw; (try dsimp only at hSw); go_simp; try with_reducible rfl)
      try simp only [Act.put, List.setIfInBounds_toArray, List.set_cons_zero, List.set_cons_succ]
      refine wpAnyH_take (i := 53) (oi := { dst := some 125, op := Op.pick (Operand.tmp 123) (Operand.tmp 124) (Operand.const (Value.bool false)), type := 4, pos := "law.go:33", after := #[{ on := 51, ground := Ground.data }, { on := 52, ground := Ground.data }], guard := none }) (v := ?v52) rfl (by kernel_rfl) (by kernel_rfl) (by kernel_rfl) (fun _ _ _ h => h) (Or.inl ⟨by rfl, ?y52⟩) hHeld ?r52
      case y52 => (intro w hSw; (try dsimp only at hSw); go_simp; try with_reducible rfl)
      try simp only [Act.put, List.setIfInBounds_toArray, List.set_cons_zero, List.set_cons_succ]
      refine wpAnyH_take (i := 54) (oi := { dst := some 126, op := Op.move (Operand.tmp 125), type := 4, pos := "law.go:33", after := #[{ on := 53, ground := Ground.data }, { on := 51, ground := Ground.chain }], guard := none }) (v := ?v53) rfl (by kernel_rfl) (by kernel_rfl) (by kernel_rfl) (fun _ _ _ h => h) (Or.inl ⟨by rfl, ?y53⟩) hHeld ?r53
      case y53 => (intro w hSw; (try dsimp only at hSw); go_simp; try with_reducible rfl)
      try simp only [Act.put, List.setIfInBounds_toArray, List.set_cons_zero, List.set_cons_succ]
      refine wpAnyH_take (i := 55) (oi := { dst := some 127, op := Op.load 28 (Operand.tmp 17), type := 28, pos := "law.go:33", after := #[{ on := 54, ground := Ground.guard }], guard := some (54, true) }) (v := ?v54) rfl (by kernel_rfl) (by kernel_rfl) (by kernel_rfl) (fun _ _ _ h => h) (Or.inl ⟨by rfl, ?y54⟩) hHeld ?r54
      case y54 => (intro w hSw; (try dsimp only at hSw); go_simp; try with_reducible rfl)
      try simp only [Act.put, List.setIfInBounds_toArray, List.set_cons_zero, List.set_cons_succ]
      refine wpAnyH_take (i := 56) (oi := { dst := some 128, op := Op.move (Operand.tmp 3), type := 24, pos := "law.go:33", after := #[{ on := 54, ground := Ground.guard }], guard := some (54, true) }) (v := ?v55) rfl (by kernel_rfl) (by kernel_rfl) (by kernel_rfl) (fun _ _ _ h => h) (Or.inl ⟨by rfl, ?y55⟩) hHeld ?r55
      case y55 => (intro w hSw; (try dsimp only at hSw); go_simp; try with_reducible rfl)
      try simp only [Act.put, List.setIfInBounds_toArray, List.set_cons_zero, List.set_cons_succ]
      refine wpAnyH_take (i := 57) (oi := { dst := some 129, op := Op.indexAddr 24 (Operand.tmp 128) (Operand.const (Value.int IntKind.i64 1)), type := 0, pos := "law.go:33", after := #[{ on := 56, ground := Ground.data }, { on := 54, ground := Ground.guard }], guard := some (54, true) }) (v := ?v56) rfl (by kernel_rfl) (by kernel_rfl) (by kernel_rfl) (fun _ _ _ h => h) (Or.inl ⟨by rfl, ?y56⟩) hHeld ?r56
      case y56 => (intro w hSw; (try dsimp only at hSw); go_simp; try with_reducible rfl)
      try simp only [Act.put, List.setIfInBounds_toArray, List.set_cons_zero, List.set_cons_succ]
      refine wpAnyH_take (i := 58) (oi := { dst := some 130, op := Op.load 28 (Operand.tmp 129), type := 28, pos := "law.go:33", after := #[{ on := 57, ground := Ground.data }, { on := 54, ground := Ground.guard }], guard := some (54, true) }) (v := ?v57) rfl (by kernel_rfl) (by kernel_rfl) (by kernel_rfl) (fun _ _ _ h => h) (Or.inl ⟨by rfl, ?y57⟩) hHeld ?r57
      case y57 => (intro w hSw; (try dsimp only at hSw); go_simp; try with_reducible rfl)
      try simp only [Act.put, List.setIfInBounds_toArray, List.set_cons_zero, List.set_cons_succ]
      refine wpAnyH_take (i := 59) (oi := { dst := some 131, op := Op.binOp BinOp.eql 28 (Operand.tmp 127) (Operand.tmp 130) 28, type := 4, pos := "law.go:33", after := #[{ on := 55, ground := Ground.data }, { on := 58, ground := Ground.data }, { on := 54, ground := Ground.guard }], guard := some (54, true) }) (v := ?v58) rfl (by kernel_rfl) (by kernel_rfl) (by kernel_rfl) (fun _ _ _ h => h) (Or.inl ⟨by rfl, ?y58⟩) hHeld ?r58
      case y58 => (intro w hSw; (try dsimp only at hSw); go_simp; try with_reducible rfl)
      try simp only [Act.put, List.setIfInBounds_toArray, List.set_cons_zero, List.set_cons_succ]
      refine wpAnyH_take (i := 60) (oi := { dst := some 132, op := Op.pick (Operand.tmp 126) (Operand.tmp 131) (Operand.const (Value.bool false)), type := 4, pos := "law.go:33", after := #[{ on := 54, ground := Ground.data }, { on := 59, ground := Ground.data }], guard := none }) (v := ?v59) rfl (by kernel_rfl) (by kernel_rfl) (by kernel_rfl) (fun _ _ _ h => h) (Or.inl ⟨by rfl, ?y59⟩) hHeld ?r59
      case y59 => (intro w hSw; (try dsimp only at hSw); go_simp; try with_reducible rfl)
      try simp only [Act.put, List.setIfInBounds_toArray, List.set_cons_zero, List.set_cons_succ]
      refine wpAnyH_take (i := 61) (oi := { dst := some 133, op := Op.move (Operand.tmp 132), type := 4, pos := "law.go:33", after := #[{ on := 60, ground := Ground.data }, { on := 54, ground := Ground.chain }], guard := none }) (v := ?v60) rfl (by kernel_rfl) (by kernel_rfl) (by kernel_rfl) (fun _ _ _ h => h) (Or.inl ⟨by rfl, ?y60⟩) hHeld ?r60
      case y60 => (intro w hSw; (try dsimp only at hSw); go_simp; try with_reducible rfl)
      try simp only [Act.put, List.setIfInBounds_toArray, List.set_cons_zero, List.set_cons_succ]
      refine wpAnyH_take (i := 62) (oi := { dst := some 134, op := Op.move (Operand.tmp 11), type := 24, pos := "law.go:33", after := #[{ on := 61, ground := Ground.guard }], guard := some (61, true) }) (v := ?v61) rfl (by kernel_rfl) (by kernel_rfl) (by kernel_rfl) (fun _ _ _ h => h) (Or.inl ⟨by rfl, ?y61⟩) hHeld ?r61
      case y61 => (intro w hSw; (try dsimp only at hSw); go_simp; try with_reducible rfl)
      try simp only [Act.put, List.setIfInBounds_toArray, List.set_cons_zero, List.set_cons_succ]
      refine wpAnyH_ready (rs := [63]) (by kernel_rfl) (by simp) ?_
      refine AllReadyH.cons (o := { dst := some 135, op := Op.call { callee := Callee.value (Operand.func 12), args := #[Operand.tmp 134], argTypes := #[24] }, type := 31, pos := "law.go:33", after := #[{ on := 62, ground := Ground.data }, { on := 61, ground := Ground.chain }, { on := 61, ground := Ground.guard }], guard := some (61, true) }) rfl (fun K hK => ?_) ?_
      · clear hHeld
        go_simp
        go_at_call 12
        with_reducible refine (CK.out _ s6 c6 LH.out.m.m).mono ?_
        rintro e w22 ⟨rfl, hb⟩
        replace LH := Lib.hid (LH.out.keep hb)
        clear hb
        refine hK.out _ _ ?_ (fun hHeld => ?_)
        · exact LH.out.ld
        clear hK K
        try simp only [Act.put, List.setIfInBounds_toArray, List.set_cons_zero, List.set_cons_succ]
        refine wpAnyH_take (i := 64) (oi := { dst := some 136, op := Op.binOp BinOp.eql 31 (Operand.tmp 135) (Operand.const (Value.int IntKind.i64 0)) 31, type := 4, pos := "law.go:33", after := #[{ on := 63, ground := Ground.data }, { on := 61, ground := Ground.guard }], guard := some (61, true) }) (v := ?v62) rfl (by kernel_rfl) (by kernel_rfl) (by kernel_rfl) (fun _ _ _ h => h) (Or.inl ⟨by rfl, ?y62⟩) hHeld ?r62
        case y62 => (intro w hSw; (try dsimp only at hSw); go_simp; try with_reducible rfl)
        try simp only [Act.put, List.setIfInBounds_toArray, List.set_cons_zero, List.set_cons_succ]
        refine wpAnyH_take (i := 65) (oi := { dst := some 137, op := Op.pick (Operand.tmp 133) (Operand.tmp 136) (Operand.const (Value.bool false)), type := 4, pos := "law.go:33", after := #[{ on := 61, ground := Ground.data }, { on := 64, ground := Ground.data }], guard := none }) (v := ?v63) rfl (by kernel_rfl) (by kernel_rfl) (by kernel_rfl) (fun _ _ _ h => h) (Or.inl ⟨by rfl, ?y63⟩) hHeld ?r63
        case y63 => (intro w hSw; (try dsimp only at hSw); go_simp; try with_reducible rfl)
        try simp only [Act.put, List.setIfInBounds_toArray, List.set_cons_zero, List.set_cons_succ]
        refine wpAnyH_take (i := 66) (oi := { dst := some 138, op := Op.move (Operand.tmp 137), type := 4, pos := "law.go:33", after := #[{ on := 65, ground := Ground.data }, { on := 63, ground := Ground.chain }], guard := none }) (v := ?v64) rfl (by kernel_rfl) (by kernel_rfl) (by kernel_rfl) (fun _ _ _ h => h) (Or.inl ⟨by rfl, ?y64⟩) hHeld ?r64
        case y64 => (intro w hSw; (try dsimp only at hSw); go_simp; try with_reducible rfl)
        try simp only [Act.put, List.setIfInBounds_toArray, List.set_cons_zero, List.set_cons_succ]
        refine wpAnyH_take (i := 67) (oi := { dst := some 139, op := Op.move (Operand.tmp 11), type := 24, pos := "law.go:33", after := #[{ on := 66, ground := Ground.guard }], guard := some (66, true) }) (v := ?v65) rfl (by kernel_rfl) (by kernel_rfl) (by kernel_rfl) (fun _ _ _ h => h) (Or.inl ⟨by rfl, ?y65⟩) hHeld ?r65
        case y65 => (intro w hSw; (try dsimp only at hSw); go_simp; try with_reducible rfl)
        try simp only [Act.put, List.setIfInBounds_toArray, List.set_cons_zero, List.set_cons_succ]
        refine wpAnyH_take (i := 68) (oi := { dst := some 140, op := Op.load 26 (Operand.tmp 1), type := 26, pos := "law.go:33", after := #[{ on := 66, ground := Ground.guard }], guard := some (66, true) }) (v := ?v66) rfl (by kernel_rfl) (by kernel_rfl) (by kernel_rfl) (fun _ _ _ h => h) (Or.inl ⟨by rfl, ?y66⟩) hHeld ?r66
        case y66 => (intro w hSw; (try dsimp only at hSw); go_simp; try with_reducible rfl)
        try simp only [Act.put, List.setIfInBounds_toArray, List.set_cons_zero, List.set_cons_succ]
        refine wpAnyH_ready (rs := [69]) (by kernel_rfl) (by simp) ?_
        refine AllReadyH.cons (o := { dst := some 141, op := Op.call { callee := Callee.value (Operand.func 24), args := #[Operand.tmp 139, Operand.tmp 140], argTypes := #[24, 26] }, type := 3, pos := "law.go:33", after := #[{ on := 67, ground := Ground.data }, { on := 68, ground := Ground.data }, { on := 66, ground := Ground.chain }, { on := 66, ground := Ground.guard }], guard := some (66, true) }) rfl (fun K hK => ?_) ?_
        · clear hHeld
          go_simp
          go_at_call 24
          with_reducible refine (CT.out _ s6 c6 LH.out.m.m).mono ?_
          rintro e w23 ⟨rfl, hb⟩
          replace LH := Lib.hid (LH.out.keep hb)
          clear hb
          refine hK.out _ _ ?_ (fun hHeld => ?_)
          · exact LH.out.ld
          clear hK K
          try simp only [Act.put, List.setIfInBounds_toArray, List.set_cons_zero, List.set_cons_succ]
          refine wpAnyH_take (i := 70) (oi := { dst := some 142, op := Op.binOp BinOp.eql 3 (Operand.tmp 141) (Operand.const (Value.int IntKind.i64 2)) 3, type := 4, pos := "law.go:33", after := #[{ on := 69, ground := Ground.data }, { on := 66, ground := Ground.guard }], guard := some (66, true) }) (v := ?v67) rfl (by kernel_rfl) (by kernel_rfl) (by kernel_rfl) (fun _ _ _ h => h) (Or.inl ⟨by rfl, ?y67⟩) hHeld ?r67
          case y67 => (intro w hSw; (try dsimp only at hSw); go_simp; try with_reducible rfl)
          try simp only [Act.put, List.setIfInBounds_toArray, List.set_cons_zero, List.set_cons_succ]
          refine wpAnyH_take (i := 71) (oi := { dst := some 143, op := Op.pick (Operand.tmp 138) (Operand.tmp 142) (Operand.const (Value.bool false)), type := 4, pos := "law.go:33", after := #[{ on := 66, ground := Ground.data }, { on := 70, ground := Ground.data }], guard := none }) (v := ?v68) rfl (by kernel_rfl) (by kernel_rfl) (by kernel_rfl) (fun _ _ _ h => h) (Or.inl ⟨by rfl, ?y68⟩) hHeld ?r68
          case y68 => (intro w hSw; (try dsimp only at hSw); go_simp; try with_reducible rfl)
          try simp only [Act.put, List.setIfInBounds_toArray, List.set_cons_zero, List.set_cons_succ]
          refine wpAnyH_take (i := 72) (oi := { dst := some 0, op := Op.assign (Operand.tmp 143), type := 4, pos := "law.go:33", after := ([{ on := 71, ground := Ground.data }, { on := 69, ground := Ground.chain }, { on := 0, ground := Ground.phase }, { on := 1, ground := Ground.phase }, { on := 2, ground := Ground.phase }, { on := 3, ground := Ground.phase }, { on := 4, ground := Ground.phase }, { on := 5, ground := Ground.phase }, { on := 6, ground := Ground.phase }, { on := 7, ground := Ground.phase }, { on := 8, ground := Ground.phase }, { on := 9, ground := Ground.phase }, { on := 10, ground := Ground.phase }, { on := 11, ground := Ground.phase }, { on := 12, ground := Ground.phase }, { on := 13, ground := Ground.phase }, { on := 14, ground := Ground.phase }, { on := 15, ground := Ground.phase }, { on := 16, ground := Ground.phase }, { on := 17, ground := Ground.phase }, { on := 18, ground := Ground.phase }, { on := 19, ground := Ground.phase }, { on := 20, ground := Ground.phase }, { on := 21, ground := Ground.phase }, { on := 22, ground := Ground.phase }, { on := 23, ground := Ground.phase }, { on := 24, ground := Ground.phase }, { on := 25, ground := Ground.phase }, { on := 26, ground := Ground.phase }, { on := 27, ground := Ground.phase }, { on := 28, ground := Ground.phase }, { on := 29, ground := Ground.phase }, { on := 30, ground := Ground.phase }, { on := 31, ground := Ground.phase }, { on := 32, ground := Ground.phase }, { on := 33, ground := Ground.phase }, { on := 34, ground := Ground.phase }, { on := 35, ground := Ground.phase }, { on := 36, ground := Ground.phase }, { on := 37, ground := Ground.phase }, { on := 38, ground := Ground.phase }, { on := 39, ground := Ground.phase }, { on := 40, ground := Ground.phase }, { on := 41, ground := Ground.phase }, { on := 42, ground := Ground.phase }, { on := 43, ground := Ground.phase }, { on := 44, ground := Ground.phase }, { on := 45, ground := Ground.phase }, { on := 46, ground := Ground.phase }, { on := 47, ground := Ground.phase }, { on := 48, ground := Ground.phase }, { on := 49, ground := Ground.phase }, { on := 50, ground := Ground.phase }, { on := 51, ground := Ground.phase }, { on := 52, ground := Ground.phase }, { on := 53, ground := Ground.phase }, { on := 54, ground := Ground.phase }, { on := 55, ground := Ground.phase }, { on := 56, ground := Ground.phase }, { on := 57, ground := Ground.phase }, { on := 58, ground := Ground.phase }, { on := 59, ground := Ground.phase }, { on := 60, ground := Ground.phase }, { on := 61, ground := Ground.phase }, { on := 62, ground := Ground.phase }, { on := 63, ground := Ground.phase }, { on := 64, ground := Ground.phase }, { on := 65, ground := Ground.phase }, { on := 66, ground := Ground.phase }, { on := 67, ground := Ground.phase }, { on := 68, ground := Ground.phase }, { on := 69, ground := Ground.phase }, { on := 70, ground := Ground.phase }, { on := 71, ground := Ground.phase }] : List _).toArray, guard := none }) (v := ?v69) rfl (by kernel_rfl) (by kernel_rfl) (by kernel_rfl) (fun _ _ _ h => h) (Or.inl ⟨by rfl, ?y69⟩) hHeld ?r69
          case y69 => (intro w hSw; (try dsimp only at hSw); go_simp; try with_reducible rfl)
          try simp only [Act.put, List.setIfInBounds_toArray, List.set_cons_zero, List.set_cons_succ]
          refine wpAnyH_done (by kernel_rfl) ?_ _
          go_wp2_with fail
          go_returns
          exact ⟨rfl, LH.out.m.z.lv.bel⟩
        exact AllReadyH.nil
      exact AllReadyH.nil
    exact AllReadyH.nil
  exact AllReadyH.nil
end Go.Proofs.Ytaljdjabppiglaa
