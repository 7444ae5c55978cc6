/-
  WALKS of package queue: slices.Grow, slices.Concat, Pop (its region 4 written by gen_branch.py with qu_conf.py by mkqu23.py).
-/
import Derived.Test.YtaljdjabppiglaaQuPush
import Derived.Lib.AppendZeros
namespace Go.Proofs.Ytaljdjabppiglaa
open Go.RowKit Go.Qu Go.Wr Go.Ad
attribute [local go_sem ↓ high] Ix_.loadF Ix_.storeF Ix_.v_cells Ix_.v_match
attribute [local go_sem] Ix_.C0 Ix_.C1 Ix_.C2 Ix_.C3 Ix_.C4 Ix_.C5 Ix_.C6 Ix_.loadF_new Ix_.storeF_zero Oper.semAt_some fold_c Ix_.Csize

/-- A row of n zero items, cut to none. -/
theorem zeros_own (w : World) (n : Nat) (hn : n ≤ 3000) : (w.drew.alloc (.cells (Builtin.zeroCells (Value.agg #[.int .i64 0, .int .i64 0, .int .u64 0, .int .u64 0, .string ⟨#[]⟩, .int .i64 0, .int .i64 0]).cells n ++ Builtin.zeroCells (Value.agg #[.int .i64 0, .int .i64 0, .int .u64 0, .int .u64 0, .string ⟨#[]⟩, .int .i64 0, .int .i64 0]).cells (grownCap w n 0 28 - n)) 28)).ownsRow w.heap.size 28 7 (.slice (some ⟨w.heap.size, 0, none⟩) 0 (grownCap w n 0 28)) 0 [] := by
  have h1 := grownCap_ge w n 0 28
  have h2 := grownCap_le_maxLen w n 0 28 (by unfold maxLen; omega)
  have hs : (Builtin.zeroCells (Value.agg #[.int .i64 0, .int .i64 0, .int .u64 0, .int .u64 0, .string ⟨#[]⟩, .int .i64 0, .int .i64 0]).cells n ++ Builtin.zeroCells (Value.agg #[.int .i64 0, .int .i64 0, .int .u64 0, .int .u64 0, .string ⟨#[]⟩, .int .i64 0, .int .i64 0]).cells (grownCap w n 0 28 - n)).size = grownCap w n 0 28 * 7 := by
    simp only [Array.size_append, Builtin.zeroCells, Array.size_map, Array.size_range, Value.cells, List.size_toArray, List.length_cons, List.length_nil]
    omega
  generalize (Builtin.zeroCells (Value.agg #[.int .i64 0, .int .i64 0, .int .u64 0, .int .u64 0, .string ⟨#[]⟩, .int .i64 0, .int .i64 0]).cells n ++ Builtin.zeroCells (Value.agg #[.int .i64 0, .int .i64 0, .int .u64 0, .int .u64 0, .string ⟨#[]⟩, .int .i64 0, .int .i64 0]).cells (grownCap w n 0 28 - n)) = A at *
  refine ⟨rfl, .inr ⟨w.heap.size, _, A, rfl, Nat.le_refl _, ?_, Nat.zero_le _, h2, hs, by simp⟩⟩
  show (w.drew.heap.push _)[w.heap.size]? = _
  rw [show w.heap.size = w.drew.heap.size from rfl, Array.getElem?_push, if_pos rfl]

set_option maxRecDepth 100000 in
set_option maxHeartbeats 2000000 in
theorem grow23_any (n : Nat) (hn : n ≤ 3000) (w : World) :
    Calls Try.prog 50 #[.slice none 0 0, .int .i64 n] w fun e w' => ∃ v, e = .returned v ∧ OwnIt w w' v [] := by
  rcases Nat.eq_zero_or_pos n with rfl | h0
  · go_enter Try.func50, Try.ntmps50
    go_wp2
    go_returns
    exact ⟨_, rfl, nil_own _ _ (Below.refl _ _)⟩
  · obtain ⟨i0, hi0, hz0, hz1, hz2⟩ := info_parts It_.info
    have hd0 := fun W => head23 none 0 0 0 (Nat.le_refl _) (fun _ => rfl) W
    have hap : ∀ ty, (Builtin.append_ #[24, 3] ty #[.slice none 0 0, .int .i64 n]).run Try.prog w = _ := fun ty => Lib.run_append_nil_zeros w 24 3 ty 28 i0 _ .i64 .i64 Try.underlying24 Try.underlying3 hi0 hz0 n h0 (by rw [hz1]; decide) (by omega) (by rw [hz2]; omega)
    have HO := Lib.hid (zeros_own w n hn)
    have hG := grownCap_ge w n 0 28
    obtain ⟨w1, hw1⟩ : ∃ w1, w.drew.alloc (.cells (Builtin.zeroCells (Value.agg #[.int .i64 0, .int .i64 0, .int .u64 0, .int .u64 0, .string ⟨#[]⟩, .int .i64 0, .int .i64 0]).cells n ++ Builtin.zeroCells (Value.agg #[.int .i64 0, .int .i64 0, .int .u64 0, .int .u64 0, .string ⟨#[]⟩, .int .i64 0, .int .i64 0]).cells (grownCap w n 0 28 - n)) 28) = w1 := ⟨_, rfl⟩
    rw [hw1] at HO
    have B1 : Hid (Below w.heap.size w w1) := hw1 ▸ (show Below w.heap.size w w.drew from ⟨rfl, rfl, rfl, Nat.le_refl _, fun _ _ => rfl⟩).alloc (Nat.le_refl _) _
    rw [hw1] at hap
    generalize grownCap w n 0 28 = G at *
    have hd1 := fun W => head23 (some ⟨w.heap.size, 0, none⟩) n G 0 (Nat.zero_le _) (fun e => by cases e) W
    have h0' : (0 : Int) < (n : Int) := by omega
    clear hi0 hz0 hz1 hz2 hw1
    go_enter Try.func50, Try.ntmps50
    go_wp2_with (at_builtin; refine Lib.wpList_append_run _ rfl _ _ _ _ rfl _ _ rfl rfl _ _ (hap _) ?_)
    go_wp2
    go_returns
    exact ⟨_, rfl, HO.out, B1.out⟩

def catTo (l m : List It) : Nat → List It
  | 0 => []
  | 1 => l
  | _ => l ++ m
set_option maxRecDepth 100000 in
set_option maxHeartbeats 4000000 in
theorem concat23_any (g : Nat) (s1 s2 : Option Addr) (c1 c2 : Nat) (l m : List It) (w : World) (h0 : w.cell? ⟨g, 0, none⟩ = some (.slice s1 l.length c1)) (h1 : w.cell? ⟨g, 1, none⟩ = some (.slice s2 m.length c2)) (hg : g < w.heap.size) (S1 : It_.Sl w s1 l c1) (S2 : It_.Sl w s2 m c2) (hl : l.length ≤ 1000) (hm : m.length ≤ 1000) :
    Calls Try.prog 34 #[.slice (some ⟨g, 0, none⟩) 2 2] w fun e w' => ∃ v, e = .returned v ∧ OwnIt w w' v (l ++ m) := by
  have HS1 := Lib.hid S1
  have HS2 := Lib.hid S2
  have HG := Lib.hid hg
  have H0 := Lib.hid h0
  have H1 := Lib.hid h1
  have CG := Lib.hid (grow23_any (l.length + m.length) (by omega) w)
  have HC2 : Hid ((catTo l m 2).length = l.length + m.length) := List.length_append
  clear S1 S2 hg
  go_enter Try.func34, Try.ntmps34
  go_wp2
  go_loopw [3, 11] (fun v z wr => ∃ j : Nat, z = .int .i64 j ∧ j ≤ 2 ∧ v = .int .i64 (catTo l m j).length ∧ w = wr) (fun _ z _ => 2 - (intOf z).toNat)
  case atStart => exact ⟨0, rfl, Nat.zero_le _, rfl, rfl⟩
  case round =>
    obtain ⟨j, rfl, hj, rfl, rfl⟩ := hrel
    rcases (show j = 0 ∨ j = 1 ∨ j = 2 by omega) with rfl | rfl | rfl
    · have e0 : (catTo l m 0).length = 0 := rfl
      rw [e0]
      go_wp2
      go_roundw
      case rel => exact ⟨1, by go_num, by decide, by simp [catTo], trivial⟩
      case measure => simp [intOf]
    · have e1 : catTo l m 1 = l := rfl
      rw [e1]
      go_wp2
      go_roundw
      case rel => exact ⟨2, by go_num, by decide, by rw [HC2.out]; go_num, trivial⟩
      case measure => simp [intOf]
    · rw [HC2.out]
      go_wp2_with (go_at_call 50; refine CG.out.mono ?_)
      rintro e w2 ⟨v, rfl, hO⟩
      have HO := Lib.hid hO
      clear hO h0 h1
      go_wp2_with fail
      go_loopw [6, 27] (fun v z wr => ∃ j : Nat, z = .int .i64 j ∧ j ≤ 2 ∧ Hid (OwnIt w wr v (catTo l m j))) (fun _ z _ => 2 - (intOf z).toNat)
      case atStart => exact ⟨0, rfl, Nat.zero_le _, HO⟩
      case round =>
        clear HO
        rename World => wr
        obtain ⟨j, rfl, hj, HR⟩ := hrel
        have k0 := (HR.out.2.cell (p := ⟨g, 0, none⟩) HG.out).trans H0.out
        have k1 := (HR.out.2.cell (p := ⟨g, 1, none⟩) HG.out).trans H1.out
        rcases (show j = 0 ∨ j = 1 ∨ j = 2 by omega) with rfl | rfl | rfl
        · go_wp2_with (at_builtin; refine wpList_appIt _ rfl _ _ rfl w.heap.size _ 0 [] rfl HR.out.1 s1 l.length c1 l rfl rfl (HS1.out.below HR.out.2) (by omega) HR.out.2.size ?_)
          intro v0 c' w' hown hb
          have R : Hid (OwnIt w w' (.slice v0 l.length c') l) := ⟨by simpa using hown, HR.out.2.trans hb⟩
          clear hown hb
          go_wp2
          go_roundw
          case rel => exact ⟨1, by go_num, by decide, R⟩
          case measure => simp [intOf]
        · go_wp2_with (at_builtin; refine wpList_appIt _ rfl _ _ rfl w.heap.size _ l.length l rfl HR.out.1 s2 m.length c2 m rfl rfl (HS2.out.below HR.out.2) (by omega) HR.out.2.size ?_)
          intro v0 c' w' hown hb
          have R : Hid (OwnIt w w' (.slice v0 (l.length + m.length) c') (l ++ m)) := ⟨by rw [List.length_append]; exact hown, HR.out.2.trans hb⟩
          clear hown hb
          go_wp2
          go_roundw
          case rel => exact ⟨2, by go_num, by decide, R⟩
          case measure => simp [intOf]
        · go_wp2
          go_returns
          exact ⟨_, rfl, HR.out⟩

/-- An item and two more handed back. -/
theorem ret_it3 {fn : Func} {p q r : Tmp} (hr : fn.results = #[.cell p 28, .tmp q, .tmp r]) {tmps : Array Value} {ds : _} {w : World} {g : Nat} {y : It} {vq vr : Value} {R : Ending → World → Prop} (hp : tmps.getD p undef = .pointer (some ⟨g, 0, none⟩)) (hq : tmps.getD q undef = vq) (hr' : tmps.getD r undef = vr) (hb : Ix_.Box w g y) (hd : ds = []) (hR : R (.returned (.tuple #[Ix_.v y, vq, vr])) w) :
    bodyPost Try.prog fn R .ret ⟨tmps, ds⟩ w := by
  refine bodyPost_ret (v := .tuple #[Ix_.v y, vq, vr]) ?_ hd hR
  have hp' : tmps[p]?.getD undef = .pointer (some ⟨g, 0, none⟩) := by simpa using hp
  have hq' : tmps[q]?.getD undef = vq := by simpa using hq
  have hr'' : tmps[r]?.getD undef = vr := by simpa using hr'
  have hl := run_loadVar_row w g 28 28 (Ix_.C y) (0, 0) _ hb Try.underlying28 rfl Ix_.sz
  simp [results, hr, hp', hq', hr'', asAddr, hl]
  rfl
theorem ret_it2 {fn : Func} {p q : Tmp} (hr : fn.results = #[.cell p 28, .tmp q]) {tmps : Array Value} {ds : _} {w : World} {g : Nat} {y : It} {vq : Value} {R : Ending → World → Prop} (hp : tmps.getD p undef = .pointer (some ⟨g, 0, none⟩)) (hq : tmps.getD q undef = vq) (hb : Ix_.Box w g y) (hd : ds = []) (hR : R (.returned (.tuple #[Ix_.v y, vq])) w) :
    bodyPost Try.prog fn R .ret ⟨tmps, ds⟩ w := by
  refine bodyPost_ret (v := .tuple #[Ix_.v y, vq]) ?_ hd hR
  have hp' : tmps[p]?.getD undef = .pointer (some ⟨g, 0, none⟩) := by simpa using hp
  have hq' : tmps[q]?.getD undef = vq := by simpa using hq
  have hl := run_loadVar_row w g 28 28 (Ix_.C y) (0, 0) _ hb Try.underlying28 rfl Ix_.sz
  simp [results, hr, hp', hq', asAddr, hl]
  rfl

/-- The result's cell, zero. -/
structure Pp (w : World) (wi : World) : Prop where
  rs : Ix_.Box wi w.heap.size zit
  bel : Below w.heap.size w wi
theorem Pp.keep {w wi wj : World} (h : Pp w wi) (hb : Below wi.heap.size wi wj) : Pp w wj := ⟨h.rs.below hb h.rs.lt, h.bel.trans (hb.mono h.bel.size)⟩
/-- And two values in a row. -/
structure Pw (w : World) (a b : Value) (gt : Nat) (wi : World) : Prop where
  p : Pp w wi
  c0 : wi.cell? ⟨gt, 0, none⟩ = some a
  c1 : wi.cell? ⟨gt, 1, none⟩ = some b
  lt : gt < wi.heap.size
theorem Pw.bel {w wi : World} {a b : Value} {gt : Nat} (h : Pw w a b gt wi) : Below w.heap.size w wi := h.p.bel
theorem Pp.two {w wi : World} (h : Pp w wi) (a b : Value) : ∃ gt w', wi.heap.size = gt ∧ wi.alloc (.cells #[a, b] 24) = w' ∧ Pw w a b gt w' := by
  have hh : (wi.alloc (.cells #[a, b] 24)).heap[wi.heap.size]? = some (.cells #[a, b] 24 (0, 0)) := by
    show (wi.heap.push _)[wi.heap.size]? = _
    rw [Array.getElem?_push, if_pos rfl]
  exact ⟨_, _, rfl, rfl, h.keep ((Below.refl _ _).alloc (Nat.le_refl _) _), cell_of_row _ _ 0 _ _ _ hh, cell_of_row _ _ 1 _ _ _ hh, by simp⟩
/-- And a row of the call's own. -/
structure Po (w : World) (base : Nat) (v : Value) (l : List It) (wi : World) : Prop where
  p : Pp w wi
  own : wi.ownsRow base 28 7 v l.length (It_.flat l)
  lo : w.heap.size < base
theorem Po.bel {w wi : World} {base : Nat} {v : Value} {l : List It} (h : Po w base v l wi) : Below w.heap.size w wi := h.p.bel
theorem Pw.call {w wi wj : World} {a b v : Value} {gt : Nat} {l : List It} (h : Pw w a b gt wi) (o : OwnIt wi wj v l) : Po w wi.heap.size v l wj := ⟨h.p.keep o.2, o.1, h.p.rs.lt⟩
theorem Pp.call {w wi wj : World} {v : Value} {l : List It} (h : Pp w wi) (o : OwnIt wi wj v l) : Po w wi.heap.size v l wj := ⟨h.keep o.2, o.1, h.rs.lt⟩
/-- The item is laid into the result's cell. -/
structure Pd (w : World) (x : It) (v : Value) (l : List It) (wi : World) : Prop where
  bx : Ix_.Box wi w.heap.size x
  own : OwnIt w wi v l
theorem Pd.bel {w wi : World} {x : It} {v : Value} {l : List It} (h : Pd w x v l wi) : Below w.heap.size w wi := h.own.2
theorem owns_row23 {w : World} {base size n B : Nat} {e : TypeId} {v : Value} {xs : List Value} {c : Array Value} (h : w.ownsRow base e size v n xs) (hB : B < base) : (w.setRow B c).ownsRow base e size v n xs := by
  obtain ⟨h0, h1 | ⟨g, cap, cur, h1, h2, h3, h4⟩⟩ := h
  · exact ⟨h0, .inl h1⟩
  · refine ⟨h0, .inr ⟨g, cap, cur, h1, h2, ?_, h4⟩⟩
    have e2 : (w.setRow B c).heap[g]? = w.heap[g]? := by
      simp only [World.setRow, Array.getElem?_modify]; rw [if_neg (by omega)]
    exact e2.trans h3
theorem below_row23 {w wi : World} {r : Nat} (hb : Below w.heap.size w wi) (hr : w.heap.size ≤ r) (c : Array Value) : Below w.heap.size w (wi.setRow r c) :=
  ⟨hb.os, hb.tape, hb.output, by have := hb.size; simpa [World.setRow] using this, fun k hk => (Ix_.setRow_other (by omega) c).trans (hb.block k hk)⟩
theorem Po.store {w wi : World} {base : Nat} {v : Value} {l : List It} (h : Po w base v l wi) (x : It) : ∃ w', (Ix_.StoreF ⟨w.heap.size, 0, none⟩ (Ix_.v x)).run Try.prog wi = .ok () w' ∧ Pd w x v l w' :=
  ⟨_, h.p.rs.storeF x, h.p.rs.setRow x, owns_up23 (owns_row23 h.own h.lo) (Nat.le_of_lt h.lo), below_row23 h.p.bel (Nat.le_refl _) _⟩
/-- What Pop hands back. -/
def popI (a : Int) (l : List It) : It := if fidx (isTo a) l < l.length then itAt l (fidx (isTo a) l) else zit
def popL (a : Int) (l : List It) : List It := if fidx (isTo a) l < l.length then without l (fidx (isTo a) l) else l
def popB (a : Int) (l : List It) : Bool := decide (fidx (isTo a) l < l.length)

set_option maxRecDepth 100000 in
set_option maxHeartbeats 4000000 in
theorem qu_pop_any (sa : Option Addr) (l : List It) (c : Nat) (a : Int) (w : World) (hS : It_.Sl w sa l c) (hl : l.length ≤ 1000) :
    Calls Try.prog 9 #[.slice sa l.length c, .int .u64 a] w fun e w' => ∃ v, e = .returned (.tuple #[Ix_.v (popI a l), v, .bool (popB a l)]) ∧ OwnIt w w' v (popL a l) := by
  obtain ⟨w1, hw1⟩ : ∃ w1, w.alloc (.cells (Ix_.C zit) 28) = w1 := ⟨_, rfl⟩
  have hw1' : w.alloc (.cells #[.int .i64 0, .int .i64 0, .int .u64 0, .int .u64 0, .string ⟨#[]⟩, .int .i64 0, .int .i64 0] 28) = w1 := hw1
  have HP := Lib.hid (show Pp w w1 from ⟨hw1 ▸ Ix_.Box.new w zit, hw1 ▸ (Below.refl _ _).alloc (Nat.le_refl _) _⟩)
  have CM := Lib.hid (fun w => mkFor_any a w)
  have CI := Lib.hid (fun b w1 (hN : Nc b (.int .u64 a) w1) (hb : Below w.heap.size w w1) => qu_index_any (Nc b (.int .u64 a)) 49 #[.pointer (some ⟨b, 0, none⟩)] (isTo a) (fun _ => True) (isFor_tells a b) sa l c w1 (fun W hW => hN.keep hW) (fun _ _ => trivial) (hS.below hb) hl)
  have CC := Lib.hid (fun W (h : Below w.heap.size w W) => clone23_any sa l c W (hS.below h) hl)
  have HL := Lib.hid hl
  have HS := Lib.hid hS
  have hle := hS.le
  have hnil := hS.nil
  clear hS hw1
  unfold idx at CI
  by_cases hf : fidx (isTo a) l < l.length
  · rw [if_pos hf] at CI
    have HE : Hid (popI a l = l[fidx (isTo a) l] ∧ popL a l = without l (fidx (isTo a) l) ∧ popB a l = true) := by
      unfold popI popL popB
      exact ⟨by rw [if_pos hf, itAt_eq hf], if_pos hf, decide_eq_true hf⟩
    obtain ⟨E1, E2, E3⟩ := HE.out
    rw [E1, E2, E3]
    clear E1 E2 E3 HE
    obtain ⟨b, off, hsa, hbl, -⟩ := HS.out.lies _ hf
    have HLD := Lib.hid (fun W (hW : Below w.heap.size w W) => it_load (HS.out.lies.below hW) hf hsa)
    have HT := Lib.hid (fun W (hW : Below w.heap.size w W) => sl_take23 (HS.out.below (W' := W) hW) (fidx (isTo a) l))
    have HDr := Lib.hid (fun W (hW : Below w.heap.size w W) => sl_drop23 (HS.out.below (W' := W) hW) (fidx (isTo a) l + 1) (by omega))
    have hd1 := fun W => head23 sa l.length c (fidx (isTo a) l) (by omega) hnil W
    have hd2 := fun W => tail23 sa l.length c (fidx (isTo a) l + 1) (by omega) hnil hle W
    have ht1 : (l.take (fidx (isTo a) l)).length = fidx (isTo a) l := by rw [List.length_take]; omega
    have ht2 : (l.drop (fidx (isTo a) l + 1)).length = l.length - (fidx (isTo a) l + 1) := List.length_drop
    have CCN : Hid (∀ W g, Below w.heap.size w W → W.cell? ⟨g, 0, none⟩ = some (.slice sa (fidx (isTo a) l) c) → W.cell? ⟨g, 1, none⟩ = some (.slice (cut23 sa (fidx (isTo a) l + 1) c) (l.length - (fidx (isTo a) l + 1)) (c - (fidx (isTo a) l + 1))) → g < W.heap.size → Calls Try.prog 34 #[.slice (some ⟨g, 0, none⟩) 2 2] W fun e w' => ∃ v, e = .returned v ∧ OwnIt W w' v (without l (fidx (isTo a) l))) := fun W g hW h0 h1 hg =>
      concat23_any g sa (cut23 sa (fidx (isTo a) l + 1) c) c (c - (fidx (isTo a) l + 1)) (l.take (fidx (isTo a) l)) (l.drop (fidx (isTo a) l + 1)) W (by rw [ht1]; exact h0) (by rw [ht2]; exact h1) hg (HT.out W hW) (HDr.out W hW) (by rw [ht1]; omega) (by rw [ht2]; omega)
    subst hsa
    have hfi : ((fidx (isTo a) l : Nat) : Int) < (l.length : Int) := by omega
    have hf0 : (0 : Int) ≤ ((fidx (isTo a) l : Nat) : Int) := by omega
    have hf1 : fidx (isTo a) l ≤ 1000 := by omega
    have hd3 : ∀ W, (Instr.slice 24 (.slice (some ⟨b, off, none⟩) l.length c) (some (.int .i64 ((fidx (isTo a) l : Int) + 1))) none none).run Try.prog W = .ok (.slice (cut23 (some ⟨b, off, none⟩) (fidx (isTo a) l + 1) c) (l.length - (fidx (isTo a) l + 1)) (c - (fidx (isTo a) l + 1))) W := hd2
    have hwa : wrap64 ((fidx (isTo a) l : Int) + 1) = (fidx (isTo a) l : Int) + 1 := IntWalk.wrap64_in _ (by omega)
    have hwb : IntKind.i64.wrap ((fidx (isTo a) l : Int) + 1) = (fidx (isTo a) l : Int) + 1 := IntWalk.i64_in _ (by omega)
    generalize l[fidx (isTo a) l] = x at *
    generalize without l (fidx (isTo a) l) = L2 at *
    generalize fidx (isTo a) l = i at *
    generalize l.length = n at *
    clear hbl hl ht1 ht2 HT HDr HS HL hd2
    go_enter Try.func9, Try.ntmps9
    go_wp2_with (first
      | (go_at_call 33; refine (CM.out _).mono ?_; rintro e w2 ⟨bb, rfl, hN, hb⟩; have N2 := Lib.hid hN; replace HP := Lib.hid (HP.out.keep hb); clear hN hb)
      | (go_at_call 32; refine (CI.out bb w2 N2.out HP.out.bel).mono ?_; rintro e w3 ⟨rfl, hb⟩; replace HP := Lib.hid ((HP.out.keep hb).keep (wj := w3.drew) ⟨rfl, rfl, rfl, Nat.le_refl _, fun _ _ => rfl⟩); clear hb))
    refine wp_region_held_drew (S := (fun w' => (Ix_.LoadF ⟨b, off + i * 7, none⟩).run Try.prog w' = .ok (Ix_.v x) w')) (by kernel_rfl) ?_ (fun hHeld => ?_)
    · exact HLD.out _ HP.out.bel
    refine wpAnyH_take (i := 0) (oi := { dst := some 17, op := Op.move (Operand.tmp 0), type := 24, pos := "queue.go:68", after := #[], guard := none }) (v := ?v1) rfl (by kernel_rfl) (by kernel_rfl) (by kernel_rfl) (fun _ _ _ h => h) (Or.inl ⟨by rfl, ?y1⟩) hHeld ?r1
    case y1 => (intro w hSw; (try dsimp only at hSw); go_simp; try with_reducible rfl)
    try simp only [Act.put, List.setIfInBounds_toArray, List.set_cons_zero, List.set_cons_succ]
    refine wpAnyH_take (i := 1) (oi := { dst := some 18, op := Op.move (Operand.tmp 7), type := 3, pos := "queue.go:68", after := #[], guard := none }) (v := ?v2) rfl (by kernel_rfl) (by kernel_rfl) (by kernel_rfl) (fun _ _ _ h => h) (Or.inl ⟨by rfl, ?y2⟩) hHeld ?r2
    case y2 => (intro w hSw; (try dsimp only at hSw); go_simp; try with_reducible rfl)
    try simp only [Act.put, List.setIfInBounds_toArray, List.set_cons_zero, List.set_cons_succ]
    refine wpAnyH_take (i := 2) (oi := { dst := some 19, op := Op.indexAddr 24 (Operand.tmp 17) (Operand.tmp 18), type := 0, pos := "queue.go:68", after := #[{ on := 0, ground := Ground.data }, { on := 1, ground := Ground.data }], guard := none }) (v := ?v3) rfl (by kernel_rfl) (by kernel_rfl) (by kernel_rfl) (fun _ _ _ h => h) (Or.inl ⟨by rfl, ?y3⟩) hHeld ?r3
    case y3 => (intro w hSw; (try dsimp only at hSw); go_simp; try with_reducible rfl)
    try simp only [Act.put, List.setIfInBounds_toArray, List.set_cons_zero, List.set_cons_succ]
    refine wpAnyH_take (i := 3) (oi := { dst := some 20, op := Op.load 28 (Operand.tmp 19), type := 28, pos := "queue.go:68", after := #[{ on := 2, ground := Ground.data }], guard := none }) (v := ?v4) rfl (by kernel_rfl) (by kernel_rfl) (by kernel_rfl) (fun _ _ _ h => h) (Or.inl ⟨by rfl, ?y4⟩) hHeld ?r4
    case y4 => (intro w hSw; (try dsimp only at hSw); go_simp; try with_reducible rfl)
    try simp only [Act.put, List.setIfInBounds_toArray, List.set_cons_zero, List.set_cons_succ]
    refine wpAnyH_take (i := 4) (oi := { dst := some 21, op := Op.move (Operand.tmp 0), type := 24, pos := "queue.go:68", after := #[], guard := none }) (v := ?v5) rfl (by kernel_rfl) (by kernel_rfl) (by kernel_rfl) (fun _ _ _ h => h) (Or.inl ⟨by rfl, ?y5⟩) hHeld ?r5
    case y5 => (intro w hSw; (try dsimp only at hSw); go_simp; try with_reducible rfl)
    try simp only [Act.put, List.setIfInBounds_toArray, List.set_cons_zero, List.set_cons_succ]
    refine wpAnyH_take (i := 5) (oi := { dst := some 22, op := Op.move (Operand.tmp 7), type := 3, pos := "queue.go:68", after := #[], guard := none }) (v := ?v6) rfl (by kernel_rfl) (by kernel_rfl) (by kernel_rfl) (fun _ _ _ h => h) (Or.inl ⟨by rfl, ?y6⟩) hHeld ?r6
    case y6 => (intro w hSw; (try dsimp only at hSw); go_simp; try with_reducible rfl)
    try simp only [Act.put, List.setIfInBounds_toArray, List.set_cons_zero, List.set_cons_succ]
    refine wpAnyH_take (i := 6) (oi := { dst := some 23, op := Op.slice 24 (Operand.tmp 21) none (some (Operand.tmp 22)) none, type := 24, pos := "queue.go:68", after := #[{ on := 4, ground := Ground.data }, { on := 5, ground := Ground.data }], guard := none }) (v := ?v7) rfl (by kernel_rfl) (by kernel_rfl) (by kernel_rfl) (fun _ _ _ h => h) (Or.inl ⟨by rfl, ?y7⟩) hHeld ?r7
    case y7 => (intro w hSw; (try dsimp only at hSw); go_simp; try with_reducible rfl)
    try simp only [Act.put, List.setIfInBounds_toArray, List.set_cons_zero, List.set_cons_succ]
    refine wpAnyH_take (i := 7) (oi := { dst := some 24, op := Op.move (Operand.tmp 0), type := 24, pos := "queue.go:68", after := #[], guard := none }) (v := ?v8) rfl (by kernel_rfl) (by kernel_rfl) (by kernel_rfl) (fun _ _ _ h => h) (Or.inl ⟨by rfl, ?y8⟩) hHeld ?r8
    case y8 => (intro w hSw; (try dsimp only at hSw); go_simp; try with_reducible rfl)
    try simp only [Act.put, List.setIfInBounds_toArray, List.set_cons_zero, List.set_cons_succ]
    refine wpAnyH_take (i := 8) (oi := { dst := some 25, op := Op.move (Operand.tmp 7), type := 3, pos := "queue.go:68", after := #[], guard := none }) (v := ?v9) rfl (by kernel_rfl) (by kernel_rfl) (by kernel_rfl) (fun _ _ _ h => h) (Or.inl ⟨by rfl, ?y9⟩) hHeld ?r9
    case y9 => (intro w hSw; (try dsimp only at hSw); go_simp; try with_reducible rfl)
    try simp only [Act.put, List.setIfInBounds_toArray, List.set_cons_zero, List.set_cons_succ]
    refine wpAnyH_take (i := 9) (oi := { dst := some 26, op := Op.binOp BinOp.add 3 (Operand.tmp 25) (Operand.const (Value.int IntKind.i64 1)) 3, type := 3, pos := "queue.go:68", after := #[{ on := 8, ground := Ground.data }], guard := none }) (v := ?v10) rfl (by kernel_rfl) (by kernel_rfl) (by kernel_rfl) (fun _ _ _ h => h) (Or.inl ⟨by rfl, ?y10⟩) hHeld ?r10
    case y10 => (intro w hSw; (try dsimp only at hSw); go_simp; try with_reducible rfl)
    try simp only [Act.put, List.setIfInBounds_toArray, List.set_cons_zero, List.set_cons_succ]
    refine wpAnyH_take (i := 10) (oi := { dst := some 27, op := Op.slice 24 (Operand.tmp 24) (some (Operand.tmp 26)) none none, type := 24, pos := "queue.go:68", after := #[{ on := 7, ground := Ground.data }, { on := 9, ground := Ground.data }], guard := none }) (v := ?v11) rfl (by kernel_rfl) (by kernel_rfl) (by kernel_rfl) (fun _ _ _ h => h) (Or.inl ⟨by rfl, ?y11⟩) hHeld ?r11
    case y11 => (intro w hSw; (try dsimp only at hSw); go_simp; try with_reducible rfl)
    try simp only [Act.put, List.setIfInBounds_toArray, List.set_cons_zero, List.set_cons_succ]
    refine wpAnyH_ready (rs := [11]) (by kernel_rfl) (by simp) ?_
    refine AllReadyH.cons (o := { dst := some 28, op := Op.buildSlice 67 2 #[(0, Operand.tmp 23), (1, Operand.tmp 27)], type := 67, pos := "queue.go:68", after := #[{ on := 6, ground := Ground.data }, { on := 10, ground := Ground.data }], guard := none }) rfl (fun K hK => ?_) ?_
    · clear hHeld
      obtain ⟨gt, w7, e1, e2, hs⟩ := HP.out.two (.slice (some ⟨b, off, none⟩) i c) (.slice (cut23 (some ⟨b, off, none⟩) (i + 1) c) (n - (i + 1)) (c - (i + 1)))
      go_simp
      try simp only [e1, e2]
      have HT := Lib.hid hs
      clear hs e1 e2 HP
      refine hK.out _ _ ?_ (fun hHeld => ?_)
      · first | exact HLD.out _ HP.out.bel | exact HLD.out _ HT.out.bel | exact HLD.out _ HC.out.bel | exact HLD.out _ HD.out.bel
      clear hK K
      try simp only [Act.put, List.setIfInBounds_toArray, List.set_cons_zero, List.set_cons_succ]
      refine wpAnyH_ready (rs := [12]) (by kernel_rfl) (by simp) ?_
      refine AllReadyH.cons (o := { dst := some 29, op := Op.call { callee := Callee.value (Operand.func 34), args := #[Operand.tmp 28], argTypes := #[67] }, type := 24, pos := "queue.go:68", after := #[{ on := 11, ground := Ground.data }], guard := none }) rfl (fun K hK => ?_) ?_
      · clear hHeld
        go_simp
        go_at_call 34
        with_reducible refine (CCN.out _ gt HT.out.bel HT.out.c0 HT.out.c1 HT.out.lt).mono ?_
        rintro e w2 ⟨v', rfl, hO⟩
        have HC := Lib.hid (HT.out.call hO)
        clear HT hO
        refine hK.out _ _ ?_ (fun hHeld => ?_)
        · first | exact HLD.out _ HP.out.bel | exact HLD.out _ HT.out.bel | exact HLD.out _ HC.out.bel | exact HLD.out _ HD.out.bel
        clear hK K
        try simp only [Act.put, List.setIfInBounds_toArray, List.set_cons_zero, List.set_cons_succ]
        refine wpAnyH_ready (rs := [13]) (by kernel_rfl) (by simp) ?_
        refine AllReadyH.cons (o := { dst := none, op := Op.store 28 (Operand.tmp 4) (Operand.tmp 20), type := 0, pos := "queue.go:68", after := #[{ on := 3, ground := Ground.data }, { on := 12, ground := Ground.chain }, { on := 0, ground := Ground.phase }, { on := 1, ground := Ground.phase }, { on := 2, ground := Ground.phase }, { on := 3, ground := Ground.phase }, { on := 4, ground := Ground.textOnly Departure.lateStores }, { on := 5, ground := Ground.textOnly Departure.lateStores }, { on := 6, ground := Ground.textOnly Departure.lateStoresUnsure }, { on := 7, ground := Ground.textOnly Departure.lateStores }, { on := 8, ground := Ground.textOnly Departure.lateStores }, { on := 9, ground := Ground.textOnly Departure.lateStores }, { on := 10, ground := Ground.textOnly Departure.lateStoresUnsure }, { on := 11, ground := Ground.textOnly Departure.lateStores }, { on := 12, ground := Ground.textOnly Departure.lateStoresUnsure }], guard := none }) rfl (fun K hK => ?_) ?_
        · clear hHeld
          obtain ⟨w8, e1, hs⟩ := HC.out.store x
          go_simp
          have HD := Lib.hid hs
          clear hs e1 HC
          refine hK.out _ _ ?_ (fun hHeld => ?_)
          · first | exact HLD.out _ HP.out.bel | exact HLD.out _ HT.out.bel | exact HLD.out _ HC.out.bel | exact HLD.out _ HD.out.bel
          clear hK K
          try simp only [Act.put, List.setIfInBounds_toArray, List.set_cons_zero, List.set_cons_succ]
          refine wpAnyH_take (i := 14) (oi := { dst := some 5, op := Op.assign (Operand.tmp 29), type := 24, pos := "queue.go:68", after := #[{ on := 12, ground := Ground.data }, { on := 13, ground := Ground.chain }, { on := 0, ground := Ground.phase }, { on := 1, ground := Ground.phase }, { on := 2, ground := Ground.phase }, { on := 3, ground := Ground.phase }, { on := 4, ground := Ground.phase }, { on := 5, ground := Ground.phase }, { on := 6, ground := Ground.phase }, { on := 7, ground := Ground.phase }, { on := 8, ground := Ground.phase }, { on := 9, ground := Ground.phase }, { on := 10, ground := Ground.phase }, { on := 11, ground := Ground.phase }, { on := 12, ground := Ground.phase }, { on := 13, ground := Ground.phase }], guard := none }) (v := ?v12) rfl (by kernel_rfl) (by kernel_rfl) (by kernel_rfl) (fun _ _ _ h => h) (Or.inl ⟨by rfl, ?y12⟩) hHeld ?r12
          case y12 => (intro w hSw; (try dsimp only at hSw); go_simp; try with_reducible rfl)
          try simp only [Act.put, List.setIfInBounds_toArray, List.set_cons_zero, List.set_cons_succ]
          refine wpAnyH_take (i := 15) (oi := { dst := some 6, op := Op.assign (Operand.const (Value.bool true)), type := 4, pos := "queue.go:68", after := #[{ on := 14, ground := Ground.chain }, { on := 0, ground := Ground.phase }, { on := 1, ground := Ground.phase }, { on := 2, ground := Ground.phase }, { on := 3, ground := Ground.phase }, { on := 4, ground := Ground.phase }, { on := 5, ground := Ground.phase }, { on := 6, ground := Ground.phase }, { on := 7, ground := Ground.phase }, { on := 8, ground := Ground.phase }, { on := 9, ground := Ground.phase }, { on := 10, ground := Ground.phase }, { on := 11, ground := Ground.phase }, { on := 12, ground := Ground.phase }, { on := 13, ground := Ground.phase }, { on := 14, ground := Ground.phase }], guard := none }) (v := ?v13) rfl (by kernel_rfl) (by kernel_rfl) (by kernel_rfl) (fun _ _ _ h => h) (Or.inl ⟨by rfl, ?y13⟩) hHeld ?r13
          case y13 => (intro w hSw; (try dsimp only at hSw); go_simp; try with_reducible rfl)
          try simp only [Act.put, List.setIfInBounds_toArray, List.set_cons_zero, List.set_cons_succ]
          refine wpAnyH_done (by kernel_rfl) ?_ _
          go_wp2_with fail
          exact ret_it3 Try.results9 rfl rfl rfl HD.out.bx rfl ⟨v', rfl, HD.out.own⟩
        exact AllReadyH.nil
      exact AllReadyH.nil
    exact AllReadyH.nil
  · rw [if_neg hf] at CI
    have HE : Hid (popI a l = zit ∧ popL a l = l ∧ popB a l = false) := by
      unfold popI popL popB
      exact ⟨if_neg hf, if_neg hf, decide_eq_false hf⟩
    obtain ⟨E1, E2, E3⟩ := HE.out
    rw [E1, E2, E3]
    clear E1 E2 E3 HE hf hle hnil HS hl
    go_enter Try.func9, Try.ntmps9
    go_wp2_with (first
      | (go_at_call 33; refine (CM.out _).mono ?_; rintro e w2 ⟨bb, rfl, hN, hb⟩; have N2 := Lib.hid hN; replace HP := Lib.hid (HP.out.keep hb); clear hN hb)
      | (go_at_call 32; refine (CI.out bb w2 N2.out HP.out.bel).mono ?_; rintro e w3 ⟨rfl, hb⟩; replace HP := Lib.hid (HP.out.keep hb); clear hb)
      | (go_at_call 31; refine (CC.out _ HP.out.bel).mono ?_))
    rintro e w4 ⟨v', rfl, hO⟩
    obtain ⟨w5, e5, hs⟩ := (HP.out.call hO).store zit
    have e5' : (Ix_.StoreF ⟨w.heap.size, 0, none⟩ (.agg #[.int .i64 0, .int .i64 0, .int .u64 0, .int .u64 0, .string ⟨#[]⟩, .int .i64 0, .int .i64 0])).run Try.prog w4 = .ok () w5 := e5
    have HD := Lib.hid hs
    clear hO hs e5
    go_wp2_with fail
    exact ret_it3 Try.results9 rfl rfl rfl HD.out.bx rfl ⟨v', rfl, HD.out.own⟩
end Go.Proofs.Ytaljdjabppiglaa
