/-
  WALKS of package reorder: find, copied, collect, release.
-/
import Derived.Test.YteffmfloopkmoaaRoSearch
import Derived.Test.YteffmfloopkmoaaRoIns2
import Derived.Test.YteffmfloopkmoaaRoSs
namespace Go.Proofs.Yteffmfloopkmoaa
open Go.RowKit Go.Ro Go.Sq Go.Wr
attribute [local go_sem ↓ high] Rw_.loadF Rw_.storeF Rw_.v_cells Rw_.v_match
attribute [local go_sem] Rw_.C0 Rw_.C1 Rw_.C2 Rw_.loadF_new Rw_.storeF_zero Oper.semAt_some

def zr : Rw := ⟨0, 0, none, 0, 0⟩
/-- Results handed back out of a result's cell. -/
theorem ret_rw1 {fn : Func} {p : Tmp} (hr : fn.results = #[.cell p 25]) {tmps : Array Value} {ds : _} {w : World} {g : Nat} {y : Rw} {R : Ending → World → Prop} (hp : tmps.getD p undef = .pointer (some ⟨g, 0, none⟩)) (hb : Rw_.Box w g y) (hd : ds = []) (hR : R (.returned (Rw_.v y)) w) :
    bodyPost Try.prog fn R .ret ⟨tmps, ds⟩ w := by
  refine bodyPost_ret (v := Rw_.v y) ?_ hd hR
  have hp' : tmps[p]?.getD undef = .pointer (some ⟨g, 0, none⟩) := by simpa using hp
  have hl := run_loadVar_row w g 25 25 (Rw_.C y) (0, 0) _ hb Try.underlying25 rfl Rw_.sz
  simp [results, hr, hp', asAddr, hl]
  rfl
theorem ret_rw2 {fn : Func} {p q : Tmp} (hr : fn.results = #[.cell p 25, .tmp q]) {tmps : Array Value} {ds : _} {w : World} {g : Nat} {y : Rw} {vq : Value} {R : Ending → World → Prop} (hp : tmps.getD p undef = .pointer (some ⟨g, 0, none⟩)) (hq : tmps.getD q undef = vq) (hb : Rw_.Box w g y) (hd : ds = []) (hR : R (.returned (.tuple #[Rw_.v y, vq])) w) :
    bodyPost Try.prog fn R .ret ⟨tmps, ds⟩ w := by
  refine bodyPost_ret (v := .tuple #[Rw_.v y, vq]) ?_ hd hR
  have hp' : tmps[p]?.getD undef = .pointer (some ⟨g, 0, none⟩) := by simpa using hp
  have hq' : tmps[q]?.getD undef = vq := by simpa using hq
  have hl := run_loadVar_row w g 25 25 (Rw_.C y) (0, 0) _ hb Try.underlying25 rfl Rw_.sz
  simp [results, hr, hp', hq', asAddr, hl]
  rfl
theorem ret_rw3 {fn : Func} {p q r : Tmp} (hr : fn.results = #[.cell p 25, .tmp q, .tmp r]) {tmps : Array Value} {ds : _} {w : World} {g : Nat} {y : Rw} {vq vr : Value} {R : Ending → World → Prop} (hp : tmps.getD p undef = .pointer (some ⟨g, 0, none⟩)) (hq : tmps.getD q undef = vq) (hr' : tmps.getD r undef = vr) (hb : Rw_.Box w g y) (hd : ds = []) (hR : R (.returned (.tuple #[Rw_.v y, vq, vr])) w) :
    bodyPost Try.prog fn R .ret ⟨tmps, ds⟩ w := by
  refine bodyPost_ret (v := .tuple #[Rw_.v y, vq, vr]) ?_ hd hR
  have hp' : tmps[p]?.getD undef = .pointer (some ⟨g, 0, none⟩) := by simpa using hp
  have hq' : tmps[q]?.getD undef = vq := by simpa using hq
  have hr'' : tmps[r]?.getD undef = vr := by simpa using hr'
  have hl := run_loadVar_row w g 25 25 (Rw_.C y) (0, 0) _ hb Try.underlying25 rfl Rw_.sz
  simp [results, hr, hp', hq', hr'', asAddr, hl]
  rfl

/-- What came in in its cell, the result's cell. -/
structure Two (w : World) (x y : Rw) (wi : World) : Prop where
  bx : Rw_.Box wi w.heap.size x
  rs : Rw_.Box wi (w.heap.size + 1) y
  bel : Below w.heap.size w wi
theorem Two.new {w w1 w2 : World} {x : Rw} (h1 : w.alloc (.cells (Rw_.C x) 25) = w1) (h2 : w1.alloc (.cells (Rw_.C zr) 25) = w2) : Two w x zr w2 := by
  subst h1 h2
  refine ⟨(Rw_.Box.new w x).allocC _, ?_, ((Below.refl _ _).alloc (Nat.le_refl _) _).alloc (by simp) _⟩
  have := Rw_.Box.new (w.alloc (.cells (Rw_.C x) 25)) zr
  rwa [show (w.alloc (.cells (Rw_.C x) 25)).heap.size = w.heap.size + 1 by simp] at this
theorem Two.size {w wi : World} {x y : Rw} (h : Two w x y wi) : w.heap.size + 2 ≤ wi.heap.size := h.rs.lt
theorem Two.below {w wi wj : World} {x y : Rw} (h : Two w x y wi) (hb : Below wi.heap.size wi wj) : Two w x y wj :=
  ⟨h.bx.below hb h.bx.lt, h.rs.below hb h.rs.lt, h.bel.trans (hb.mono h.bel.size)⟩
theorem Two.drew {w wi : World} {x y : Rw} (h : Two w x y wi) : Two w x y wi.drew := ⟨h.bx, h.rs, ⟨h.bel.os, h.bel.tape, h.bel.output, h.bel.size, h.bel.block⟩⟩
theorem Two.setY {w wi : World} {x y : Rw} (h : Two w x y wi) (y' : Rw) : Two w x y' (wi.setRow (w.heap.size + 1) (Rw_.C y')) :=
  ⟨(Rw_.setRow_other (by omega) _).trans h.bx, h.rs.setRow y', below_row h.bel (Nat.le_succ _) _⟩
theorem Two.setX {w wi : World} {x y : Rw} (h : Two w x y wi) (x' : Rw) : Two w x' y (wi.setRow w.heap.size (Rw_.C x')) :=
  ⟨h.bx.setRow x', (Rw_.setRow_other (by omega) _).trans h.rs, below_row h.bel (Nat.le_refl _) _⟩

set_option maxRecDepth 100000 in
set_option maxHeartbeats 2000000 in
theorem ro_find_any (x : Rw) (b : Bf) (q : Int) (w : World) (hL : Lies w x b) (ha : Asc b.st b.hs) (hl : b.hs.length ≤ 1000) :
    Calls Try.prog 29 #[Rw_.v x, .int .i64 q] w fun e w' => e = .returned (.tuple #[.int .i64 (n0 b q : Nat), .bool (held b q)]) ∧ Below w.heap.size w w' := by
  obtain ⟨w1, hw1⟩ : ∃ w1, w.alloc (.cells (Rw_.C x) 25) = w1 := ⟨_, rfl⟩
  have hb : Rw_.Box w1 w.heap.size x := hw1 ▸ Rw_.Box.new w x
  have B1 : Hid (Below w.heap.size w w1) := hw1 ▸ (Below.refl _ _).alloc (Nat.le_refl _) _
  have e1 := hb.all
  have CD := Lib.hid (fun w => distance_any x.st q w)
  have CS : Hid (∀ W, W = w1 → Calls Try.prog 43 #[.slice x.sa x.n x.c, .int .i64 (dist x.st q), .func (.func 44) #[] #[.pointer (some ⟨w.heap.size, 0, none⟩)]] W fun e w' =>
      e = .returned (.tuple #[.int .i64 (n0 b q : Nat), .bool (held b q)]) ∧ Below w.heap.size w w') := fun W hW => by
    subst hW
    rw [hL.n]
    have ha' : Asc x.st b.hs := by rw [hL.st]; exact ha
    have hs' : Hd_.Sl W x.sa b.hs x.c := hL.sl.below B1.out
    have hd' : 0 ≤ dist x.st q ∧ dist x.st q < 4096 := dist_in x.st q
    have h := ro_search_any x.sa b.hs x.c (dist x.st q) w.heap.size x W hs' hb hd' ha' hl
    rw [hL.st, show at20 b.st (dist b.st q) b.hs = held b q from rfl, show nb b.st (dist b.st q) b.hs = n0 b q from rfl] at h
    rw [hL.st]
    refine h.mono ?_
    rintro e w' ⟨rfl, h2⟩
    exact ⟨rfl, B1.out.trans (h2.mono B1.out.size)⟩
  clear hb hL ha hl
  generalize dist x.st q = D at *
  go_enter Try.func29, Try.ntmps29
  go_wp2_with (first
    | (go_at_call 27; refine (CD.out _).mono ?_; rintro e w' ⟨rfl, rfl⟩)
    | (go_at_call 43; refine (CS.out _ rfl).mono ?_; rintro e w' ⟨rfl, hw'⟩; have HW := Lib.hid hw'; clear hw'))
  go_returns
  exact ⟨rfl, HW.out⟩

/-- A buffer handed back: what it holds lies there. -/
def BfPost (b : Bf) (w : World) (e : Ending) (w' : World) : Prop := ∃ x', e = .returned (Rw_.v x') ∧ Lies w' x' b ∧ Below w.heap.size w w' ∧ ∀ bb off, x'.sa = some ⟨bb, off, none⟩ → w.heap.size ≤ bb
theorem lies_own {w' : World} {b : Bf} {v0 : Option Addr} {c base : Nat} (h : w'.ownsRow base 51 2 (.slice v0 b.hs.length c) b.hs.length (Hd_.flat b.hs)) : Lies w' ⟨b.st, b.sz, v0, b.hs.length, c⟩ b := ⟨rfl, rfl, rfl, Hd_.sl_owns h⟩

set_option maxRecDepth 100000 in
set_option maxHeartbeats 2000000 in
theorem ro_copied_any (x : Rw) (b : Bf) (w : World) (hL : Lies w x b) (hl : b.hs.length ≤ 1000) :
    Calls Try.prog 31 #[Rw_.v x] w fun e w' => BfPost b w e w' := by
  obtain ⟨w1, hw1⟩ : ∃ w1, w.alloc (.cells (Rw_.C x) 25) = w1 := ⟨_, rfl⟩
  obtain ⟨w2, hw2⟩ : ∃ w2, w1.alloc (.cells (Rw_.C zr) 25) = w2 := ⟨_, rfl⟩
  have hw2' : w1.alloc (.cells #[.int .i64 0, .int .i64 0, .slice none 0 0] 25) = w2 := hw2
  have z1 : w1.heap.size = w.heap.size + 1 := by rw [← hw1]; simp
  have T2 := Lib.hid (Two.new hw1 hw2)
  have e1 := T2.out.bx.all
  have CC := Lib.hid (clone20_any x.sa b.hs x.c w2 (hL.sl.below T2.out.bel) hl)
  rw [← hL.n] at CC
  have HL := Lib.hid hL
  clear hL hl
  go_enter Try.func31, Try.ntmps31
  go_wp2_with fail
  refine CC.out.mono ?_
  rintro e w3 ⟨v', rfl, hown, hb3⟩
  obtain ⟨v0, c', rfl⟩ := Hd_.slice_form hown
  have T3 := Lib.hid (T2.out.below hb3)
  have e3 := T3.out.bx.all
  have f3 := T3.out.bx.frozen 2
  have X4 : Hid (Two w ⟨x.st, x.sz, v0, b.hs.length, c'⟩ zr (w3.setCell ⟨w.heap.size, 2, none⟩ (.slice v0 b.hs.length c'))) :=
    ⟨T3.out.bx.set2 v0 b.hs.length c', T3.out.rs.other (by simp) _, T3.out.bel.setCell (Nat.le_refl _) _⟩
  have HS : Hid (Hd_.Sl w3 v0 b.hs c' ∧ ∀ bb off, v0 = some ⟨bb, off, none⟩ → w2.heap.size ≤ bb) := ⟨Hd_.sl_owns hown, fun bb off e => by subst e; exact (hown.lt bb rfl).1⟩
  obtain ⟨w4, hw4⟩ : ∃ w4, w3.setCell ⟨w.heap.size, 2, none⟩ (.slice v0 b.hs.length c') = w4 := ⟨_, rfl⟩
  have HS4 : Hid (Hd_.Sl w4 v0 b.hs c') := by
    refine ⟨HS.out.1.lies.block (by rw [← hw4]; simp) (fun bb off e => ?_), HS.out.1.le, HS.out.1.nil⟩
    rw [← hw4]
    have := HS.out.2 bb off e
    have := T2.out.size
    exact Below.heap_setCell _ _ _ _ (by show bb ≠ w.heap.size; omega)
  rw [hw4] at X4
  have le := X4.out.bx.loadF
  have st := X4.out.rs.storeF ⟨x.st, x.sz, v0, b.hs.length, c'⟩
  have X5 := Lib.hid (X4.out.setY ⟨x.st, x.sz, v0, b.hs.length, c'⟩)
  have HS5 : Hid (Hd_.Sl (w4.setRow (w.heap.size + 1) (Rw_.C ⟨x.st, x.sz, v0, b.hs.length, c'⟩)) v0 b.hs c') := by
    refine ⟨HS4.out.lies.block (by simp [World.setRow]) (fun bb off e => ?_), HS4.out.le, HS4.out.nil⟩
    have := HS.out.2 bb off e
    have := T2.out.size
    exact Rw_.setRow_other (by omega) _
  clear hown hb3
  go_wp2
  exact ret_rw1 Try.results31 rfl X5.out.rs rfl ⟨_, rfl, ⟨HL.out.st, HL.out.sz, rfl, HS5.out⟩, X5.out.bel, fun bb off e => by have := HS.out.2 bb off e; have := T2.out.size; omega⟩

set_option maxHeartbeats 1000000 in
theorem ro_data_any (h : Hd) (w : World) : Calls Try.prog 48 #[.agg #[.int .i64 h.q, .string h.d]] w fun e w' => e = .returned (.string h.d) ∧ Below w.heap.size w w' := by
  obtain ⟨w1, hw1⟩ : ∃ w1, w.alloc (.cells #[.int .i64 h.q, .string h.d] 51) = w1 := ⟨_, rfl⟩
  have hb : Hd_.Box w1 w.heap.size h := hw1 ▸ Hd_.Box.new w h rfl
  have B1 : Hid (Below w.heap.size w w1) := hw1 ▸ (Below.refl _ _).alloc (Nat.le_refl _) _
  have e2 := hb.cells
  clear hb
  go_enter Try.func48, Try.ntmps48
  go_wp2
  go_returns
  exact ⟨rfl, B1.out⟩

theorem owns_below20 {w w' : World} {base size n : Nat} {e : TypeId} {v : Value} {xs : List Value} (h : w.ownsRow base e size v n xs) (hb : Below w.heap.size w w') : w'.ownsRow base e size v n xs := by
  obtain ⟨h0, h1 | ⟨g, cap, cur, h1, h2, h3, h4⟩⟩ := h
  · exact ⟨h0, .inl h1⟩
  · exact ⟨h0, .inr ⟨g, cap, cur, h1, h2, (hb.block g (Array.getElem?_eq_some_iff.1 h3).1).trans h3, h4⟩⟩
/-- Octets in a row of the call's own. -/
def OwnSs (w w' : World) (v : Value) (l : List ByteArray) : Prop := w'.ownsRow w.heap.size 9 1 v l.length (Ss_.vs l) ∧ Below w.heap.size w w'

set_option maxRecDepth 100000 in
set_option maxHeartbeats 4000000 in
theorem ro_collect_any (sa : Option Addr) (l : List Hd) (c : Nat) (w : World) (hS : Hd_.Sl w sa l c) (hl : l.length ≤ 1000) :
    Calls Try.prog 47 #[.slice sa l.length c, .func (.func 48) #[] #[]] w fun e w' => ∃ v', e = .returned v' ∧ OwnSs w w' v' (l.map (·.d)) := by
  have HI := Lib.hid (info_parts Ss_.info)
  have HS := Lib.hid hS
  have HL := Lib.hid hl
  have CK := Lib.hid ro_data_any
  have eg : ∀ (args : Array Value) (w : World), (callFunc 48 args).run Try.prog w = .ok (.enter 48 args) w := fun args w => by
    kernel_rfl
  clear hS hl
  generalize hn : l.length = n at *
  have HN := Lib.hid hn
  clear hn
  go_enter Try.func47, Try.ntmps47
  go_wp2
  go_loopw [5, 10] (fun v z wr => ∃ i : Nat, z = .int .i64 i ∧ i ≤ n ∧ OwnSs w wr v ((l.take i).map (·.d))) (fun _ z _ => n - (intOf z).toNat)
  case atStart => exact ⟨0, rfl, Nat.zero_le _, World.ownsRow_nil _ _ _ _, Below.refl _ _⟩
  case round =>
    rename World => wr
    obtain ⟨i, rfl, hi, ho⟩ := hrel
    have HO := Lib.hid ho
    clear ho
    by_cases hlt : i < n
    · have hil : i < l.length := by have := HN.out; omega
      obtain ⟨b, off, hsa, hbl, k0, k1⟩ := HS.out.lies i hil
      subst hsa
      have c0 := (HO.out.2.cell hbl).trans k0
      have c1 := (HO.out.2.cell hbl).trans k1
      have HT : Hid ((l.take (i + 1)).map (·.d) = (l.take i).map (·.d) ++ [l[i].d]) := by
        show (l.take (i + 1)).map (·.d) = _
        rw [List.take_succ_eq_append_getElem hil, List.map_append]; rfl
      have HLN : Hid (((l.take i).map (·.d)).length ≤ 1000) := by
        show ((l.take i).map (·.d)).length ≤ 1000
        have := HN.out; have := HL.out
        rw [List.length_map, List.length_take]; omega
      generalize l[i] = h at *
      generalize (l.take i).map (·.d) = L at *
      obtain ⟨w1, hw1⟩ : ∃ w1, wr.alloc (.cells #[.int .i64 h.q, .string h.d] 51) = w1 := ⟨_, rfl⟩
      have X1 := (show Hd_.Box w1 wr.heap.size h from hw1 ▸ Hd_.Box.new wr h rfl)
      have lx := X1.load
      have e1 := X1.cells
      have b1 : Below wr.heap.size wr w1 := hw1 ▸ (Below.refl _ _).alloc (Nat.le_refl _) _
      have HB1 := Lib.hid (HO.out.2.trans (b1.mono HO.out.2.size))
      have HO1 := Lib.hid (owns_below20 HO.out.1 b1)
      have HM : Hid (L.length + 1 ≤ maxLen ∧ (L.length + 1) * 16 ≤ 140737488355328) := by
        have := HLN.out
        refine ⟨?_, by omega⟩
        unfold maxLen; omega
      have hi1 : i ≤ 1000 := by have := HL.out; omega
      clear k0 k1 hbl hil b1
      go_wp2_with (first
        | (go_at_fn 48; refine (CK.out h _).mono ?_; rintro e w2 ⟨rfl, hw2⟩; have HB2 := Lib.hid (HB1.out.trans (hw2.mono HB1.out.size)); have HO2 := Lib.hid (owns_below20 HO1.out hw2); clear hw2)
        | (at_builtin; obtain ⟨i0, hi0, hz0, hz1, hz2⟩ := HI.out; refine wpList_append_own _ rfl _ _ 35 rfl w.heap.size 9 i0 (.string ⟨#[]⟩) 1 16 Try.underlying35 hi0 hz0 hz1 hz2 rfl (by decide) _ _ _ rfl (HO2.out.alloc _) ⟨w2.heap.size, 0, none⟩ 1 1 [.string h.d] rfl rfl ?c1 ?c2 HM.out.1 HM.out.2 ?c5 ?_))
      case c1 =>
        intro j x hj
        match j, hj with
        | 0, hj => simp at hj; subst hj; simp [Addr.add]
      case c2 => intro x hx; simp at hx; subst hx; rfl
      case c5 => have := HB2.out.size; simp; omega
      intro v4 w4 hown4 hgrow hn'
      clear hi0 hz0 hz1 hz2
      have R : Hid (OwnSs w w4 v4 (L ++ [h.d])) := by
        refine ⟨?_, ?_⟩
        · rw [Ss_.vs_snoc, List.length_append]
          exact hown4
        · refine Below.grown (HB2.out.alloc HB2.out.size _) hgrow (by simp; have := HB2.out.size; omega) (fun j hj => ?_)
          exact (HO2.out.lt j hj).1
      have HLT := Lib.hid hlt
      clear hown4 hgrow hn'
      go_wp2
      go_roundw
      case rel => exact ⟨i + 1, by go_num, HLT.out, by rw [HT.out]; exact R.out⟩
      case measure => have := HLT.out; simp [intOf]; omega
    · obtain rfl : i = n := by omega
      rw [show l.take i = l by rw [← HN.out, List.take_length]] at HO
      go_wp2
      go_returns
      exact ⟨_, rfl, HO.out⟩
end Go.Proofs.Yteffmfloopkmoaa
