/-
  WALKS of package window: Confirm, Resize, Reset, Due, Put.
-/
import Derived.Test.YtldeflpaghbmmaaWnTrim
namespace Go.Proofs.Ytldeflpaghbmmaa
open Go.RowKit Go.Wn Go.Sq Go.Wr
attribute [local go_sem ↓ high] Ww_.loadF Ww_.storeF Ww_.v_cells Ww_.v_match
attribute [local go_sem] Ww_.C0 Ww_.C1 Ww_.C2 Ww_.C3 Ww_.loadF_new Ww_.storeF_zero Oper.semAt_some

/-- A slice that lies in no block of before. -/
def Fr (B : Nat) (sa : Option Addr) : Prop := ∀ bb off, sa = some ⟨bb, off, none⟩ → B ≤ bb
theorem Fr.none (B : Nat) : Fr B none := fun _ _ e => nomatch e
theorem Fr.up {B C : Nat} {sa : Option Addr} (h : Fr B sa) (hc : C ≤ B) : Fr C sa := fun b o e => Nat.le_trans hc (h b o e)
theorem Fr.own {base n size c : Nat} {e : TypeId} {sa : Option Addr} {wr : World} {xs : List Value} (h : wr.ownsRow base e size (.slice sa n c) n xs) : Fr base sa := fun bb off e => by subst e; exact (h.lt bb rfl).1
theorem Fr.sib {B : Nat} {a b : Option Addr} (h : Fr B b) (hs : Sib a b) : Fr B a := fun bb off e => by
  obtain ⟨o2, e2⟩ := hs bb off e
  exact h bb o2 e2
theorem sl_row22 {w : World} {sa : Option Addr} {l : List Sn} {c r B : Nat} {cs : Array Value} (h : Sn_.Sl w sa l c) (hf : Fr B sa) (hr : r < B) : Sn_.Sl (w.setRow r cs) sa l c :=
  ⟨h.lies.block (by simp [World.setRow]) (fun bb off e => Ww_.setRow_other (by have := hf bb off e; omega) _), h.le, h.nil⟩
theorem sl_set22 {w : World} {sa : Option Addr} {l : List Sn} {c B : Nat} {a : Addr} {u : Value} (h : Sn_.Sl w sa l c) (hf : Fr B sa) (hr : a.block < B) : Sn_.Sl (w.setCell a u) sa l c :=
  ⟨h.lies.block (by simp [World.setCell]) (fun bb off e => Below.heap_setCell _ _ _ _ (by have := hf bb off e; omega)), h.le, h.nil⟩
theorem owns_row22 {w : World} {base size n B : Nat} {e : TypeId} {v : Value} {xs : List Value} {c : Array Value} (h : w.ownsRow base e size v n xs) (hB : B < base) : (w.setRow B c).ownsRow base e size v n xs := by
  obtain ⟨h0, h1 | ⟨g, cap, cur, h1, h2, h3, h4⟩⟩ := h
  · exact ⟨h0, .inl h1⟩
  · refine ⟨h0, .inr ⟨g, cap, cur, h1, h2, ?_, h4⟩⟩
    have e2 : (w.setRow B c).heap[g]? = w.heap[g]? := by
      simp only [World.setRow, Array.getElem?_modify]; rw [if_neg (by omega)]
    exact e2.trans h3
theorem owns_up22 {w : World} {base C size n : Nat} {e : TypeId} {v : Value} {xs : List Value} (h : w.ownsRow base e size v n xs) (hC : C ≤ base) : w.ownsRow C e size v n xs := by
  obtain ⟨h0, h1 | ⟨g, cap, cur, h1, h2, h3⟩⟩ := h
  · exact ⟨h0, .inl h1⟩
  · exact ⟨h0, .inr ⟨g, cap, cur, h1, by omega, h3⟩⟩

/-- A state handed back, its packets behind it, in no block of before. -/
structure Out (s : St) (w : World) (x : Wn) (w' : World) : Prop where
  lies : Lies w' x s
  bel : Below w.heap.size w w'
  fr : Fr w.heap.size x.sa

set_option maxRecDepth 100000 in
set_option maxHeartbeats 2000000 in
theorem wn_confirm_any (x : Wn) (s : St) (w : World) (hL : Lies w x s) (hl : s.l.length ≤ 1000) :
    Calls Try.prog 19 #[Ww_.v x] w fun e w' => ∃ x', e = .returned (Ww_.v x') ∧ Out (confirm s) w x' w' := by
  obtain ⟨w1, hw1⟩ : ∃ w1, w.alloc (.cells (Ww_.C x) 29) = w1 := ⟨_, rfl⟩
  obtain ⟨w2, hw2⟩ : ∃ w2, w1.alloc (.cells (Ww_.C zw) 29) = w2 := ⟨_, rfl⟩
  have hw2' : w1.alloc (.cells #[.int .i64 0, .int .i64 0, .slice none 0 0, .bool false] 29) = w2 := hw2
  have z1 : w1.heap.size = w.heap.size + 1 := by rw [← hw1]; simp
  have T2 := Lib.hid (Two.new hw1 hw2)
  have e1 := T2.out.bx.all
  have CC := Lib.hid (clone22_any x.sa s.l x.c w2 (hL.sl.below T2.out.bel) hl)
  rw [← hL.n] at CC
  have HL := Lib.hid hL
  clear hL hl hw2
  go_enter Try.func19, Try.ntmps19
  go_wp2_with fail
  refine CC.out.mono ?_
  rintro e w3 ⟨v', rfl, hown, hb3⟩
  obtain ⟨v0, c', rfl⟩ := Sn_.slice_form hown
  have T3 := Lib.hid (T2.out.below hb3)
  have e3 := T3.out.bx.all
  have f3 := T3.out.bx.frozen
  have HF := Lib.hid (Fr.own hown)
  have HS := Lib.hid (Sn_.sl_owns hown)
  have T4 := Lib.hid (T3.out.set2 v0 s.l.length c')
  obtain ⟨w4, hw4⟩ : ∃ w4, w3.setCell ⟨w.heap.size, 2, none⟩ (.slice v0 s.l.length c') = w4 := ⟨_, rfl⟩
  have HS4 := Lib.hid (sl_set22 (a := ⟨w.heap.size, 2, none⟩) (u := .slice v0 s.l.length c') HS.out HF.out (by have := T2.out.size; show w.heap.size < w2.heap.size; omega))
  rw [hw4] at T4 HS4
  have e4 := T4.out.bx.all
  have f4 := T4.out.bx.frozen
  have T5 := Lib.hid (T4.out.set3 false)
  obtain ⟨w5, hw5⟩ : ∃ w5, w4.setCell ⟨w.heap.size, 3, none⟩ (.bool false) = w5 := ⟨_, rfl⟩
  have HS5 := Lib.hid (sl_set22 (a := ⟨w.heap.size, 3, none⟩) (u := .bool false) HS4.out HF.out (by have := T2.out.size; show w.heap.size < w2.heap.size; omega))
  rw [hw5] at T5 HS5
  have l5 := T5.out.bx.loadF
  have t5 := T5.out.rs.storeF ⟨x.nx, x.sz, v0, s.l.length, c', false⟩
  have T6 := Lib.hid (T5.out.setY ⟨x.nx, x.sz, v0, s.l.length, c', false⟩)
  have hz := T2.out.size
  have HS6 := Lib.hid (sl_row22 (r := w.heap.size + 1) (cs := Ww_.C ⟨x.nx, x.sz, v0, s.l.length, c', false⟩) HS5.out HF.out (by omega))
  have HF6 := Lib.hid (HF.out.up (show w.heap.size ≤ w2.heap.size by omega))
  clear hown hb3 hz e1
  go_wp2
  exact ret_wn1 Try.results19 rfl T6.out.rs rfl ⟨_, rfl, ⟨HL.out.nx, HL.out.sz, rfl, rfl, HS6.out⟩, T6.out.bel, HF6.out⟩

/-- A state and an error handed back. -/
def StErr (p : St × Int) (w : World) (e : Ending) (w' : World) : Prop := ∃ x', e = .returned (.tuple #[Ww_.v x', .int .i64 p.2]) ∧ Out p.1 w x' w'
theorem resize_bad {s : St} {z : Int} (h : z < 0 ∨ 64 < z) : resize s z = (zst, 4) := if_pos h
theorem resize_busy {s : St} {z : Int} (h : ¬ (z < 0 ∨ 64 < z)) (h2 : 0 < s.l.length ∨ s.rq = true) : resize s z = (zst, 9) := (if_neg h).trans (if_pos h2)
theorem resize_ok {s : St} {z : Int} (h : ¬ (z < 0 ∨ 64 < z)) (h2 : ¬ (0 < s.l.length ∨ s.rq = true)) : resize s z = (⟨s.nx, z, [], false⟩, 0) := (if_neg h).trans (if_neg h2)
theorem out_zst {w wi : World} (hb : Below w.heap.size w wi) : Out zst w zw wi := ⟨⟨rfl, rfl, rfl, rfl, Sn_.Sl.none _⟩, hb, Fr.none _⟩

set_option maxRecDepth 100000 in
set_option maxHeartbeats 2000000 in
theorem wn_resize_any (x : Wn) (s : St) (z : Int) (w : World) (hL : Lies w x s) :
    Calls Try.prog 32 #[Ww_.v x, .int .i64 z] w fun e w' => StErr (resize s z) w e w' := by
  obtain ⟨w1, hw1⟩ : ∃ w1, w.alloc (.cells (Ww_.C x) 29) = w1 := ⟨_, rfl⟩
  obtain ⟨w2, hw2⟩ : ∃ w2, w1.alloc (.cells (Ww_.C zw) 29) = w2 := ⟨_, rfl⟩
  have hw2' : w1.alloc (.cells #[.int .i64 0, .int .i64 0, .slice none 0 0, .bool false] 29) = w2 := hw2
  have z1 : w1.heap.size = w.heap.size + 1 := by rw [← hw1]; simp
  have T2 := Lib.hid (Two.new hw1 hw2)
  have e1 := T2.out.bx.all
  have t0 : (Ww_.StoreF ⟨w.heap.size + 1, 0, none⟩ (.agg #[.int .i64 0, .int .i64 0, .slice none 0 0, .bool false])).run Try.prog w2 = .ok () (w2.setRow (w.heap.size + 1) (Ww_.C zw)) := T2.out.rs.storeF zw
  have T0 := Lib.hid (T2.out.setY zw)
  clear hw2
  have bad : ∀ (k : Int), resize s z = (zst, k) → ∀ wi, Two w x zw wi → StErr (resize s z) w (.returned (.tuple #[Ww_.v zw, .int .i64 k])) wi := fun k hk wi hT => by
    rw [hk]
    exact ⟨zw, rfl, out_zst hT.bel⟩
  by_cases h1 : z < 0
  · have HR := Lib.hid (bad 4 (resize_bad (.inl h1)) _ T0.out)
    clear bad hL
    generalize resize s z = R at *
    go_enter Try.func32, Try.ntmps32
    go_wp2
    exact ret_wn2 Try.results32 rfl rfl T0.out.rs rfl HR.out
  by_cases h2 : 64 < z
  · have HR := Lib.hid (bad 4 (resize_bad (.inr h2)) _ T0.out)
    clear bad hL
    generalize resize s z = R at *
    go_enter Try.func32, Try.ntmps32
    go_wp2
    exact ret_wn2 Try.results32 rfl rfl T0.out.rs rfl HR.out
  have hz : ¬ (z < 0 ∨ 64 < z) := by omega
  by_cases h3 : 0 < s.l.length
  · have HR := Lib.hid (bad 9 (resize_busy hz (.inl h3)) _ T0.out)
    have hn : (0 : Int) < (x.n : Int) := by rw [hL.n]; omega
    clear bad hL hz h3
    generalize resize s z = R at *
    go_enter Try.func32, Try.ntmps32
    go_wp2
    exact ret_wn2 Try.results32 rfl rfl T0.out.rs rfl HR.out
  have hn : x.n = 0 := by rw [hL.n]; omega
  have hrx := hL.rq
  cases hq : s.rq
  · have HE := Lib.hid (resize_ok (s := s) hz (fun h => by rcases h with h | h; exact h3 h; rw [hq] at h; cases h))
    rw [HE.out]
    rw [hq] at hrx
    have hnx := hL.nx
    have t5 : (Ww_.StoreF ⟨w.heap.size + 1, 0, none⟩ (.agg #[.int .i64 s.nx, .int .i64 z, .slice none 0 0, .bool false])).run Try.prog w2 = .ok () (w2.setRow (w.heap.size + 1) (Ww_.C ⟨s.nx, z, none, 0, 0, false⟩)) := T2.out.rs.storeF ⟨s.nx, z, none, 0, 0, false⟩
    have T5 := Lib.hid (T2.out.setY ⟨s.nx, z, none, 0, 0, false⟩)
    clear bad hL hz h3 T0 t0
    go_enter Try.func32, Try.ntmps32
    go_wp2
    exact ret_wn2 Try.results32 rfl rfl T5.out.rs rfl ⟨_, rfl, ⟨rfl, rfl, rfl, rfl, Sn_.Sl.none _⟩, T5.out.bel, Fr.none _⟩
  · have HR := Lib.hid (bad 9 (resize_busy hz (.inr hq)) _ T0.out)
    rw [hq] at hrx
    clear bad hL hz h3
    generalize resize s z = R at *
    go_enter Try.func32, Try.ntmps32
    go_wp2
    exact ret_wn2 Try.results32 rfl rfl T0.out.rs rfl HR.out

theorem open_tells (S : World → Prop) : Tells S 49 #[] isOp := ⟨fun args w => by kernel_rfl, fun p W _ => by simpa using wn_isOpen_any p W⟩

/-- max(min(most, n), 0). -/
theorem cap22 (m : Int) (n : Nat) : max (min m (n : Int)) 0 = ((min m.toNat n : Nat) : Int) := by omega

set_option maxRecDepth 100000 in
set_option maxHeartbeats 2000000 in
theorem wn_due_any (x : Wn) (s : St) (m : Int) (w : World) (hL : Lies w x s) (hl : s.l.length ≤ 1000) :
    Calls Try.prog 25 #[Ww_.v x, .int .i64 m] w fun e w' => ∃ sa c, e = .returned (.slice sa (dueL s m).length c) ∧ Sn_.Sl w' sa (dueL s m) c ∧ Below w.heap.size w w' := by
  obtain ⟨w1, hw1⟩ : ∃ w1, w.alloc (.cells (Ww_.C x) 29) = w1 := ⟨_, rfl⟩
  have hb : Ww_.Box w1 w.heap.size x := hw1 ▸ Ww_.Box.new w x
  have B1 : Hid (Below w.heap.size w w1) := hw1 ▸ (Below.refl _ _).alloc (Nat.le_refl _) _
  have e1 := hb.all
  have CF := Lib.hid (wn_filter_any (fun _ => True) 49 #[] isOp (open_tells _) x.sa s.l x.c w1 (fun _ _ => trivial) (hL.sl.below B1.out) hl)
  rw [← hL.n] at CF
  have HD : Hid (dueL s m = (s.l.filter isOp).take m.toNat) := rfl
  have hlf : (s.l.filter isOp).length ≤ 1000 := Nat.le_trans (List.length_filter_le _ _) hl
  rw [HD.out]
  clear hb hL hl HD
  generalize s.l.filter isOp = L at *
  go_enter Try.func25, Try.ntmps25
  go_wp2_with fail
  refine CF.out.mono ?_
  rintro e w3 ⟨v', rfl, hown, hb3⟩
  obtain ⟨v0, c', rfl⟩ := Sn_.slice_form hown
  have HS := Lib.hid (Sn_.sl_owns hown)
  have HB := Lib.hid (B1.out.trans (hb3.mono B1.out.size))
  have hk : min m.toNat L.length ≤ c' := by have := HS.out.le; omega
  have hsl := fun W => head22 v0 L.length c' (min m.toNat L.length) hk HS.out.nil W
  have HT := Lib.hid (sl_take22 HS.out (min m.toNat L.length))
  have HTE : Hid (L.take (min m.toNat L.length) = L.take m.toNat) := by
    show _ = _
    rw [List.take_eq_take_iff]; omega
  have HTL : Hid ((L.take m.toNat).length = min m.toNat L.length) := List.length_take
  have hcap := cap22 m L.length
  rw [HTE.out] at HT
  clear hown hb3 hk HTE
  generalize min m.toNat L.length = K at *
  go_wp2
  go_returns
  exact ⟨v0, c', by rw [HTL.out]; rfl, HT.out, HB.out⟩
end Go.Proofs.Ytldeflpaghbmmaa
