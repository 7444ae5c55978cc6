/-
  WALKS of the laws of layer 22: state, same, few; the examples.
-/
import Derived.Test.YtldeflpaghbmmaaWnChk2
import Derived.Test.YtldeflpaghbmmaaWnMiss
import Derived.Test.YtldeflpaghbmmaaWnRef3
namespace Go.Proofs.Ytldeflpaghbmmaa
open Go.RowKit Go.Wn Go.Sq Go.Wr
attribute [local go_sem ↓ high] Ww_.loadF Ww_.storeF Ww_.v_cells Ww_.v_match Wv_.loadF Wv_.storeF Wv_.v_cells Wv_.v_match
attribute [local go_sem] Ww_.C0 Ww_.C1 Ww_.C2 Ww_.C3 Ww_.loadF_new Ww_.storeF_zero Wv_.C0 Wv_.C1 Wv_.C2 Wv_.C3 Wv_.loadF_new Wv_.storeF_zero Oper.semAt_some

set_option maxRecDepth 100000 in
set_option maxHeartbeats 2000000 in
theorem state22_any (x : Wn) (w : World) : Calls Try.prog 12 #[Wv_.v x] w fun e w' => e = .returned (Ww_.v x) ∧ Below w.heap.size w w' := by
  obtain ⟨w1, hw1⟩ : ∃ w1, w.alloc (.cells (Wv_.C x) 24) = w1 := ⟨_, rfl⟩
  obtain ⟨w2, hw2⟩ : ∃ w2, w1.alloc (.cells (Ww_.C zw) 29) = w2 := ⟨_, rfl⟩
  have hw2' : w1.alloc (.cells #[.int .i64 0, .int .i64 0, .slice none 0 0, .bool false] 29) = w2 := hw2
  have z1 : w1.heap.size = w.heap.size + 1 := by rw [← hw1]; simp
  have X1 : Wv_.Box w1 w.heap.size x := hw1 ▸ Wv_.Box.new w x
  have b1 : Below w.heap.size w w1 := hw1 ▸ (Below.refl _ _).alloc (Nat.le_refl _) _
  have b2 : Below w1.heap.size w1 w2 := hw2 ▸ (Below.refl _ _).alloc (Nat.le_refl _) _
  have X2 := X1.below b2 X1.lt
  have Y2 : Ww_.Box w2 (w.heap.size + 1) zw := by rw [← z1, ← hw2]; exact Ww_.Box.new w1 zw
  have e2 := X2.all
  have t2 : (Ww_.StoreF ⟨w.heap.size + 1, 0, none⟩ (.agg #[.int .i64 x.nx, .int .i64 x.sz, .slice x.sa x.n x.c, .bool x.rq])).run Try.prog w2 = .ok () (w2.setRow (w.heap.size + 1) (Ww_.C x)) := Y2.storeF x
  have Y3 := Lib.hid (Y2.setRow x)
  have B3 := Lib.hid (below_row22 (r := w.heap.size + 1) (b1.trans (b2.mono b1.size)) (by omega) (Ww_.C x))
  clear X1 b1 b2 hw2 X2 Y2
  go_enter Try.func12, Try.ntmps12
  go_wp2
  exact ret_wn1 Try.results12 rfl Y3.out rfl ⟨rfl, B3.out⟩

set_option maxRecDepth 100000 in
set_option maxHeartbeats 2000000 in
theorem same22_any (x y : Wn) (s : St) (w : World) (h : Lies w x s) (h' : Lies w y s) (hl : s.l.length ≤ 1000) :
    Calls Try.prog 14 #[Ww_.v x, Wv_.v y] w fun e w' => e = .returned (.bool true) ∧ Below w.heap.size w w' := by
  obtain ⟨w1, hw1⟩ : ∃ w1, w.alloc (.cells (Ww_.C x) 29) = w1 := ⟨_, rfl⟩
  obtain ⟨w2, hw2⟩ : ∃ w2, w1.alloc (.cells (Wv_.C y) 24) = w2 := ⟨_, rfl⟩
  have z1 : w1.heap.size = w.heap.size + 1 := by rw [← hw1]; simp
  have X1 : Ww_.Box w1 w.heap.size x := hw1 ▸ Ww_.Box.new w x
  have b1 : Below w.heap.size w w1 := hw1 ▸ (Below.refl _ _).alloc (Nat.le_refl _) _
  have b2 : Below w1.heap.size w1 w2 := hw2 ▸ (Below.refl _ _).alloc (Nat.le_refl _) _
  have B2 := Lib.hid (b1.trans (b2.mono b1.size))
  have e1 := (X1.below b2 X1.lt).all
  have Y2 : Wv_.Box w2 (w.heap.size + 1) y := by rw [← z1, ← hw2]; exact Wv_.Box.new w1 y
  have l2 := Y2.loadF
  have CS : Hid (Calls Try.prog 44 #[.agg #[.int .i64 x.nx, .int .i64 x.sz, .slice x.sa x.n x.c, .bool x.rq], Wv_.v y] w2 fun e w' => e = .returned (.bool true) ∧ Below w2.heap.size w2 w') := r22_same_any x y s w2 (h.below B2.out) (h'.below B2.out) hl
  clear X1 b1 b2 h h' hl Y2
  go_enter Try.func14, Try.ntmps14
  go_wp2_with (go_at_call 44; refine CS.out.mono ?_; rintro e w3 ⟨rfl, hw3⟩; have B3 := Lib.hid (B2.out.trans (hw3.mono B2.out.size)); clear hw3)
  go_returns
  exact ⟨rfl, B3.out⟩

set_option maxRecDepth 100000 in
set_option maxHeartbeats 2000000 in
theorem few22_any (x : Wn) (w : World) : Calls Try.prog 9 #[Wv_.v x] w fun e w' => e = .returned (.bool (decide (x.n ≤ 70))) ∧ Below w.heap.size w w' := by
  obtain ⟨w1, hw1⟩ : ∃ w1, w.alloc (.cells (Wv_.C x) 24) = w1 := ⟨_, rfl⟩
  have X1 : Wv_.Box w1 w.heap.size x := hw1 ▸ Wv_.Box.new w x
  have B1 : Hid (Below w.heap.size w w1) := hw1 ▸ (Below.refl _ _).alloc (Nat.le_refl _) _
  have e1 := X1.all
  have hd : Hid (decide ((x.n : Int) ≤ 70) = decide (x.n ≤ 70)) := by show _ = _; rw [decide_eq_decide]; omega
  clear X1
  go_enter Try.func9, Try.ntmps9
  go_wp2
  go_returns
  exact ⟨by rw [← hd.out]; rfl, B1.out⟩

def pk (i q : Int) (d : Bool) : Sn := ⟨i, q, 0, d, ⟨#[]⟩⟩
def lv0 : St := ⟨6, 4, [pk 1 3 false, pk 2 4 false, pk 3 5 false], false⟩
def lv1 : St := ⟨6, 4, [pk 2 4 false, pk 3 5 true], false⟩
def lv2 : St := ⟨6, 4, [], true⟩
theorem lv_acked : acked lv0 3 5 = (lv1, [1, 3]) := by rfl
theorem lv_missed : missed lv1 [4] 1 = (lv2, [2]) := by rfl
theorem lv_chk : chk lv0 = 0 := by rfl
theorem lv_bgn : bgn lv1 = 4 := by rfl
theorem lv_room : room lv2 = 0 := by rfl
theorem lv_resize : resize ⟨0, 0, [], false⟩ 65 = (zst, 4) := by rfl
theorem lv_md : md (-1) = 4095 := by rfl
end Go.Proofs.Ytldeflpaghbmmaa
