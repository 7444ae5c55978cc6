/-
  WALKS of package window: the functions of Missed: missed, lost, left.
-/
import Derived.Test.YtldeflpaghbmmaaWnFns
namespace Go.Proofs.Ytldeflpaghbmmaa
open Go.RowKit Go.Wn Go.Sq Go.Wr
attribute [local go_sem ↓ high] Ww_.loadF Ww_.storeF Ww_.v_cells Ww_.v_match
attribute [local go_sem] Ww_.C0 Ww_.C1 Ww_.C2 Ww_.C3 Ww_.loadF_new Ww_.storeF_zero Oper.semAt_some

/-- The numbers that are missed, in their variable's cell. -/
structure S1 (bq : Nat) (sa : Option Addr) (l : List Int) (c : Nat) (W : World) : Prop where
  q : W.cell? ⟨bq, 0, none⟩ = some (.slice sa l.length c)
  lq : bq < W.heap.size
  sl : Is_.Sl W sa l c
theorem S1.keep {bq : Nat} {sa : Option Addr} {l : List Int} {c : Nat} (W W' : World) (h : S1 bq sa l c W) (hb : Below W.heap.size W W') : S1 bq sa l c W' :=
  ⟨(hb.cell h.lq).trans h.q, Nat.lt_of_lt_of_le h.lq hb.size, h.sl.below hb⟩
/-- That, the function missed, the limit. -/
structure S2 (bq bM bl : Nat) (sa : Option Addr) (l : List Int) (c : Nat) (lim : Int) (W : World) : Prop where
  s1 : S1 bq sa l c W
  m : W.cell? ⟨bM, 0, none⟩ = some (.func (.func 58) #[] #[.pointer (some ⟨bq, 0, none⟩)])
  lm : bM < W.heap.size
  i : W.cell? ⟨bl, 0, none⟩ = some (.int .i64 lim)
  li : bl < W.heap.size
theorem S2.keep {bq bM bl : Nat} {sa : Option Addr} {l : List Int} {c : Nat} {lim : Int} (W W' : World) (h : S2 bq bM bl sa l c lim W) (hb : Below W.heap.size W W') : S2 bq bM bl sa l c lim W' :=
  ⟨h.s1.keep _ _ hb, (hb.cell h.lm).trans h.m, Nat.lt_of_lt_of_le h.lm hb.size, (hb.cell h.li).trans h.i, Nat.lt_of_lt_of_le h.li hb.size⟩
/-- That, and the function lost. -/
structure S3 (bq bM bl bL : Nat) (sa : Option Addr) (l : List Int) (c : Nat) (lim : Int) (W : World) : Prop where
  s2 : S2 bq bM bl sa l c lim W
  t : W.cell? ⟨bL, 0, none⟩ = some (.func (.func 61) #[] #[.pointer (some ⟨bM, 0, none⟩), .pointer (some ⟨bl, 0, none⟩)])
  lt : bL < W.heap.size
theorem S3.keep {bq bM bl bL : Nat} {sa : Option Addr} {l : List Int} {c : Nat} {lim : Int} (W W' : World) (h : S3 bq bM bl bL sa l c lim W) (hb : Below W.heap.size W W') : S3 bq bM bl bL sa l c lim W' :=
  ⟨h.s2.keep _ _ hb, (hb.cell h.lt).trans h.t, Nat.lt_of_lt_of_le h.lt hb.size⟩

set_option maxRecDepth 100000 in
set_option maxHeartbeats 4000000 in
theorem wn_isMissed_any (p : Sn) (bq : Nat) (sa : Option Addr) (l : List Int) (c : Nat) (hl : l.length ≤ 1000) (w : World) (hS : S1 bq sa l c w) :
    Calls Try.prog 58 #[Sn_.v p, .pointer (some ⟨bq, 0, none⟩)] w fun e w' => e = .returned (.bool (ms l p)) ∧ Below w.heap.size w w' := by
  obtain ⟨w1, hw1⟩ : ∃ w1, w.alloc (.cells #[.int .i64 p.id, .int .i64 p.q, .int .i64 p.tr, .bool p.dn, .string p.da] 76) = w1 := ⟨_, rfl⟩
  have hb : Sn_.Box w1 w.heap.size p := hw1 ▸ Sn_.Box.new w p rfl
  have B1 : Below w.heap.size w w1 := hw1 ▸ (Below.refl _ _).alloc (Nat.le_refl _) _
  have X1 := Lib.hid hb
  have HB1 := Lib.hid B1
  have HS1 := Lib.hid (hS.keep _ _ B1)
  have l1 := hb.load
  have e1 := hb.cells
  have CO := Lib.hid (fun W => wn_isOpen_any p W)
  have CC := Lib.hid (fun W (h1 : Is_.Sl W sa l c) (h2 : Sn_.Box W w.heap.size p) => wn_contains_any sa l c w.heap.size p W h1 hl h2)
  have HH : Hid (ms l p = (isOp p && amg l p.q)) := rfl
  rw [HH.out]
  unfold Sn_.v at CO ⊢
  generalize amg l p.q = A at *
  generalize isOp p = I at *
  clear hb hS HH B1
  cases I
  · rw [Bool.false_and]
    go_enter Try.func58, Try.ntmps58
    go_wp2_with (go_at_call 49; refine (CO.out _).mono ?_; rintro e w2 ⟨rfl, hw2⟩; have HB2 := Lib.hid (HB1.out.trans (hw2.mono HB1.out.size)); clear hw2)
    go_returns
    exact ⟨rfl, HB2.out⟩
  · rw [Bool.true_and]
    have HSQ := Lib.hid (fun W (h : Below w1.heap.size w1 W) => (HS1.out.keep _ W h).q)
    go_enter Try.func58, Try.ntmps58
    go_wp2_with (first
      | (go_at_call 49; refine (CO.out _).mono ?_; rintro e w2 ⟨rfl, hw2⟩; have HB2 := Lib.hid (HB1.out.trans (hw2.mono HB1.out.size)); have k2 := HSQ.out w2 hw2; have X2 := Lib.hid (X1.out.below hw2 X1.out.lt); have SL2 := Lib.hid ((HS1.out.keep _ _ hw2).sl); clear hw2)
      | (go_at_call 60; refine (CC.out _ SL2.out X2.out).mono ?_; rintro e w' ⟨rfl, rfl⟩))
    go_returns
    exact ⟨rfl, HB2.out⟩
theorem missed_tells (bq : Nat) (sa : Option Addr) (l : List Int) (c : Nat) (hl : l.length ≤ 1000) : Tells (S1 bq sa l c) 58 #[.pointer (some ⟨bq, 0, none⟩)] (ms l) :=
  ⟨fun args w => by kernel_rfl, fun p W h => wn_isMissed_any p bq sa l c hl W h⟩

set_option maxRecDepth 100000 in
set_option maxHeartbeats 4000000 in
theorem wn_isLost_any (p : Sn) (bq bM bl : Nat) (sa : Option Addr) (l : List Int) (c : Nat) (lim : Int) (hl : l.length ≤ 1000) (w : World) (hS : S2 bq bM bl sa l c lim w) :
    Calls Try.prog 61 #[Sn_.v p, .pointer (some ⟨bM, 0, none⟩), .pointer (some ⟨bl, 0, none⟩)] w fun e w' => e = .returned (.bool (lst l lim p)) ∧ Below w.heap.size w w' := by
  obtain ⟨w1, hw1⟩ : ∃ w1, w.alloc (.cells #[.int .i64 p.id, .int .i64 p.q, .int .i64 p.tr, .bool p.dn, .string p.da] 76) = w1 := ⟨_, rfl⟩
  have hb : Sn_.Box w1 w.heap.size p := hw1 ▸ Sn_.Box.new w p rfl
  have B1 : Below w.heap.size w w1 := hw1 ▸ (Below.refl _ _).alloc (Nat.le_refl _) _
  have X1 := Lib.hid hb
  have HB1 := Lib.hid B1
  have HS1 := Lib.hid (hS.keep _ _ B1)
  have l1 := hb.load
  have e1 := hb.cells
  have k1 := HS1.out.m
  have eg : ∀ (args : Array Value) (w : World), (callFunc 58 args).run Try.prog w = .ok (.enter 58 args) w := fun args w => by kernel_rfl
  have CM := Lib.hid (wn_isMissed_any p bq sa l c hl w1 HS1.out.s1)
  have HH : Hid (lst l lim p = (ms l p && decide (lim ≤ p.tr))) := rfl
  rw [HH.out]
  unfold Sn_.v at CM ⊢
  generalize ms l p = I at *
  clear hb hS HH B1
  cases I
  · rw [Bool.false_and]
    go_enter Try.func61, Try.ntmps61
    go_wp2_with (go_at_fn 58; refine CM.out.mono ?_; rintro e w2 ⟨rfl, hw2⟩; have HB2 := Lib.hid (HB1.out.trans (hw2.mono HB1.out.size)); clear hw2)
    go_returns
    exact ⟨rfl, HB2.out⟩
  · rw [Bool.true_and]
    go_enter Try.func61, Try.ntmps61
    go_wp2_with (go_at_fn 58; refine CM.out.mono ?_; rintro e w2 ⟨rfl, hw2⟩; have HB2 := Lib.hid (HB1.out.trans (hw2.mono HB1.out.size)); have k2 := (HS1.out.keep _ _ hw2).i; have e2 := (X1.out.below hw2 X1.out.lt).cells; clear hw2)
    go_returns
    exact ⟨rfl, HB2.out⟩
theorem lost_tells (bq bM bl : Nat) (sa : Option Addr) (l : List Int) (c : Nat) (lim : Int) (hl : l.length ≤ 1000) : Tells (S2 bq bM bl sa l c lim) 61 #[.pointer (some ⟨bM, 0, none⟩), .pointer (some ⟨bl, 0, none⟩)] (lst l lim) :=
  ⟨fun args w => by kernel_rfl, fun p W h => wn_isLost_any p bq bM bl sa l c lim hl W h⟩

set_option maxRecDepth 100000 in
set_option maxHeartbeats 4000000 in
theorem wn_isLeft_any (p : Sn) (bq bM bl bL : Nat) (sa : Option Addr) (l : List Int) (c : Nat) (lim : Int) (hl : l.length ≤ 1000) (w : World) (hS : S3 bq bM bl bL sa l c lim w) :
    Calls Try.prog 62 #[Sn_.v p, .pointer (some ⟨bL, 0, none⟩)] w fun e w' => e = .returned (.bool (lft l lim p)) ∧ Below w.heap.size w w' := by
  obtain ⟨w1, hw1⟩ : ∃ w1, w.alloc (.cells #[.int .i64 p.id, .int .i64 p.q, .int .i64 p.tr, .bool p.dn, .string p.da] 76) = w1 := ⟨_, rfl⟩
  have hb : Sn_.Box w1 w.heap.size p := hw1 ▸ Sn_.Box.new w p rfl
  have B1 : Below w.heap.size w w1 := hw1 ▸ (Below.refl _ _).alloc (Nat.le_refl _) _
  have HB1 := Lib.hid B1
  have HS1 := Lib.hid (hS.keep _ _ B1)
  have l1 := hb.load
  have e1 := hb.cells
  have k1 := HS1.out.t
  have eg : ∀ (args : Array Value) (w : World), (callFunc 61 args).run Try.prog w = .ok (.enter 61 args) w := fun args w => by kernel_rfl
  have CM := Lib.hid (wn_isLost_any p bq bM bl sa l c lim hl w1 HS1.out.s2)
  have HH : Hid (lft l lim p = !lst l lim p) := rfl
  rw [HH.out]
  unfold Sn_.v at CM ⊢
  generalize lst l lim p = I at *
  clear hb hS HH B1
  go_enter Try.func62, Try.ntmps62
  go_wp2_with (go_at_fn 61; refine CM.out.mono ?_; rintro e w2 ⟨rfl, hw2⟩; have HB2 := Lib.hid (HB1.out.trans (hw2.mono HB1.out.size)); clear hw2)
  go_returns
  exact ⟨rfl, HB2.out⟩
theorem left_tells (bq bM bl bL : Nat) (sa : Option Addr) (l : List Int) (c : Nat) (lim : Int) (hl : l.length ≤ 1000) : Tells (S3 bq bM bl bL sa l c lim) 62 #[.pointer (some ⟨bL, 0, none⟩)] (lft l lim) :=
  ⟨fun args w => by kernel_rfl, fun p W h => wn_isLeft_any p bq bM bl bL sa l c lim hl W h⟩
end Go.Proofs.Ytldeflpaghbmmaa
