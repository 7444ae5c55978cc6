/-
  THE WALK of the law BitsetStops: true, for every set and every number of rounds.
-/
import Derived.Test.YtfmjekfgfkcleaaDoorBsCounts
import Derived.Deep.RegionHeld3
namespace Go.Proofs.YtfmjekfgfkcleaaDoor
open Go.RowKit Go.Shelf Go.Bs
attribute [local go_sem] Oper.semAt_some

/-- The last element that has come; -1 where none has. -/
def lst (pre : List Int) : Int := pre.getLast?.getD (-1)
theorem lst_snoc (pre : List Int) (x : Int) : lst (pre ++ [x]) = x := by simp [lst]

/-- x is no next element behind pre. -/
def Bad (s : Nat) (pre : List Int) (x : Int) : Prop := x ≤ lst pre ∨ 63 < x ∨ has s x = false

theorem elk_lst (s : Nat) : ∀ k, lst (elk s k) < k
  | 0 => by rw [elk]; decide
  | k + 1 => by
    have := elk_lst s k
    cases h : has s k
    · rw [elk_no h]; omega
    · rw [elk_yes h, lst_snoc]; omega
theorem elk_good (s : Nat) : ∀ (k : Nat), k ≤ 64 → ∀ pre x, pre ++ [x] <+: elk s k → ¬ Bad s pre x
  | 0, _, pre, x, h => by
    obtain ⟨t, h⟩ := h
    simp [elk] at h
  | k + 1, hk, pre, x, h => by
    have ih := elk_good s k (by omega) pre x
    cases hh : has s k
    · rw [elk_no hh] at h; exact ih h
    · rw [elk_yes hh] at h
      rcases List.prefix_concat_iff.1 h with e | h
      · obtain ⟨rfl, e2⟩ := List.append_inj' e rfl
        obtain rfl : x = k := by simpa using e2
        have := elk_lst s k
        rintro (h1 | h1 | h1)
        · omega
        · omega
        · rw [hh] at h1; cases h1
      · exact ih h

/-- What holds between two rounds: b: the block of the first box. -/
def StI (w : World) (s most : Nat) (pre : List Int) (W : World) : Prop :=
  Boxed W w.heap.size 22 (.int .u64 s) ∧ Boxed W (w.heap.size + 1) 5 (.int .u8 most) ∧ Boxed W (w.heap.size + 1 + 1) 4 (.bool false) ∧
    Boxed W (w.heap.size + 1 + 1 + 1 + 1) 3 (.int .i64 pre.length) ∧ Boxed W (w.heap.size + 1 + 1 + 1 + 1 + 1) 3 (.int .i64 (lst pre))

theorem StI.own (w : World) (s most : Nat) : Own (StI w s most) := fun pre A B row h hg hr =>
  ⟨boxed_own _ _ (fun _ => _) pre A B row h.1 hg hr, boxed_own _ _ (fun _ => _) pre A B row h.2.1 hg hr, boxed_own _ _ (fun _ => _) pre A B row h.2.2.1 hg hr,
    boxed_own _ _ (fun _ => _) pre A B row h.2.2.2.1 hg hr, boxed_own _ _ (fun _ => _) pre A B row h.2.2.2.2 hg hr⟩

theorem StI.step {w W : World} {s most : Nat} {pre : List Int} (h : StI w s most pre W) (x : Int) :
    StI w s most (pre ++ [x]) ((W.setCell ⟨w.heap.size + 1 + 1 + 1 + 1 + 1, 0, none⟩ (.int .i64 x)).setCell ⟨w.heap.size + 1 + 1 + 1 + 1, 0, none⟩ (.int .i64 ((pre.length : Int) + 1))) ∧
    KeepsOthers W ((W.setCell ⟨w.heap.size + 1 + 1 + 1 + 1 + 1, 0, none⟩ (.int .i64 x)).setCell ⟨w.heap.size + 1 + 1 + 1 + 1, 0, none⟩ (.int .i64 ((pre.length : Int) + 1))) ∧
    Below w.heap.size W ((W.setCell ⟨w.heap.size + 1 + 1 + 1 + 1 + 1, 0, none⟩ (.int .i64 x)).setCell ⟨w.heap.size + 1 + 1 + 1 + 1, 0, none⟩ (.int .i64 ((pre.length : Int) + 1))) := by
  obtain ⟨c0, c1, c2, c4, c5⟩ := h
  refine ⟨⟨?_, ?_, ?_, ?_, ?_⟩, (KeepsOthers.setCell _ _ _).trans (KeepsOthers.setCell _ _ _), ((Below.refl _ W).setCell (p := ⟨w.heap.size + 1 + 1 + 1 + 1 + 1, 0, none⟩) (by simp; omega) _).setCell (p := ⟨w.heap.size + 1 + 1 + 1 + 1, 0, none⟩) (by simp; omega) _⟩
  · exact (c0.other (by omega) _).other (by omega) _
  · exact (c1.other (by omega) _).other (by omega) _
  · exact (c2.other (by omega) _).other (by omega) _
  · rw [show (((pre ++ [x]).length : Nat) : Int) = (pre.length : Int) + 1 from by simp]
    exact (c4.other (B' := w.heap.size + 1 + 1 + 1 + 1 + 1) (by omega) _).set _
  · rw [lst_snoc]
    exact (c5.set (.int .i64 x)).other (by omega) _

/-- What the last statement leaves. -/
def StEnd (w : World) (D : Nat) (e : Exit) (a : Act) (w' : World) : Prop :=
  e = .normal ∧ a.tmps[4]? = some (.pointer (some ⟨w.heap.size + 1 + 1, 0, none⟩)) ∧ a.defers = [{ target := .collected D, args := #[] }] ∧ w'.cell? ⟨w.heap.size + 1 + 1, 0, none⟩ = some (.bool true) ∧ w'.heap[D]? = some (.deferred (some [])) ∧ Below w.heap.size w w'

theorem far_cell {w2 : World} {b b' : Nat} {u v : Value} (h : b ≠ b') (hc : w2.cell? ⟨b, 0, none⟩ = some v) : (w2.setCell ⟨b', 0, none⟩ u).cell? ⟨b, 0, none⟩ = some v :=
  (World.cell?_of_block (a := ⟨b, 0, none⟩) (Below.heap_setCell w2 ⟨b', 0, none⟩ u b h)).trans hc

/-- How a round may be left: a bad element; or enough rounds. -/
def StX (w : World) (s most : Nat) (c : Code) (pre : List Int) (W : World) : Prop :=
  (c = .ret ∧ ∃ p x, pre = p ++ [x] ∧ Bad s p x) ∨ (c = .exit 0 ∧ pre.length = most + 1 ∧ StI w s most pre W)
theorem StX.own (w : World) (s most : Nat) (c : Code) : Own (StX w s most c) := fun pre A B row h hg hr => by
  rcases h with h | ⟨h1, h2, h3⟩
  · exact .inl h
  · exact .inr ⟨h1, h2, StI.own w s most pre A B row h3 hg hr⟩

set_option maxRecDepth 100000 in
set_option maxHeartbeats 4000000 in
theorem stops_in (n : Nat) (hn : 3 ≤ n) (s most : Nat) (hm : most ≤ 255) (hs : s < 18446744073709551616) (w : World) (hv : ErrVars w) (hT : Tab64 w) (hg : 0 < w.heap.size) :
    CallsIn Fence.wide n Tryd.prog 6 #[.int .u64 s, .int .u8 most] w fun e w' => e = .returned (.bool true) ∧ Below w.heap.size w w' := by
  have h1 : 1 ≤ n := by omega
  have hl64 : (els s).length ≤ 64 := elk_len s 64
  have Hs := Lib.hid hs
  have hfn := fn_nil
  refine callsIn_of_wp_marks Tryd.func6 rfl trivial ?_ rfl
  simp only [Tryd.ntmps6, List.size_toArray, List.length_cons, List.length_nil, Nat.reduceAdd, Nat.reduceSub, Array.replicate_succ, Array.replicate_zero, List.push_toArray, List.append_toArray, List.nil_append, List.cons_append]
  gi_wp2_with (refine ⟨trivial, ?_⟩; gi_at_call 18; refine (each_in (n - 1) s _).mono ?_; rintro e w' ⟨rfl, rfl⟩)
  have b0 := Boxed.new w 22 (.int .u64 s)
  have b1 := Boxed.new (w.alloc (.cells #[.int .u64 s] 22)) 5 (.int .u8 most)
  have b2 := Boxed.new ((w.alloc (.cells #[.int .u64 s] 22)).alloc (.cells #[.int .u8 most] 5)) 4 (.bool false)
  have b4 := Boxed.new ((((w.alloc (.cells #[.int .u64 s] 22)).alloc (.cells #[.int .u8 most] 5)).alloc (.cells #[.bool false] 4)).alloc (.cells #[.int .u64 s] 22)) 3 (.int .i64 0)
  have b5 := Boxed.new (((((w.alloc (.cells #[.int .u64 s] 22)).alloc (.cells #[.int .u8 most] 5)).alloc (.cells #[.bool false] 4)).alloc (.cells #[.int .u64 s] 22)).alloc (.cells #[.int .i64 0] 3)) 3 (.int .i64 (-1))
  have b6 := Boxed.new ((((((w.alloc (.cells #[.int .u64 s] 22)).alloc (.cells #[.int .u8 most] 5)).alloc (.cells #[.bool false] 4)).alloc (.cells #[.int .u64 s] 22)).alloc (.cells #[.int .i64 0] 3)).alloc (.cells #[.int .i64 (-1)] 3)) 22 (.int .u64 s)
  simp only [World.size_alloc] at b1 b2 b4 b5 b6
  have hB0 : Below w.heap.size w (((((((w.alloc (.cells #[.int .u64 s] 22)).alloc (.cells #[.int .u8 most] 5)).alloc (.cells #[.bool false] 4)).alloc (.cells #[.int .u64 s] 22)).alloc (.cells #[.int .i64 0] 3)).alloc (.cells #[.int .i64 (-1)] 3)).alloc (.cells #[.int .u64 s] 22)) := by
    refine Below.alloc (Below.alloc (Below.alloc (Below.alloc (Below.alloc (Below.alloc ((Below.refl _ w).alloc (Nat.le_refl _) _) ?_ _) ?_ _) ?_ _) ?_ _) ?_ _) ?_ _ <;> simp <;> omega
  have hI0 : StI w s most [] (((((((w.alloc (.cells #[.int .u64 s] 22)).alloc (.cells #[.int .u8 most] 5)).alloc (.cells #[.bool false] 4)).alloc (.cells #[.int .u64 s] 22)).alloc (.cells #[.int .i64 0] 3)).alloc (.cells #[.int .i64 (-1)] 3)).alloc (.cells #[.int .u64 s] 22)) := ⟨((((((b0.alloc _).alloc _).alloc _).alloc _).alloc _).alloc _), (((((b1.alloc _).alloc _).alloc _).alloc _).alloc _), ((((b2.alloc _).alloc _).alloc _).alloc _), ((b4.alloc _).alloc _), (b5.alloc _)⟩
  have HI0 := Lib.hid hI0
  refine wpIn_rangeFunc_ownF rfl h1 (gf := 34) (lb := #[.pointer (some ⟨w.heap.size + 1 + 1 + 1 + 1 + 1 + 1, 0, none⟩)]) rfl trivial (enters_of Tryd.func34 (by kernel_rfl) rfl)
    (each_stops (n - 1) (by omega) (w.heap.size + 1 + 1 + 1 + 1 + 1 + 1) w.heap.size hg s hs _ (by simp) (by simp; omega) b6.cell (hT.below hg hB0)) belowK_t (belowK_b (by simp; omega)) (Below.refl _ _) (fun _ => rfl)
    (fun pre W => (StI w s most pre W ∧ pre.length ≤ most) ∧ Below w.heap.size w W)
    (fun c pre W => StX w s most c pre W ∧ Below w.heap.size w W)
    (OwnFrom.and (OwnFrom.and (Own.from (StI.own w s most) _) (ownFrom_pure _ _)) (ownFrom_below (Nat.le_refl _) (by simp; omega)))
    (fun c => OwnFrom.and (Own.from (StX.own w s most c) _) (ownFrom_below (Nat.le_refl _) (by simp; omega)))
    ⟨⟨HI0.out, by simp⟩, hB0⟩
    (fun x => { tmps := #[.int .u64 s, .int .u8 most, .pointer (some ⟨w.heap.size, 0, none⟩), .pointer (some ⟨w.heap.size + 1, 0, none⟩), .pointer (some ⟨w.heap.size + 1 + 1, 0, none⟩), .pointer (some ⟨w.heap.size + 1 + 1 + 1 + 1, 0, none⟩), .pointer (some ⟨w.heap.size + 1 + 1 + 1 + 1 + 1, 0, none⟩), .int .i64 x, .int .u64 s, .func (.func 34) #[] #[.pointer (some ⟨w.heap.size + 1 + 1 + 1, 0, none⟩)], .bool false, .int .u64 s, .func (.func 34) #[] #[.pointer (some ⟨w.heap.size + 1 + 1 + 1 + 1 + 1 + 1, 0, none⟩)], .int .i64 x, undef, undef, undef, undef, undef, undef, undef, undef, undef, undef, undef, undef, undef, undef, undef, undef, undef, undef, undef, undef, undef, undef, undef, undef, undef, undef, undef, undef, undef, undef, undef], defers := [] }) ?assign ?body ?done ?stop
  case assign =>
    intro l x W K hK
    gi_wp2
    exact hK
  case body =>
    rintro l pre x W ⟨⟨hSt, hpm⟩, hB⟩ hlt
    have HSt := Lib.hid hSt
    obtain ⟨c0, c1, c2, c4, c5⟩ := hSt
    have hHas : ∀ m W, CallsIn (Fence.wide.inRound l) m Tryd.prog 11 #[.int .u64 s, .int .i64 x] W fun e w' => e = .returned (.bool (has s x)) ∧ W = w' := fun m W => CallsIn.inRound l (callsIn_wide.2 (has_any s x W Hs.out))
    have h0 := c0.cell
    have h1c := c1.cell
    have h2 := c2.cell
    have h2f := c2.frozen
    have h4 := c4.cell
    have h4f := c4.frozen
    have h5 := c5.cell
    have h5f := c5.frozen
    have hpl : pre.length ≤ 255 := by omega
    have hn2 : 1 ≤ n - 1 - 1 := by omega
    by_cases hx1 : x ≤ lst pre
    · have hbad : Hid (Bad s pre x) := .inl hx1
      generalize lst pre = m at h5 hx1
      gi_wp2
      refine ⟨trivial, ?_⟩
      gi_wp2
      exact ⟨KeepsOthers.setCell _ _ _, .inl ⟨rfl, pre, x, rfl, hbad.out⟩, hB.setCell (p := ⟨w.heap.size + 1 + 1, 0, none⟩) (by simp; omega) _⟩
    · by_cases hx2 : 63 < x
      · have hbad : Hid (Bad s pre x) := .inr (.inl hx2)
        generalize lst pre = m at h5 hx1
        gi_wp2
        refine ⟨trivial, ?_⟩
        gi_wp2
        exact ⟨KeepsOthers.setCell _ _ _, .inl ⟨rfl, pre, x, rfl, hbad.out⟩, hB.setCell (p := ⟨w.heap.size + 1 + 1, 0, none⟩) (by simp; omega) _⟩
      · cases hx3 : has s x
        · have hbad : Hid (Bad s pre x) := .inr (.inr hx3)
          rw [hx3] at hHas
          generalize lst pre = m at h5 hx1
          gi_wp2_with (refine ⟨trivial, ?_⟩; gi_at_call 11; refine (hHas _ _).mono ?_; rintro e w' ⟨rfl, rfl⟩)
          exact ⟨KeepsOthers.setCell _ _ _, .inl ⟨rfl, pre, x, rfl, hbad.out⟩, hB.setCell (p := ⟨w.heap.size + 1 + 1, 0, none⟩) (by simp; omega) _⟩
        · rw [hx3] at hHas
          clear hx3
          generalize lst pre = m at h5 hx1
          by_cases hlast : pre.length < most
          · gi_wp2_with (refine ⟨trivial, ?_⟩; gi_at_call 11; refine (hHas _ _).mono ?_; rintro e w' ⟨rfl, rfl⟩)
            obtain ⟨r1, r2, r3⟩ := HSt.out.step x
            exact ⟨r2, r3, ⟨r1, by simp; omega⟩, hB.trans r3⟩
          · gi_wp2_with (refine ⟨trivial, ?_⟩; gi_at_call 11; refine (hHas _ _).mono ?_; rintro e w' ⟨rfl, rfl⟩)
            obtain ⟨r1, r2, r3⟩ := HSt.out.step x
            exact ⟨r2, .inr ⟨rfl, by simp; omega, r1⟩, hB.trans r3⟩
  case done =>
    rintro D ys W hD rfl ⟨⟨⟨c0, c1, c2, c4, c5⟩, hpm⟩, hB⟩ hK
    have hDne : D ≠ w.heap.size + 1 + 1 := by
      rintro rfl; have := c2; unfold Boxed at this; rw [hK] at this; cases this
    have hD2 : D < W.heap.size := (Array.getElem?_eq_some_iff.1 hK).1
    have HLv : Hid (∀ wx : World, Below W.heap.size W wx → Calls Tryd.prog 17 #[] wx fun e w' => e = .returned (.bool true) ∧ Below W.heap.size W w') := fun wx hb =>
      (lives_any wx ((hv.below hB).below hb)).mono fun e w' h => ⟨h.1, hb.trans (h.2.mono hb.size)⟩
    have HC : Hid (∀ wx : World, Calls Tryd.prog 23 #[.int .u64 s] wx fun e w' => e = .returned (.int .i64 ((els s).length : Int)) ∧ wx = w') := fun wx => count_any s wx Hs.out
    have h0 := c0.cell
    have h1c := c1.cell
    have h2 := c2.cell
    have h2f := c2.frozen
    have h4 := c4.cell
    clear c5 hs hT hv hfn b0 b1 b2 b4 b5 b6 hB0 hI0 HI0
    generalize (els s).length = L at *
    gi_wp2
    rename_i aa
    refine wpIn_wide.2 (Code.wp_mono (Q := fun e a w' => StEnd w D e a w') ?_ ?_)
    · rintro e a w' ⟨rfl, h4t, hdf, hr, hKd, hBe⟩
      refine aa _ _ ?_
      obtain ⟨ts, ds⟩ := a
      obtain rfl : ds = _ := hdf
      gi_wp2
      refine ⟨by simp, .inl ⟨_, _, rfl, run_takeDeferred hKd, ?_⟩⟩
      have hc5 := cell_kept hr (grownBy_putObj' _ D (.deferred none)) (fun r e => by cases e; exact ⟨_, hKd, rfl⟩)
      refine ⟨.bool true, ?_, rfl, hBe.trans (belowK_b (w := w) (Nat.le_refl _) _ D _ _ (by simp at hD; omega) hKd rfl rfl)⟩
      simp [results, Tryd.f6, go_sem, h4t, hc5]
    clear aa
    have HK := Lib.hid hK
    have hw1 : IntKind.i64.wrap (most : Int) = (most : Int) := IntWalk.i64_in _ (by omega)
    have hw2 : IntKind.i64.wrap ((most : Int) + 1) = (most : Int) + 1 := IntWalk.i64_in _ (by omega)
    have hmn : min (L : Int) ((most : Int) + 1) = (L : Int) := by omega
    clear hK hpm hm hD hl64
    go_region_held3 (fun w' => w'.cell? ⟨w.heap.size, 0, none⟩ = some (.int .u64 s) ∧ w'.cell? ⟨w.heap.size + 1, 0, none⟩ = some (.int .u8 most) ∧ w'.cell? ⟨w.heap.size + 1 + 1 + 1 + 1, 0, none⟩ = some (.int .i64 L))
      (first | (exact ⟨((hk2.cell (p := ⟨w.heap.size, 0, none⟩) c0.lt).trans h0), ((hk2.cell (p := ⟨w.heap.size + 1, 0, none⟩) c1.lt).trans h1c), ((hk2.cell (p := ⟨w.heap.size + 1 + 1 + 1 + 1, 0, none⟩) c4.lt).trans h4)⟩) | (exact ⟨h0, h1c, h4⟩) | (exact ⟨far_cell (by omega) ((hk2.cell (p := ⟨w.heap.size, 0, none⟩) c0.lt).trans h0), far_cell (by omega) ((hk2.cell (p := ⟨w.heap.size + 1, 0, none⟩) c1.lt).trans h1c), far_cell (by omega) ((hk2.cell (p := ⟨w.heap.size + 1 + 1 + 1 + 1, 0, none⟩) c4.lt).trans h4)⟩) | go_keep)
      (first
        | (go_at_call 23; refine (HC.out _).mono ?_; rintro e w' ⟨rfl, rfl⟩)
        | (go_at_call 17; refine (HLv.out _ ?hbd).mono ?_; (case hbd => repeat (first | exact Below.refl _ _ | apply Below.drew)); rintro e w2 ⟨rfl, hk2⟩; have h2' := (hk2.cell (p := ⟨w.heap.size + 1 + 1, 0, none⟩) c2.lt).trans h2; have h2f' := (hk2.frozen (p := ⟨w.heap.size + 1 + 1, 0, none⟩) c2.lt).trans h2f))
    exact ⟨rfl, rfl, rfl, World.cell?_setCell_same' _ _ _ (by rw [h2']; rfl), (Below.heap_setCell _ _ _ D hDne).trans ((hk2.block D hD2).trans HK.out), (hB.trans (hk2.mono hB.size)).setCell (p := ⟨w.heap.size + 1 + 1, 0, none⟩) (by simp; omega) _⟩
  case stop =>
    rintro D c pre W hD hpre ⟨⟨rfl, p, x, rfl, hbad⟩ | ⟨rfl, hlen, c0, c1, c2, c4, c5⟩, hB⟩ hK
    · exact absurd hbad (elk_good s 64 (by omega) p x hpre)
    have hpm : pre.length ≤ (els s).length := hpre.length_le
    rw [hlen] at c4 hpm
    clear hlen hpre
    have hDne : D ≠ w.heap.size + 1 + 1 := by
      rintro rfl; have := c2; unfold Boxed at this; rw [hK] at this; cases this
    have hD2 : D < W.heap.size := (Array.getElem?_eq_some_iff.1 hK).1
    have HLv : Hid (∀ wx : World, Below W.heap.size W wx → Calls Tryd.prog 17 #[] wx fun e w' => e = .returned (.bool true) ∧ Below W.heap.size W w') := fun wx hb =>
      (lives_any wx ((hv.below hB).below hb)).mono fun e w' h => ⟨h.1, hb.trans (h.2.mono hb.size)⟩
    have HC : Hid (∀ wx : World, Calls Tryd.prog 23 #[.int .u64 s] wx fun e w' => e = .returned (.int .i64 ((els s).length : Int)) ∧ wx = w') := fun wx => count_any s wx Hs.out
    have h0 := c0.cell
    have h1c := c1.cell
    have h2 := c2.cell
    have h2f := c2.frozen
    have h4 := c4.cell
    clear c5 hs hT hv hfn b0 b1 b2 b4 b5 b6 hB0 hI0 HI0
    generalize (els s).length = L at *
    gi_wp2
    rename_i aa
    refine wpIn_wide.2 (Code.wp_mono (Q := fun e a w' => StEnd w D e a w') ?_ ?_)
    · rintro e a w' ⟨rfl, h4t, hdf, hr, hKd, hBe⟩
      refine aa _ _ ?_
      obtain ⟨ts, ds⟩ := a
      obtain rfl : ds = _ := hdf
      gi_wp2
      refine ⟨by simp, .inl ⟨_, _, rfl, run_takeDeferred hKd, ?_⟩⟩
      have hc5 := cell_kept hr (grownBy_putObj' _ D (.deferred none)) (fun r e => by cases e; exact ⟨_, hKd, rfl⟩)
      refine ⟨.bool true, ?_, rfl, hBe.trans (belowK_b (w := w) (Nat.le_refl _) _ D _ _ (by simp at hD; omega) hKd rfl rfl)⟩
      simp [results, Tryd.f6, go_sem, h4t, hc5]
    clear aa
    have HK := Lib.hid hK
    have hw1 : IntKind.i64.wrap (most : Int) = (most : Int) := IntWalk.i64_in _ (by omega)
    have hw2 : IntKind.i64.wrap ((most : Int) + 1) = (most : Int) + 1 := IntWalk.i64_in _ (by omega)
    have hmn : min (L : Int) ((most : Int) + 1) = (most : Int) + 1 := by omega
    clear hK hpm hm hD hl64
    go_region_held3 (fun w' => w'.cell? ⟨w.heap.size, 0, none⟩ = some (.int .u64 s) ∧ w'.cell? ⟨w.heap.size + 1, 0, none⟩ = some (.int .u8 most) ∧ w'.cell? ⟨w.heap.size + 1 + 1 + 1 + 1, 0, none⟩ = some (.int .i64 ((most : Int) + 1)))
      (first | (exact ⟨((hk2.cell (p := ⟨w.heap.size, 0, none⟩) c0.lt).trans h0), ((hk2.cell (p := ⟨w.heap.size + 1, 0, none⟩) c1.lt).trans h1c), ((hk2.cell (p := ⟨w.heap.size + 1 + 1 + 1 + 1, 0, none⟩) c4.lt).trans h4)⟩) | (exact ⟨h0, h1c, h4⟩) | (exact ⟨far_cell (by omega) ((hk2.cell (p := ⟨w.heap.size, 0, none⟩) c0.lt).trans h0), far_cell (by omega) ((hk2.cell (p := ⟨w.heap.size + 1, 0, none⟩) c1.lt).trans h1c), far_cell (by omega) ((hk2.cell (p := ⟨w.heap.size + 1 + 1 + 1 + 1, 0, none⟩) c4.lt).trans h4)⟩) | go_keep)
      (first
        | (go_at_call 23; refine (HC.out _).mono ?_; rintro e w' ⟨rfl, rfl⟩)
        | (go_at_call 17; refine (HLv.out _ ?hbs).mono ?_; (case hbs => repeat (first | exact Below.refl _ _ | apply Below.drew)); rintro e w2 ⟨rfl, hk2⟩; have h2' := (hk2.cell (p := ⟨w.heap.size + 1 + 1, 0, none⟩) c2.lt).trans h2; have h2f' := (hk2.frozen (p := ⟨w.heap.size + 1 + 1, 0, none⟩) c2.lt).trans h2f))
    exact ⟨rfl, rfl, rfl, World.cell?_setCell_same' _ _ _ (by rw [h2']; rfl), (Below.heap_setCell _ _ _ D hDne).trans ((hk2.block D hD2).trans HK.out), (hB.trans (hk2.mono hB.size)).setCell (p := ⟨w.heap.size + 1 + 1, 0, none⟩) (by simp; omega) _⟩

theorem bitsetStops_walk0 (a0 : Int) (w0 : (Lit.int .u64 a0).wf = true) (a1 : Int) (w1 : (Lit.int .u8 a1).wf = true) (W : World) (hl : LaidFacts W) :
    Calls Tryd.prog 6 #[.int .u64 a0, .int .u8 a1] W fun e w' => e = .returned (.bool true) ∧ Below W.heap.size W w' := by
  obtain ⟨n, rfl, hn⟩ := nat_of_u64 w0
  obtain ⟨m, rfl, hm⟩ : ∃ m : Nat, a1 = m ∧ m ≤ 255 := by
    simp [Lit.wf, IntKind.min, IntKind.max, IntKind.signed, IntKind.bits] at w1
    exact ⟨a1.toNat, by omega, by omega⟩
  have hT := tab64_of hl
  have hg : 0 < W.heap.size := World.block_lt_of_cell? W _ (hT 0 (by decide))
  exact (callsIn_wide (n := 3)).1 (stops_in 3 (by omega) n m hm hn W hl.errs hT hg)
end Go.Proofs.YtfmjekfgfkcleaaDoor
