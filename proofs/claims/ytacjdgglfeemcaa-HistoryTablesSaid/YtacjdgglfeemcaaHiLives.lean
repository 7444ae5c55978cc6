/-
  THE WALK of the examples that every law of layer 19 ends with.
-/
import Derived.Test.YtacjdgglfeemcaaHiPeers
import Derived.Test.YtacjdgglfeemcaaHiSoB
import Derived.Test.YtacjdgglfeemcaaQuietOf
import Derived.Test.YtacjdgglfeemcaaLexFast
namespace Go.Proofs.Ytacjdgglfeemcaa
open Go.RowKit Go.Hi
attribute [local go_sem ↓ high] Lw_.loadF Lw_.storeF Lw_.v_cells Lw_.v_match
attribute [local go_sem] Lw_.loadF_new Lw_.storeF_zero Lw_.guard Lw_.guard_lit

theorem grownBy_box {w w' : World} {b g : Nat} {x : La} (h : w.grownBy w' (some b)) (hx : Lw_.Box w g x) (hne : g ≠ b) : Lw_.Box w' g x :=
  (h.block g hx.lt (fun e => hne (by cases e; rfl))).trans hx

def lx : La := ⟨true, 5, 0⟩
def M1 : Tb := [(9, zf.set 1 lx)]
def M2 : Tb := [(7, zf.set 1 lx), (9, zf.set 1 lx)]
theorem ex_m1 : put [] 9 1 lx = M1 := by decide +kernel
theorem ex_m2 : put M1 7 1 lx = M2 := by decide +kernel
theorem ex_g1 : get M2 7 1 = lx := by decide +kernel
theorem ex_g2 : get M2 7 2 = zl := by decide +kernel
theorem ex_ks : ks M2 = [7, 9] := rfl

set_option maxRecDepth 100000 in
set_option maxHeartbeats 4000000 in
theorem lives19_any (w : World) : Calls Try.prog 10 #[] w fun e w' => e = .returned (.bool true) ∧ Below w.heap.size w w' := by
  have C1 : Hid (∀ W, Calls Try.prog 8 #[.agg #[.bool false, .int .i64 0, .int .i64 0], .int .i64 5, .int .i64 0] W fun e w' => e = .returned (.tuple #[Lw_.v lx, .int .i64 0]) ∧ Below W.heap.size W w') := fun W => hiNote_any zl 5 0 W
  have C2 : Hid (∀ W, Calls Try.prog 8 #[Lw_.v lx, .int .i64 5, .int .i64 0] W fun e w' => e = .returned (.tuple #[Lw_.v lx, .int .i64 1]) ∧ Below W.heap.size W w') := fun W => hiNote_any lx 5 0 W
  have C3 : Hid (∀ W, Calls Try.prog 8 #[Lw_.v lx, .int .i64 5, .int .i64 1] W fun e w' => ∃ y, e = .returned (.tuple #[Lw_.v y, .int .i64 0]) ∧ Below W.heap.size W w') := fun W => (hiNote_any lx 5 1 W).mono fun _ _ q => ⟨_, q.1, q.2⟩
  have C4 : Hid (∀ W b, Tab W b 0 [] → Calls Try.prog 15 #[.map (some b), .int .u64 9, .int .i64 1, Lw_.v lx] W fun e w' => e = .returned (.tuple #[]) ∧ Tab w' b 1 M1 ∧ W.grownBy w' (some b)) := fun W b h => by
    have := hiPut_any 9 1 lx W h (by unfold maxLen; omega) (by decide)
    rwa [ex_m1] at this
  have C5 : Hid (∀ W b, Tab W b 1 M1 → Calls Try.prog 15 #[.map (some b), .int .u64 7, .int .i64 1, Lw_.v lx] W fun e w' => e = .returned (.tuple #[]) ∧ Tab w' b 2 M2 ∧ W.grownBy w' (some b)) := fun W b h => by
    have := hiPut_any 7 1 lx W h (by unfold maxLen; omega) (by decide)
    rwa [ex_m2] at this
  have C6 : Hid (∀ W b, Tab W b 2 M2 → Calls Try.prog 12 #[.map (some b)] W fun e w' => ∃ v0 c, e = .returned (.slice v0 2 c) ∧ Us_.Sl w' v0 [7, 9] c ∧ Below W.heap.size W w') := fun W b h =>
    hiPeers_any 12 (by omega) (by show 2 ≤ 12; omega) sort12 sort_nil W h
  have C7 : Hid (∀ W b, Tab W b 2 M2 → Calls Try.prog 13 #[.map (some b), .int .u64 7, .int .i64 1] W fun e w' => e = .returned (Lw_.v lx) ∧ Below W.heap.size W w') := fun W b h => by
    have := hiGet_any 7 1 W h (by decide)
    rwa [ex_g1] at this
  have C8 : Hid (∀ W b, Tab W b 2 M2 → Calls Try.prog 13 #[.map (some b), .int .u64 7, .int .i64 2] W fun e w' => e = .returned (Lw_.v zl) ∧ Below W.heap.size W w') := fun W b h => by
    have := hiGet_any 7 2 W h (by decide)
    rwa [ex_g2] at this
  have q1 : ∀ W, (binOp .eql 23 (Lw_.v lx) (Lw_.v lx)).run Try.prog W = .ok (.bool true) W := fun W => by rw [Lw_.eql]; rfl
  have q2 : ∀ W, (binOp .eql 23 (Lw_.v zl) (.agg #[.bool false, .int .i64 0, .int .i64 0])).run Try.prog W = .ok (.bool true) W := fun W => by rw [Lw_.eql_lit]; rfl
  have hmm := @run_makeMap Try.prog
  generalize lx = L at *
  generalize M1 = N1 at *
  generalize M2 = N2 at *
  go_enter Try.func10, Try.ntmps10
  go_wp2_with fail
  refine (C1.out w).mono ?_
  rintro e w1 ⟨rfl, h⟩
  have B1 := Lib.hid h
  clear h C1
  obtain ⟨w2, hw2⟩ : ∃ w2, w1.alloc (.cells (Lw_.C L) 23) = w2 := ⟨_, rfl⟩
  have X2 := Lib.hid (show Lw_.Box w2 w1.heap.size L from hw2 ▸ Lw_.Box.new w1 L)
  have b2 : Below w1.heap.size w1 w2 := hw2 ▸ (Below.refl _ _).alloc (Nat.le_refl _) _
  have B2 := Lib.hid (B1.out.trans (b2.mono B1.out.size))
  have l2 := X2.out.loadF
  clear b2 B1
  go_wp2_with fail
  refine (C2.out w2).mono ?_
  rintro e w3 ⟨rfl, h⟩
  have B3 := Lib.hid (B2.out.trans (h.mono B2.out.size))
  have X3 := Lib.hid (X2.out.below h X2.out.lt)
  clear h B2 C2 l2 hw2 X2
  obtain ⟨w4, hw4⟩ : ∃ w4, w3.alloc (.cells (Lw_.C L) 23) = w4 := ⟨_, rfl⟩
  have b4 : Below w3.heap.size w3 w4 := hw4 ▸ (Below.refl _ _).alloc (Nat.le_refl _) _
  have B4 := Lib.hid (B3.out.trans (b4.mono B3.out.size))
  have X4 := Lib.hid (X3.out.below b4 X3.out.lt)
  have l4 := X4.out.loadF
  clear b4 B3 X3
  go_wp2_with fail
  refine (C3.out w4).mono ?_
  rintro e w5 ⟨y, rfl, h⟩
  have B5 := Lib.hid (B4.out.trans (h.mono B4.out.size))
  have X5 := Lib.hid (X4.out.below h X4.out.lt)
  clear h B4 C3 l4 hw4 X4
  obtain ⟨w6, hw6⟩ : ∃ w6, w5.alloc (.cells (Lw_.C y) 23) = w6 := ⟨_, rfl⟩
  have b6 : Below w5.heap.size w5 w6 := hw6 ▸ (Below.refl _ _).alloc (Nat.le_refl _) _
  have B6 := Lib.hid (B5.out.trans (b6.mono B5.out.size))
  have X6 := Lib.hid (X5.out.below b6 X5.out.lt)
  clear b6 B5 X5
  obtain ⟨w7, hw7⟩ : ∃ w7, w6.alloc (.map #[] 0) = w7 := ⟨_, rfl⟩
  have b7 : Below w6.heap.size w6 w7 := hw7 ▸ (Below.refl _ _).alloc (Nat.le_refl _) _
  have T7 := Lib.hid (show Tab w7 w6.heap.size 0 [] from hw7 ▸ Tab.made w6)
  have HM : Hid (w.heap.size ≤ w6.heap.size) := B6.out.size
  have HN : Hid (w1.heap.size < w6.heap.size) := X6.out.lt
  have B7 := Lib.hid (B6.out.trans (b7.mono B6.out.size))
  have X7 := Lib.hid (X6.out.below b7 X6.out.lt)
  have l7 := X7.out.loadF
  clear b7 B6 X6
  obtain ⟨b, hb⟩ : ∃ b, w6.heap.size = b := ⟨_, rfl⟩
  rw [hb] at T7 HM HN
  go_wp2_with fail
  refine (C4.out w7 b T7.out).mono ?_
  rintro e w8 ⟨rfl, ht, hg⟩
  have T8 := Lib.hid ht
  have B8 := Lib.hid (B7.out.grown hg B7.out.size (fun k e => by cases e; exact HM.out))
  have X8 := Lib.hid (grownBy_box hg X7.out (Nat.ne_of_lt HN.out))
  have l8 := X8.out.loadF
  clear ht hg C4 T7 B7 X7 l7 hw7
  go_wp2_with fail
  refine (C5.out w8 b T8.out).mono ?_
  rintro e w9 ⟨rfl, ht, hg⟩
  have T9 := Lib.hid ht
  have B9 := Lib.hid (B8.out.grown hg B8.out.size (fun k e => by cases e; exact HM.out))
  have X9 := Lib.hid (grownBy_box hg X8.out (Nat.ne_of_lt HN.out))
  clear ht hg C5 T8 B8 X8 l8
  go_wp2_with fail
  refine (C6.out w9 b T9.out).mono ?_
  rintro e w10 ⟨v0, c, rfl, hs, h⟩
  obtain ⟨pb, po, rfl, hlt, hc⟩ := hs.lies 0 (by decide)
  have B10 := Lib.hid (B9.out.trans (h.mono B9.out.size))
  have T10 := Lib.hid (T9.out.below h)
  have X10 := Lib.hid (X9.out.below h X9.out.lt)
  clear h C6 T9 B9 X9 hs
  rw [Nat.add_zero] at hc
  have hc' : ∀ q : Of (fun w' => Below w10.heap.size w10 w'), q.w.cell? ⟨pb, po, none⟩ = some (.int .u64 7) := fun q => (q.ok.cell hlt).trans hc
  have hl' : ∀ q : Of (fun w' => Below w10.heap.size w10 w'), (Lw_.LoadF ⟨w1.heap.size, 0, none⟩).run Try.prog q.w = .ok (Lw_.v L) q.w := fun q => (X10.out.below q.ok X10.out.lt).loadF
  have D7 : Hid (∀ q : Of (fun w' => Below w10.heap.size w10 w'), Calls Try.prog 13 #[.map (some b), .int .u64 7, .int .i64 1] q.w fun e w' => e = .returned (Lw_.v L) ∧ Below q.w.heap.size q.w w') := fun q => C7.out q.w b (T10.out.below q.ok)
  have D8 : Hid (∀ q : Of (fun w' => Below w10.heap.size w10 w'), Calls Try.prog 13 #[.map (some b), .int .u64 7, .int .i64 2] q.w fun e w' => e = .returned (Lw_.v zl) ∧ Below q.w.heap.size q.w w') := fun q => C8.out q.w b (T10.out.below q.ok)
  have HKB : Hid (∀ w w', Below w10.heap.size w10 w → Below w.heap.size w w' → Below w10.heap.size w10 w') := fun _ _ h hb => h.trans (hb.mono h.size)
  have _ne : Nonempty (Of (fun w' => Below w10.heap.size w10 w')) := ⟨⟨_, Below.refl _ _⟩⟩
  clear C7 C8 hlt hc
  go_wp2
  refine wp_region_of (fun w' => Below w10.heap.size w10 w') (by kernel_rfl) (Region.lexB_of_fast (by kernel_rfl)) (Below.refl _ _).drew ?_
  repeat (go_big_quiet_step (first
    | (go_at_call 13; with_reducible exact Calls.of_below HKB.out (D7.out _))
    | (go_at_call 13; with_reducible exact Calls.of_below HKB.out (D8.out _))))
  refine wpQuiet_nil ?_
  rintro _ ⟨q, rfl⟩
  have HB2 := Lib.hid q.ok
  go_wp2
  go_returns
  exact ⟨rfl, B10.out.trans (HB2.out.mono B10.out.size)⟩
end Go.Proofs.Ytacjdgglfeemcaa
