/-
  WALKS of bitset.First and of the iterator that bitset.Each hands back: the elements in ascending order; or a part of them, where a round has said 'no more'.
-/
import Derived.RangeFuncBox
import Derived.RangeFuncNested
import Derived.RangeFuncBound
import Derived.RangeFuncCalls
import Derived.RangeFuncLeaves
import Derived.RangeFuncFrom
import Derived.Shelf.Abstract
import Derived.Shelf.RegionOpen
import Derived.WalkKit
import Derived.OwnWalkIn
import Derived.TacticsInMore
import Derived.LoopNIn
import Derived.LoopIn
import Derived.Maps.AppendAt
import Derived.Lib.Hide
import Derived.Test.YtfmjekfgfkcleaaDoorShelf7
import Derived.Test.YtfmjekfgfkcleaaDoorBsCtz
import Derived.Test.YtfmjekfgfkcleaaDoorBsLaid
namespace Go.Proofs.YtfmjekfgfkcleaaDoor
open Go.RowKit Go.Shelf Go.Bs
attribute [local go_sem] Oper.semAt_some

/-- The table of TrailingZeros64 lies in its variable. -/
def Tab64 (w : World) : Prop := TabAt 0 Lib.deBruijn64tab w
theorem Tab64.below {w w' : World} {n : Nat} (h : Tab64 w) (hn : 0 < n) (hb : Below n w w') : Tab64 w' := fun j hj => (hb.cell (p := ⟨0, j, none⟩) hn).trans (h j hj)
theorem tab64_of {w : World} (h : LaidFacts w) : Tab64 w := by
  intro j hj
  have e : Lib.deBruijn64tab.length = 64 := rfl
  have := h.tab.cell gT j (by rw [e] at hj; exact hj)
  rw [this]
  rw [e] at hj
  congr 2
  exact (by decide +kernel : ∀ j : Fin 64, ([0, 1, 56, 2, 57, 49, 28, 3, 61, 58, 42, 50, 38, 29, 17, 4, 62, 47, 59, 36, 45, 43, 51, 22, 53, 39, 33, 30, 24, 18, 12, 5, 63, 55, 48, 27, 60, 41, 37, 16, 46, 35, 44, 21, 52, 32, 23, 11, 54, 26, 40, 15, 34, 20, 31, 10, 25, 14, 19, 9, 13, 8, 7, 6] : List Int).getD j.val 0 = ((Lib.deBruijn64tab.getD j.val 0 : Nat) : Int)) ⟨j, hj⟩

theorem tz_any (x : Nat) (hx : x < 18446744073709551616) (w : World) (hT : Tab64 w) :
    Calls Tryd.prog 35 #[.int .u64 x] w fun e w' => e = .returned (.int .i64 (Lib.ctz 64 x : Nat)) ∧ w = w' :=
  (Any7.bits_TrailingZeros64 Tryd.lays29 x hx w (fun _ => hT)).mono fun _ _ h => ⟨h.1, h.2.symm⟩

set_option maxRecDepth 100000 in
set_option maxHeartbeats 1000000 in
/-- The iterator's own text: for every loop body that keeps what lay below n₀. -/
theorem each1_in (n : Nat) (hn : 1 ≤ n) (l Bn n₀ : Nat) (hg : 0 < n₀) (s : Nat) (hs : s < 18446744073709551616) (J Jx : List Int → World → Prop)
    (hY : ∀ pre x W, J pre W → pre.length < (els s).length → YieldAt Fence.wide (n - 1) Tryd.prog l #[.int .i64 x] W fun e W' =>
      (e = .returned (.bool true) ∧ J (pre ++ [x]) W' ∧ Below n₀ W W') ∨ (e = .returned (.bool false) ∧ Jx (pre ++ [x]) W'))
    (W : World) (hBn : W.cell? ⟨Bn, 0, none⟩ = some (.int .u64 s)) (hT : Tab64 W) (h0 : J [] W) :
    CallsIn Fence.wide n Tryd.prog 34 #[.func (.yield l) #[] #[], .pointer (some ⟨Bn, 0, none⟩)] W fun e W' => (∃ v, e = .returned v) ∧
      ((∃ ys, ys = els s ∧ J ys W') ∨ (∃ pre, pre <+: els s ∧ Jx pre W')) := by
  obtain ⟨xs, hxs⟩ : ∃ xs, xs = els s := ⟨_, rfl⟩
  have HX := Lib.hid hxs
  rw [← hxs] at hY ⊢
  have Hs := Lib.hid hs
  clear hxs hs
  refine callsIn_of_wp Tryd.func34 rfl trivial ?_ rfl
  simp only [Tryd.ntmps34, List.size_toArray, List.length_cons, List.length_nil, Nat.reduceAdd, Nat.reduceSub, Array.replicate_succ, Array.replicate_zero, List.push_toArray, List.append_toArray, List.nil_append, List.cons_append]
  gi_wp2
  gi_loopw [3] (fun p wr => ∃ (pre : List Int) (x : Nat), p = .int .u64 x ∧ x < 18446744073709551616 ∧ xs = pre ++ els x ∧ Tab64 wr ∧ J pre wr)
    (fun p _ => (intOf p).toNat)
  case atStart =>
    exact ⟨[], s, rfl, Hs.out, HX.out, hT, h0⟩
  case round =>
    rename_i wr
    obtain ⟨pre, x, rfl, hx, hp, hTr, hJ⟩ := hrel
    by_cases hz : x = 0
    · subst hz
      have HP : Hid (pre = xs) := by unfold Hid; rw [hp, els_zero, List.append_nil]
      clear hp hx
      gi_wp2
      go_end0
      exact ⟨⟨_, rfl⟩, .inl ⟨pre, HP.out, hJ⟩⟩
    · have hlen : pre.length < xs.length := by rw [hp, els_cons hz hx]; simp
      have HP : Hid (xs = (pre ++ [((Lib.ctz 64 x : Nat) : Int)]) ++ els (nxt x)) := by unfold Hid; rw [hp, els_cons hz hx]; simp
      have HN := Lib.hid (nxt_wrap hz hx)
      have HL : Hid (nxt x < x) := nxt_lt hz
      have hTZ := tz_any x hx wr hTr
      obtain ⟨fn, tmps, assign, body, hy, hR⟩ := hY pre ((Lib.ctz 64 x : Nat) : Int) wr hJ hlen
      generalize Lib.ctz 64 x = c at *
      have Hx := Lib.hid hx
      clear hx hp
      have hz1 : ((x : Int) != 0) = true := by simp; omega
      gi_wp2_with (refine ⟨trivial, ?_⟩; gi_at_call 35; refine (callsIn_wide.2 hTZ).mono ?_; rintro e w' ⟨rfl, rfl⟩)
      refine hR.mono ?_
      rintro e W3 (⟨rfl, hJ3, hk3⟩ | ⟨rfl, hJx3⟩)
      · have hT3 : Tab64 W3 := hTr.below hg hk3
        gi_wp2
        rw [HN.out]
        go_roundw
        case rel => exact ⟨pre ++ [(c : Int)], nxt x, rfl, Nat.lt_trans HL.out Hx.out, HP.out, hT3, hJ3⟩
        case measure => have := HL.out; simp [intOf]; omega
      · gi_wp2
        refine bodyPost_ret (results_none rfl _ _ _) rfl ?_
        exact ⟨⟨_, rfl⟩, .inr ⟨pre ++ [(c : Int)], ⟨els (nxt x), HP.out.symm⟩, hJx3⟩⟩

set_option maxHeartbeats 1000000 in
/-- Each boxes the set; the function value captures the box. -/
theorem each_in (n : Nat) (s : Nat) (w : World) :
    CallsIn Fence.wide n Tryd.prog 18 #[.int .u64 s] w fun e w' => e = .returned (.func (.func 34) #[] #[.pointer (some ⟨w.heap.size, 0, none⟩)]) ∧ w' = w.alloc (.cells #[.int .u64 s] 22) := by
  refine callsIn_of_wp Tryd.func18 rfl trivial ?_ rfl
  simp only [Tryd.ntmps18, List.size_toArray, List.length_cons, List.length_nil, Nat.reduceAdd, Nat.reduceSub, Array.replicate_succ, Array.replicate_zero, List.push_toArray, List.append_toArray, List.nil_append, List.cons_append]
  gi_wp2
  go_ret
  exact ⟨rfl, rfl⟩

/-- EACH's VALUE: all elements in ascending order; or a part of them, where a round has said 'no more'. -/
theorem each_stops (n : Nat) (hn : 1 ≤ n) (Bn n₀ : Nat) (hg : 0 < n₀) (s : Nat) (hs : s < 18446744073709551616) (w : World) (hBn : Bn < w.heap.size) (hn₀ : n₀ ≤ w.heap.size)
    (hc : w.cell? ⟨Bn, 0, none⟩ = some (.int .u64 s)) (hT : Tab64 w) :
    SeqStopsK Fence.wide n Tryd.prog 34 #[.pointer (some ⟨Bn, 0, none⟩)] (fun x : Int => #[Value.int .i64 x]) (Below n₀) (fun ys => ys = els s) (fun pre => pre <+: els s) (els s).length w := fun l J Jx W hW _ _ hY h0 =>
  each1_in n hn l Bn n₀ hg s hs J Jx hY W ((hW.cell (p := ⟨Bn, 0, none⟩) hBn).trans hc) (hT.below (Nat.lt_of_lt_of_le hg hn₀) hW) h0

/-- **bitset.First.** -/
theorem first_some (s : Nat) (w : World) (h0 : s ≠ 0) (hs : s < 18446744073709551616) (hT : Tab64 w) :
    Calls Tryd.prog 20 #[.int .u64 s] w fun e w' => e = .returned (.tuple #[.int .i64 (Lib.ctz 64 s : Nat), .bool true]) ∧ w = w' := by
  have hTZ := tz_any s hs w hT
  have hz : ((s : Int) == 0) = false := by simp; omega
  clear h0 hs hT
  go_enter Tryd.func20, Tryd.ntmps20
  go_wp2_with (go_at_call 35; refine hTZ.mono ?_; rintro e w' ⟨rfl, rfl⟩)
  go_ret2
  exact ⟨rfl, rfl⟩
theorem first_zero (w : World) :
    Calls Tryd.prog 20 #[.int .u64 0] w fun e w' => e = .returned (.tuple #[.int .i64 0, .bool false]) ∧ w = w' := by
  go_enter Tryd.func20, Tryd.ntmps20
  go_wp2
  go_ret2
  exact ⟨rfl, rfl⟩
end Go.Proofs.YtfmjekfgfkcleaaDoor
