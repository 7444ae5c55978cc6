/-
  WALKS of the iterator that bitset.Each hands back, AT ROUNDS THAT ARE TOLD THAT THE ELEMENT LIES FROM 0 TO 63.
-/
import Derived.Test.YtfmjekfgfkcleaaDoorBsIter
namespace Go.Proofs.YtfmjekfgfkcleaaDoor
open Go.RowKit Go.Shelf Go.Bs
attribute [local go_sem] Oper.semAt_some

/-- The numbers of a list. -/
def iv (l : List (Fin 64)) : List Int := l.map fun i => (i.val : Int)
theorem iv_snoc (l : List (Fin 64)) (i : Fin 64) : iv (l ++ [i]) = iv l ++ [(i.val : Int)] := by simp [iv]
theorem iv_len (l : List (Fin 64)) : (iv l).length = l.length := by simp [iv]

set_option maxRecDepth 100000 in
set_option maxHeartbeats 1000000 in
theorem each1f_in (n : Nat) (hn : 1 ≤ n) (l Bn n₀ : Nat) (hg : 0 < n₀) (s : Nat) (hs : s < 18446744073709551616) (J Jx : List (Fin 64) → World → Prop)
    (hY : ∀ pre (x : Fin 64) W, J pre W → pre.length < (els s).length → YieldAt Fence.wide (n - 1) Tryd.prog l #[.int .i64 (x.val : Int)] W fun e W' =>
      (e = .returned (.bool true) ∧ J (pre ++ [x]) W' ∧ Below n₀ W W') ∨ (e = .returned (.bool false) ∧ Jx (pre ++ [x]) W'))
    (W : World) (hBn : W.cell? ⟨Bn, 0, none⟩ = some (.int .u64 s)) (hT : Tab64 W) (h0 : J [] W) :
    CallsIn Fence.wide n Tryd.prog 34 #[.func (.yield l) #[] #[], .pointer (some ⟨Bn, 0, none⟩)] W fun e W' => (∃ v, e = .returned v) ∧
      ((∃ ys, iv ys = els s ∧ J ys W') ∨ (∃ pre, iv pre <+: els s ∧ Jx pre W')) := by
  obtain ⟨xs, hxs⟩ : ∃ xs, xs = els s := ⟨_, rfl⟩
  have HX := Lib.hid hxs
  rw [← hxs] at hY ⊢
  have Hs := Lib.hid hs
  clear hxs hs
  refine callsIn_of_wp Tryd.func34 rfl trivial ?_ rfl
  simp only [Tryd.ntmps34, List.size_toArray, List.length_cons, List.length_nil, Nat.reduceAdd, Nat.reduceSub, Array.replicate_succ, Array.replicate_zero, List.push_toArray, List.append_toArray, List.nil_append, List.cons_append]
  gi_wp2
  gi_loopw [3] (fun p wr => ∃ (pre : List (Fin 64)) (x : Nat), p = .int .u64 x ∧ x < 18446744073709551616 ∧ xs = iv pre ++ els x ∧ Tab64 wr ∧ J pre wr)
    (fun p _ => (intOf p).toNat)
  case atStart =>
    exact ⟨[], s, rfl, Hs.out, HX.out, hT, h0⟩
  case round =>
    rename_i wr
    obtain ⟨pre, x, rfl, hx, hp, hTr, hJ⟩ := hrel
    by_cases hz : x = 0
    · subst hz
      have HP : Hid (iv pre = xs) := by unfold Hid; rw [hp, els_zero, List.append_nil]
      clear hp hx
      gi_wp2
      go_end0
      exact ⟨⟨_, rfl⟩, .inl ⟨pre, HP.out, hJ⟩⟩
    · have hlen : pre.length < xs.length := by rw [hp, els_cons hz hx]; simp [iv]
      obtain ⟨c, hc⟩ : ∃ c : Fin 64, c.val = Lib.ctz 64 x := ⟨⟨_, (ctz_spec hz hx).choose_spec.2⟩, rfl⟩
      have HP : Hid (xs = iv (pre ++ [c]) ++ els (nxt x)) := by unfold Hid; rw [hp, els_cons hz hx, iv_snoc, hc]; simp
      have HN := Lib.hid (nxt_wrap hz hx)
      have HL : Hid (nxt x < x) := nxt_lt hz
      have hTZ := tz_any x hx wr hTr
      obtain ⟨fn, tmps, assign, body, hy, hR⟩ := hY pre c wr hJ hlen
      rw [← hc] at hTZ
      clear hc
      obtain ⟨k, hk⟩ : ∃ k : Int, k = (c.val : Int) := ⟨_, rfl⟩
      rw [← hk] at hy hTZ
      have Hx := Lib.hid hx
      clear hx hp hk
      have hz1 : ((x : Int) != 0) = true := by simp; omega
      gi_wp2_with (refine ⟨trivial, ?_⟩; gi_at_call 35; refine (callsIn_wide.2 hTZ).mono ?_; rintro e w' ⟨rfl, rfl⟩)
      refine hR.mono ?_
      rintro e W3 (⟨rfl, hJ3, hk3⟩ | ⟨rfl, hJx3⟩)
      · have hT3 : Tab64 W3 := hTr.below hg hk3
        gi_wp2
        rw [HN.out]
        go_roundw
        case rel => exact ⟨pre ++ [c], nxt x, rfl, Nat.lt_trans HL.out Hx.out, HP.out, hT3, hJ3⟩
        case measure => have := HL.out; simp [intOf]; omega
      · gi_wp2
        refine bodyPost_ret (results_none rfl _ _ _) rfl ?_
        exact ⟨⟨_, rfl⟩, .inr ⟨pre ++ [c], ⟨els (nxt x), HP.out.symm⟩, hJx3⟩⟩

theorem eachf_stops (n : Nat) (hn : 1 ≤ n) (Bn n₀ : Nat) (hg : 0 < n₀) (s : Nat) (hs : s < 18446744073709551616) (w : World) (hBn : Bn < w.heap.size) (hn₀ : n₀ ≤ w.heap.size)
    (hc : w.cell? ⟨Bn, 0, none⟩ = some (.int .u64 s)) (hT : Tab64 w) :
    SeqStopsK Fence.wide n Tryd.prog 34 #[.pointer (some ⟨Bn, 0, none⟩)] (fun x : Fin 64 => #[Value.int .i64 (x.val : Int)]) (Below n₀) (fun ys => iv ys = els s) (fun pre => iv pre <+: els s) (els s).length w := fun l J Jx W hW _ _ hY h0 =>
  each1f_in n hn l Bn n₀ hg s hs J Jx hY W ((hW.cell (p := ⟨Bn, 0, none⟩) hBn).trans hc) (hT.below (Nat.lt_of_lt_of_le hg hn₀) hW) h0
end Go.Proofs.YtfmjekfgfkcleaaDoor
