/-
  WALKS OF THE LANDED CODE OF LAYER 6: reduce, Valid, Add, Distance, Before, In, Window and the iterator that Window hands back: they make XSqProg's Does.
-/
import Derived.Lib.MinMax
import Derived.Laws.BitsAllLaws
import Derived.Laws.BitsLemmas
import Derived.Test.YtjpmjffamecddaaSqMembers
namespace Go.Proofs.Ytjpmjffamecddaa
open Go.RowKit Go.Shelf Go.Sq
attribute [local go_sem] Oper.semAt_some

theorem and_4095 (n : Int) : bits .and .i64 n 4095 = md n := by
  show IntKind.i64.wrap ((BitVec.ofInt 64 n &&& BitVec.ofInt 64 4095).toNat : Int) = n % 4096
  have e1 : (BitVec.ofInt 64 (4095 : Int)).toNat = 4095 := by decide
  have e2 : ((BitVec.ofInt 64 n).toNat : Int) = n % 18446744073709551616 := by
    rw [BitVec.toNat_ofInt]
    have : 0 ≤ n % ((2 ^ 64 : Nat) : Int) := Int.emod_nonneg _ (by decide)
    rw [Int.toNat_of_nonneg this]; rfl
  rw [BitVec.toNat_and, e1, show (4095 : Nat) = 2 ^ 12 - 1 from rfl, Nat.and_two_pow_sub_one_eq_mod, IntKind.wrap_i64]
  omega

theorem wrap_md (x : Int) : md (wrap64 x) = md x := by unfold md wrap64; omega

set_option maxHeartbeats 400000 in
theorem reduce_any (n : Int) (w : World) :
    Calls Try.prog 22 #[.int .i64 n] w fun e w' => e = .returned (.int .i64 (md n)) ∧ w = w' := by
  have h := and_4095 n
  generalize md n = m at *
  go_enter Try.func22, Try.ntmps22
  go_wp2
  go_returns
  exact ⟨rfl, rfl⟩

set_option maxHeartbeats 400000 in
theorem valid_any (n : Int) (w : World) :
    Calls Try.prog 8 #[.int .i64 n] w fun e w' => e = .returned (.bool (vl n)) ∧ w = w' := by
  have hy : (0 ≤ n ∧ n < 4096) → vl n = true := fun h => decide_eq_true h
  have hn : ¬ (0 ≤ n ∧ n < 4096) → vl n = false := fun h => decide_eq_false h
  generalize vl n = v at *
  by_cases h1 : 0 ≤ n
  · by_cases h2 : n < 4096
    · obtain rfl := hy ⟨h1, h2⟩
      clear hy hn
      go_enter Try.func8, Try.ntmps8
      go_wp2
      go_returns
      exact ⟨rfl, rfl⟩
    · obtain rfl := hn (fun h => h2 h.2)
      clear hy hn
      go_enter Try.func8, Try.ntmps8
      go_wp2
      go_returns
      exact ⟨rfl, rfl⟩
  · obtain rfl := hn (fun h => h1 h.1)
    clear hy hn
    go_enter Try.func8, Try.ntmps8
    go_wp2
    go_returns
    exact ⟨rfl, rfl⟩

set_option maxHeartbeats 400000 in
theorem add_any (n k : Int) (w : World) :
    Calls Try.prog 10 #[.int .i64 n, .int .i64 k] w fun e w' => e = .returned (.int .i64 (add n k)) ∧ w = w' := by
  have C := Lib.hid (fun w => reduce_any (wrap64 (n + k)) w)
  have e : md (wrap64 (n + k)) = add n k := wrap_md _
  rw [e] at C
  generalize add n k = r at *
  go_enter Try.func10, Try.ntmps10
  go_wp2_with (go_at_call 22; refine (C.out _).mono ?_; rintro e w' ⟨rfl, rfl⟩)
  go_returns
  exact ⟨rfl, rfl⟩

set_option maxHeartbeats 400000 in
theorem distance_any (a b : Int) (w : World) :
    Calls Try.prog 12 #[.int .i64 a, .int .i64 b] w fun e w' => e = .returned (.int .i64 (dist a b)) ∧ w = w' := by
  have C := Lib.hid (fun w => reduce_any (wrap64 (b - a)) w)
  have e : md (wrap64 (b - a)) = dist a b := wrap_md _
  rw [e] at C
  generalize dist a b = r at *
  go_enter Try.func12, Try.ntmps12
  go_wp2_with (go_at_call 22; refine (C.out _).mono ?_; rintro e w' ⟨rfl, rfl⟩)
  go_returns
  exact ⟨rfl, rfl⟩

set_option maxHeartbeats 400000 in
theorem before_any (a b : Int) (w : World) :
    Calls Try.prog 14 #[.int .i64 a, .int .i64 b] w fun e w' => e = .returned (.bool (bef a b)) ∧ w = w' := by
  have C := Lib.hid (fun w => distance_any a b w)
  have hb : bef a b = decide (1 ≤ dist a b ∧ dist a b ≤ 2047) := rfl
  rw [hb]
  clear hb
  generalize dist a b = d at *
  by_cases h1 : 0 < d
  · by_cases h2 : d < 2048
    · rw [decide_eq_true (show 1 ≤ d ∧ d ≤ 2047 by omega)]
      go_enter Try.func14, Try.ntmps14
      go_wp2_with (go_at_call 12; refine (C.out _).mono ?_; rintro e w' ⟨rfl, rfl⟩)
      go_returns
      exact ⟨by simp [*], rfl⟩
    · rw [decide_eq_false (show ¬ (1 ≤ d ∧ d ≤ 2047) by omega)]
      go_enter Try.func14, Try.ntmps14
      go_wp2_with (go_at_call 12; refine (C.out _).mono ?_; rintro e w' ⟨rfl, rfl⟩)
      go_returns
      exact ⟨by simp [*], rfl⟩
  · rw [decide_eq_false (show ¬ (1 ≤ d ∧ d ≤ 2047) by omega)]
    go_enter Try.func14, Try.ntmps14
    go_wp2_with (go_at_call 12; refine (C.out _).mono ?_; rintro e w' ⟨rfl, rfl⟩)
    go_returns
    exact ⟨by simp [*], rfl⟩

set_option maxHeartbeats 400000 in
theorem in_any (a s n : Int) (w : World) :
    Calls Try.prog 18 #[.int .i64 a, .int .i64 s, .int .i64 n] w fun e w' => e = .returned (.bool (inn a s n)) ∧ w = w' := by
  have CV := Lib.hid (fun w => valid_any n w)
  have CD := Lib.hid (fun w => distance_any a n w)
  have hb : inn a s n = (vl n && decide (dist a n < s)) := rfl
  rw [hb]
  clear hb
  generalize dist a n = d at *
  cases hv : vl n
  · rw [hv] at CV
    rw [Bool.false_and]
    go_enter Try.func18, Try.ntmps18
    go_wp2_with (first
      | (go_at_call 8; refine (CV.out _).mono ?_; rintro e w' ⟨rfl, rfl⟩)
      | (go_at_call 12; refine (CD.out _).mono ?_; rintro e w' ⟨rfl, rfl⟩))
    go_returns
    exact ⟨by simp [*], rfl⟩
  · rw [hv] at CV
    rw [Bool.true_and]
    by_cases h2 : d < s
    · rw [decide_eq_true h2]
      go_enter Try.func18, Try.ntmps18
      go_wp2_with (first
        | (go_at_call 8; refine (CV.out _).mono ?_; rintro e w' ⟨rfl, rfl⟩)
        | (go_at_call 12; refine (CD.out _).mono ?_; rintro e w' ⟨rfl, rfl⟩))
      go_returns
      exact ⟨by simp [*], rfl⟩
    · rw [decide_eq_false h2]
      go_enter Try.func18, Try.ntmps18
      go_wp2_with (first
        | (go_at_call 8; refine (CV.out _).mono ?_; rintro e w' ⟨rfl, rfl⟩)
        | (go_at_call 12; refine (CD.out _).mono ?_; rintro e w' ⟨rfl, rfl⟩))
      go_returns
      exact ⟨by simp [*], rfl⟩

theorem wink_pre {a : Int} {k m : Nat} (h : k < m) : wink a k ++ [add a k] <+: wink a m := by
  have e := wink_take a m (k + 1) h
  show wink a (k + 1) <+: wink a m
  rw [← e]; exact List.take_prefix _ _

set_option maxRecDepth 100000 in
set_option maxHeartbeats 1000000 in
/-- The iterator's own text: for every loop body that keeps what lay below n₀. -/
theorem win1_in (n : Nat) (hn : 1 ≤ n) (l Bs Ba n₀ : Nat) (hBa : Ba < n₀) (a s : Int) (J Jx : List Int → World → Prop)
    (hY : ∀ pre x W, J pre W → pre.length < (win a s).length → YieldAt Fence.wide (n - 1) Try.prog l #[.int .i64 x] W fun e W' =>
      (e = .returned (.bool true) ∧ J (pre ++ [x]) W' ∧ Below n₀ W W') ∨ (e = .returned (.bool false) ∧ Jx (pre ++ [x]) W'))
    (W : World) (hcs : W.cell? ⟨Bs, 0, none⟩ = some (.int .i64 s)) (hca : W.cell? ⟨Ba, 0, none⟩ = some (.int .i64 a)) (h0 : J [] W) :
    CallsIn Fence.wide n Try.prog 25 #[.func (.yield l) #[] #[], .pointer (some ⟨Bs, 0, none⟩), .pointer (some ⟨Ba, 0, none⟩)] W fun e W' => (∃ v, e = .returned v) ∧
      ((∃ ys, ys = win a s ∧ J ys W') ∨ (∃ pre, pre <+: win a s ∧ Jx pre W')) := by
  obtain ⟨m, hm⟩ : ∃ m, m = cnt s := ⟨_, rfl⟩
  obtain ⟨lim, hlim⟩ : ∃ lim, lim = min s 4096 := ⟨_, rfl⟩
  have hlm : ∀ k : Nat, (k : Int) < lim ↔ k < m := fun k => by rw [hlim, hm]; unfold cnt; omega
  have hwin : win a s = wink a m := by rw [hm]; rfl
  rw [hwin] at hY ⊢
  rw [wink_len] at hY
  have HB := Lib.hid (show m ≤ 4096 by rw [hm]; exact cnt_le s)
  clear hm hwin
  have HLM := Lib.hid hlm
  clear hlm
  refine callsIn_of_wp Try.func25 rfl trivial ?_ rfl
  simp only [Try.ntmps25, List.size_toArray, List.length_cons, List.length_nil, Nat.reduceAdd, Nat.reduceSub, Array.replicate_succ, Array.replicate_zero, List.push_toArray, List.append_toArray, List.nil_append, List.cons_append]
  gi_wp2
  rw [← hlim]
  clear hlim
  gi_loopw [7] (fun p wr => ∃ k : Nat, p = .int .i64 k ∧ k ≤ m ∧ wr.cell? ⟨Ba, 0, none⟩ = some (.int .i64 a) ∧ J (wink a k) wr)
    (fun p _ => m - (intOf p).toNat)
  case atStart =>
    exact ⟨0, rfl, Nat.zero_le _, hca, h0⟩
  case round =>
    rename_i wr
    obtain ⟨k, rfl, hk, hcr, hJ⟩ := hrel
    have hiff := HLM.out k
    by_cases hlt : k < m
    · have hl : (k : Int) < lim := hiff.2 hlt
      have HK := Lib.hid hlt
      have hk4 : k < 4096 := Nat.lt_of_lt_of_le hlt HB.out
      have CA := Lib.hid (fun w => callsIn_wide (n := n - 1) |>.2 (add_any a (k : Int) w))
      obtain ⟨fn, tmps, assign, body, hy, hR⟩ := hY (wink a k) (add a k) wr hJ (by rw [wink_len]; exact hlt)
      have HS : Hid (wink a k ++ [add a k] = wink a (k + 1)) := rfl
      clear hiff hJ
      gi_wp2_with (refine ⟨trivial, ?_⟩; gi_at_call 10; refine (CA.out _).mono ?_; rintro e w' ⟨rfl, rfl⟩)
      refine hR.mono ?_
      rintro e W3 (⟨rfl, hJ3, hk3⟩ | ⟨rfl, hJx3⟩)
      · have hc3 := (hk3.cell (p := ⟨Ba, 0, none⟩) hBa).trans hcr
        rw [HS.out] at hJ3
        have HJ := Lib.hid hJ3
        clear hJ3
        gi_wp2
        go_roundw
        case rel => exact ⟨k + 1, by go_num, HK.out, hc3, HJ.out⟩
        case measure => have := HK.out; simp [intOf]; omega
      · gi_wp2
        refine bodyPost_ret (results_none rfl _ _ _) rfl ?_
        exact ⟨⟨_, rfl⟩, .inr ⟨wink a k ++ [add a k], wink_pre HK.out, hJx3⟩⟩
    · have hl : ¬ (k : Int) < lim := fun h => hlt (hiff.1 h)
      obtain rfl : k = m := by omega
      clear hiff
      gi_wp2
      go_end0
      exact ⟨⟨_, rfl⟩, .inl hJ⟩
set_option maxHeartbeats 1000000 in
/-- Window boxes the start and the size; the function value captures the boxes. -/
theorem window_box (n : Nat) (a s : Int) (w : World) :
    CallsIn Fence.wide n Try.prog 24 #[.int .i64 a, .int .i64 s] w fun e w' => e = .returned (.func (.func 25) #[] #[.pointer (some ⟨w.heap.size + 1, 0, none⟩), .pointer (some ⟨w.heap.size, 0, none⟩)]) ∧ w' = (w.alloc (.cells #[.int .i64 a] 3)).alloc (.cells #[.int .i64 s] 3) := by
  refine callsIn_of_wp Try.func24 rfl trivial ?_ rfl
  simp only [Try.ntmps24, List.size_toArray, List.length_cons, List.length_nil, Nat.reduceAdd, Nat.reduceSub, Array.replicate_succ, Array.replicate_zero, List.push_toArray, List.append_toArray, List.nil_append, List.cons_append]
  gi_wp2
  go_ret
  exact ⟨rfl, rfl⟩

theorem window_in (n : Nat) (a s : Int) (w : World) :
    CallsIn Fence.wide n Try.prog 24 #[.int .i64 a, .int .i64 s] w fun e w' => ∃ lb, e = .returned (.func (.func 25) #[] lb) ∧ Below w.heap.size w w' ∧
      ∀ n' : Nat, 1 ≤ n' → SeqStopsK Fence.wide n' Try.prog 25 lb (fun x : Int => #[Value.int .i64 x]) (Below w'.heap.size) (fun ys => ys = win a s) (fun pre => pre <+: win a s) (win a s).length w' := by
  refine (window_box n a s w).mono ?_
  rintro e w' ⟨rfl, rfl⟩
  refine ⟨_, rfl, ((Below.refl _ w).alloc (Nat.le_refl _) _).alloc (by simp) _, fun n' hn' => ?_⟩
  intro l J Jx W hW _ _ hY h0
  refine win1_in n' hn' l (w.heap.size + 1) w.heap.size _ (by simp; omega) a s J Jx hY W ?_ ?_ h0
  · refine (hW.cell (p := ⟨w.heap.size + 1, 0, none⟩) (by simp)).trans ?_
    simp
  · refine (hW.cell (p := ⟨w.heap.size, 0, none⟩) (by simp; omega)).trans ?_
    exact ((Boxed.new w 3 (.int .i64 a)).alloc _).cell

theorem does : Does where
  valid_any := fun n w _ => valid_any n w
  add_any := fun n k w _ _ => add_any n k w
  distance_any := fun a b w _ _ => distance_any a b w
  before_any := fun a b w _ _ => before_any a b w
  in_any := fun a s n w _ _ _ => in_any a s n w
  window_in := fun n a s w _ _ _ => window_in n a s w
end Go.Proofs.Ytjpmjffamecddaa
