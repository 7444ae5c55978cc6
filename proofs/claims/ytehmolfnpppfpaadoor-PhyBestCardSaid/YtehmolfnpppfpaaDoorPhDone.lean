/-
  WHAT THE LANDED PACKAGE phy DOES (499093f): its three tables lie in their variables; the walks of its functions; what the rows' list of variables gives.
-/
import Derived.Test.YtehmolfnpppfpaaDoorPhLaws
import Derived.OpenShut
import Derived.ProofKit
import Derived.Lib.LaidTab
import Derived.Stop.LaidErr
import Derived.MakeChecks
namespace Go.Proofs.YtehmolfnpppfpaaDoor
open Go.ChangeShapes Go.WideShapes Go.RowKit Go.Ph

/-- The three tables lie in their variables. -/
structure PhTabs (w : World) : Prop where
  bits : ∀ i : Nat, i < 8 → w.cell? ⟨0, i, none⟩ = some (.int .i64 (bt i))
  need : ∀ i : Nat, i < 8 → w.cell? ⟨1, i, none⟩ = some (.int .i64 (nd i))
  base : ∀ i : Nat, i < 3 → w.cell? ⟨2, i, none⟩ = some (.int .i64 (2 * i))
  lb : 0 < w.heap.size
  ln : 1 < w.heap.size
  lr : 2 < w.heap.size
theorem PhTabs.below {w w' : World} (h : PhTabs w) (hb : Below w.heap.size w w') : PhTabs w' :=
  ⟨fun i hi => (hb.cell (p := ⟨0, i, none⟩) h.lb).trans (h.bits i hi), fun i hi => (hb.cell (p := ⟨1, i, none⟩) h.ln).trans (h.need i hi), fun i hi => (hb.cell (p := ⟨2, i, none⟩) h.lr).trans (h.base i hi), Nat.lt_of_lt_of_le h.lb hb.size, Nat.lt_of_lt_of_le h.ln hb.size, Nat.lt_of_lt_of_le h.lr hb.size⟩

theorem isRate_any (r : Int) (w : World) :
    Calls Tryd.prog 20 #[.int .i64 r] w fun e w' => e = .returned (.bool (decide (rt r))) ∧ w = w' := by
  by_cases h0 : 0 ≤ r
  · by_cases h8 : r < 8
    · rw [decide_eq_true (show rt r from ⟨h0, h8⟩)]
      go_enter Tryd.func20, Tryd.ntmps20
      go_wp2
      go_returns
      exact ⟨rfl, rfl⟩
    · rw [decide_eq_false (show ¬ rt r from fun h => h8 h.2)]
      go_enter Tryd.func20, Tryd.ntmps20
      go_wp2
      go_returns
      exact ⟨rfl, rfl⟩
  · rw [decide_eq_false (show ¬ rt r from fun h => h0 h.1)]
    go_enter Tryd.func20, Tryd.ntmps20
    go_wp2
    go_returns
    exact ⟨rfl, rfl⟩

theorem rt_nat {r : Int} (h : rt r) : ∃ k : Nat, r = k ∧ k < 8 := ⟨r.toNat, by have := h.1; omega, by have := h.1; have := h.2; omega⟩

theorem bits_at (r : Int) (w : World) (ht : PhTabs w) :
    Calls Tryd.prog 11 #[.int .i64 r] w fun e w' => e = .returned (.int .i64 (bt r)) ∧ w = w' := by
  have HR := Lib.hid (isRate_any r)
  by_cases h : rt r
  · rw [decide_eq_true h] at HR
    obtain ⟨k, rfl, hk⟩ := rt_nat h
    have hc := ht.bits k hk
    generalize bt (k : Int) = b at *
    clear h ht
    go_enter Tryd.func11, Tryd.ntmps11
    go_wp2_with (go_at_call 20; refine (HR.out _).mono ?_; rintro e w' ⟨rfl, rfl⟩)
    go_returns
    exact ⟨rfl, rfl⟩
  · rw [decide_eq_false h] at HR
    rw [(norate h).1]
    clear h ht
    go_enter Tryd.func11, Tryd.ntmps11
    go_wp2_with (go_at_call 20; refine (HR.out _).mono ?_; rintro e w' ⟨rfl, rfl⟩)
    go_returns
    exact ⟨rfl, rfl⟩

theorem need_at (r : Int) (w : World) (ht : PhTabs w) :
    Calls Tryd.prog 13 #[.int .i64 r] w fun e w' => e = .returned (.int .i64 (nd r)) ∧ w = w' := by
  have HR := Lib.hid (isRate_any r)
  by_cases h : rt r
  · rw [decide_eq_true h] at HR
    obtain ⟨k, rfl, hk⟩ := rt_nat h
    have hc := ht.need k hk
    generalize nd (k : Int) = b at *
    clear h ht
    go_enter Tryd.func13, Tryd.ntmps13
    go_wp2_with (go_at_call 20; refine (HR.out _).mono ?_; rintro e w' ⟨rfl, rfl⟩)
    go_returns
    exact ⟨rfl, rfl⟩
  · rw [decide_eq_false h] at HR
    rw [(norate h).2.1]
    clear h ht
    go_enter Tryd.func13, Tryd.ntmps13
    go_wp2_with (go_at_call 20; refine (HR.out _).mono ?_; rintro e w' ⟨rfl, rfl⟩)
    go_returns
    exact ⟨rfl, rfl⟩

set_option maxRecDepth 100000 in
theorem slots_at (r n : Int) (w : World) (ht : PhTabs w) :
    Calls Tryd.prog 10 #[.int .i64 r, .int .i64 n] w fun e w' => e = .returned (.tuple #[.int .i64 (slo r n), .int .i64 (sle r n)]) ∧ w = w' := by
  have HR := Lib.hid (isRate_any r)
  by_cases h : rt r
  case neg =>
    rw [decide_eq_false h] at HR
    rw [(slo_no (n := n) fun hh => h hh.1).1, (slo_no (n := n) fun hh => h hh.1).2]
    clear h ht
    go_enter Tryd.func10, Tryd.ntmps10
    go_wp2_with (go_at_call 20; refine (HR.out _).mono ?_; rintro e w' ⟨rfl, rfl⟩)
    go_returns
    exact ⟨rfl, rfl⟩
  rw [decide_eq_true h] at HR
  by_cases hn0 : 0 ≤ n
  case neg =>
    rw [(slo_no (r := r) (n := n) fun hh => hn0 hh.2.1).1, (slo_no (r := r) (n := n) fun hh => hn0 hh.2.1).2]
    clear h ht
    go_enter Tryd.func10, Tryd.ntmps10
    go_wp2_with (go_at_call 20; refine (HR.out _).mono ?_; rintro e w' ⟨rfl, rfl⟩)
    go_returns
    exact ⟨rfl, rfl⟩
  by_cases hn8 : n ≤ 8192
  case neg =>
    rw [(slo_no (r := r) (n := n) fun hh => hn8 hh.2.2).1, (slo_no (r := r) (n := n) fun hh => hn8 hh.2.2).2]
    clear h ht
    go_enter Tryd.func10, Tryd.ntmps10
    go_wp2_with (go_at_call 20; refine (HR.out _).mono ?_; rintro e w' ⟨rfl, rfl⟩)
    go_returns
    exact ⟨rfl, rfl⟩
  have hoct : oct n := ⟨hn0, hn8⟩
  have hbp := bt_pos h
  have hdb := dur_bounds h hoct
  have hd : dur (bt r) n = 2 + (8 * n + bt r - 1) / bt r := rfl
  rw [(slo_ok h hoct).1, (slo_ok h hoct).2]
  obtain ⟨k, rfl, hk⟩ := rt_nat h
  have hc := ht.bits k hk
  generalize dur (bt (k : Int)) n = d at *
  generalize bt (k : Int) = b at *
  have hq : ∃ q, (8 * n + b - 1) / b = q := ⟨_, rfl⟩
  obtain ⟨q, hq⟩ := hq
  rw [hq] at hd
  clear h hoct ht
  subst hd
  go_enter Tryd.func10, Tryd.ntmps10
  go_wp2_with (go_at_call 20; refine (HR.out _).mono ?_; rintro e w' ⟨rfl, rfl⟩)
  go_returns
  exact ⟨rfl, rfl⟩

/-- fit in the words of the landed code: two minima. -/
theorem fit_min {r s m q : Int} (h : rt r) (hs : 2 ≤ s) (hm : m = if 8192 < s - 2 then 8192 else s - 2) (hq : m * bt r / 8 = q) : fit r s = if 8192 < q then 8192 else q := by
  have e : fit r s = if s - 2 < 65536 then (if (s - 2) * bt r / 8 < 8192 then (s - 2) * bt r / 8 else 8192) else 8192 := by unfold fit; rw [if_pos ⟨h, hs⟩]
  rw [e]
  clear e
  subst hq hm
  rcases rates h with ⟨-, h, -⟩ | ⟨-, h, -⟩ | ⟨-, h, -⟩ | ⟨-, h, -⟩ | ⟨-, h, -⟩ | ⟨-, h, -⟩ | ⟨-, h, -⟩ | ⟨-, h, -⟩ <;> rw [h] <;> (repeat' split) <;> omega

set_option maxRecDepth 100000 in
theorem fits_at (r s : Int) (w : World) (ht : PhTabs w) (hs : (Lit.int .i64 s).wf = true) :
    Calls Tryd.prog 8 #[.int .i64 r, .int .i64 s] w fun e w' => e = .returned (.int .i64 (fit r s)) ∧ w = w' := by
  have HR := Lib.hid (isRate_any r)
  by_cases h : rt r
  case neg =>
    rw [decide_eq_false h] at HR
    rw [fit_no (s := s) fun hh => h hh.1]
    clear h ht
    go_enter Tryd.func8, Tryd.ntmps8
    go_wp2_with (go_at_call 20; refine (HR.out _).mono ?_; rintro e w' ⟨rfl, rfl⟩)
    go_returns
    exact ⟨rfl, rfl⟩
  rw [decide_eq_true h] at HR
  by_cases h2 : 2 ≤ s
  case neg =>
    rw [fit_no (r := r) fun hh => h2 hh.2]
    clear h ht
    go_enter Tryd.func8, Tryd.ntmps8
    go_wp2_with (go_at_call 20; refine (HR.out _).mono ?_; rintro e w' ⟨rfl, rfl⟩)
    go_returns
    exact ⟨rfl, rfl⟩
  have hsb : s < 9223372036854775808 := by
    simp [Lit.wf, IntKind.min, IntKind.max, IntKind.signed, IntKind.bits] at hs
    omega
  have hbp := bt_pos h
  obtain ⟨m, hm⟩ : ∃ m : Int, m = if 8192 < s - 2 then 8192 else s - 2 := ⟨_, rfl⟩
  have hmb : 0 ≤ m ∧ m ≤ 8192 := by subst hm; split <;> omega
  obtain ⟨q, hq⟩ : ∃ q, m * bt r / 8 = q := ⟨_, rfl⟩
  have HF := fit_min h h2 hm hq
  rw [HF]
  clear HF hs
  have hp : 0 ≤ m * bt r ∧ m * bt r ≤ 8192 * 216 := ⟨Int.mul_nonneg hmb.1 (by omega), Int.mul_le_mul hmb.2 hbp.2 (by omega) (by omega)⟩
  obtain ⟨k, rfl, hk⟩ := rt_nat h
  have hc := ht.bits k hk
  generalize bt (k : Int) = b at *
  clear h ht
  by_cases h8 : 8192 < s - 2
  · rw [if_pos h8] at hm
    subst hm
    by_cases hq8 : 8192 < q
    · rw [if_pos hq8]
      go_enter Tryd.func8, Tryd.ntmps8
      go_wp2_with (go_at_call 20; refine (HR.out _).mono ?_; rintro e w' ⟨rfl, rfl⟩)
      go_returns
      exact ⟨rfl, rfl⟩
    · exfalso
      omega
  · rw [if_neg h8] at hm
    subst hm
    by_cases hq8 : 8192 < q
    · rw [if_pos hq8]
      go_enter Tryd.func8, Tryd.ntmps8
      go_wp2_with (go_at_call 20; refine (HR.out _).mono ?_; rintro e w' ⟨rfl, rfl⟩)
      go_returns
      exact ⟨rfl, rfl⟩
    · rw [if_neg hq8]
      go_enter Tryd.func8, Tryd.ntmps8
      go_wp2_with (go_at_call 20; refine (HR.out _).mono ?_; rintro e w' ⟨rfl, rfl⟩)
      go_returns
      exact ⟨rfl, rfl⟩

/-- The basic rate among the first k. -/
def basTo (r : Int) : Nat → Int
  | 0 => -1
  | k + 1 => if 2 * (k : Int) ≤ r then 2 * (k : Int) else basTo r k
theorem bas_to {r : Int} (h : rt r) : basTo r 3 = bas r := by
  have e : basTo r 3 = if (4 : Int) ≤ r then 4 else if (2 : Int) ≤ r then 2 else if (0 : Int) ≤ r then 0 else -1 := rfl
  rw [e]
  rcases rates h with ⟨rfl, -, -, h⟩ | ⟨rfl, -, -, h⟩ | ⟨rfl, -, -, h⟩ | ⟨rfl, -, -, h⟩ | ⟨rfl, -, -, h⟩ | ⟨rfl, -, -, h⟩ | ⟨rfl, -, -, h⟩ | ⟨rfl, -, -, h⟩ <;> rw [h] <;> rfl

theorem ix_base (k : Nat) (hk : k < 3) (w : World) : (Instr.index 33 (.agg #[.int .i64 0, .int .i64 2, .int .i64 4]) (.int .i64 (k : Int))).run Tryd.prog w = .ok (.int .i64 (2 * (k : Int))) w := by
  have c : k = 0 ∨ k = 1 ∨ k = 2 := by omega
  rcases c with rfl | rfl | rfl <;> (show _ = _; kernel_rfl)
theorem ix_need (k : Nat) (hk : k < 8) (w : World) : (Instr.index 31 (.agg #[.int .i64 5, .int .i64 6, .int .i64 7, .int .i64 9, .int .i64 12, .int .i64 16, .int .i64 20, .int .i64 21]) (.int .i64 (k : Int))).run Tryd.prog w = .ok (.int .i64 (nd (k : Int))) w := by
  have c : k = 0 ∨ k = 1 ∨ k = 2 ∨ k = 3 ∨ k = 4 ∨ k = 5 ∨ k = 6 ∨ k = 7 := by omega
  rcases c with rfl | rfl | rfl | rfl | rfl | rfl | rfl | rfl <;> (show _ = _; kernel_rfl)

set_option maxRecDepth 100000 in
theorem basic_at (r : Int) (w : World) (ht : PhTabs w) :
    Calls Tryd.prog 15 #[.int .i64 r] w fun e w' => e = .returned (.int .i64 (bas r)) ∧ w = w' := by
  have HR := Lib.hid (isRate_any r)
  by_cases h : rt r
  case neg =>
    rw [decide_eq_false h] at HR
    rw [(norate h).2.2]
    clear h ht
    go_enter Tryd.func15, Tryd.ntmps15
    go_wp2_with (go_at_call 20; refine (HR.out _).mono ?_; rintro e w' ⟨rfl, rfl⟩)
    go_returns
    exact ⟨rfl, rfl⟩
  rw [decide_eq_true h] at HR
  rw [← bas_to h]
  have c0 : w.cell? ⟨2, 0, none⟩ = some (.int .i64 0) := ht.base 0 (by decide)
  have c1 : w.cell? ⟨2, 1, none⟩ = some (.int .i64 2) := ht.base 1 (by decide)
  have c2 : w.cell? ⟨2, 2, none⟩ = some (.int .i64 4) := ht.base 2 (by decide)
  clear h ht
  go_enter Tryd.func15, Tryd.ntmps15
  go_wp2_with (go_at_call 20; refine (HR.out _).mono ?_; rintro e w' ⟨rfl, rfl⟩)
  go_loop [3, 11] (fun b i => ∃ k : Nat, k ≤ 3 ∧ i = .int .i64 k ∧ b = .int .i64 (basTo r k)) (fun _ i => 3 - (intOf i).toNat)
  case atStart => exact ⟨0, by decide, rfl, rfl⟩
  case round =>
    obtain ⟨k, hk, rfl, rfl⟩ := hrel
    have HS : Hid (basTo r (k + 1) = if 2 * (k : Int) ≤ r then 2 * (k : Int) else basTo r k) := rfl
    clear c0 c1 c2
    by_cases hlt : k < 3
    · have hix := ix_base k hlt
      by_cases hn : 2 * (k : Int) ≤ r
      · have HS' : Hid (basTo r (k + 1) = 2 * (k : Int)) := HS.out.trans (if_pos hn)
        clear HS
        go_wp2
        go_round
        case rel => exact ⟨k + 1, by omega, by go_num, by rw [HS'.out]⟩
        case measure => simp [intOf]; omega
      · have HS' : Hid (basTo r (k + 1) = basTo r k) := HS.out.trans (if_neg hn)
        clear HS
        go_wp2
        go_round
        case rel => exact ⟨k + 1, by omega, by go_num, by rw [HS'.out]⟩
        case measure => simp [intOf]; omega
    · obtain rfl : k = 3 := by omega
      clear HS
      go_wp2
      go_returns
      exact ⟨rfl, rfl⟩

set_option maxRecDepth 100000 in
theorem best_at (l : Int) (w : World) (ht : PhTabs w) :
    Calls Tryd.prog 17 #[.int .i64 l] w fun e w' => e = .returned (.int .i64 (bst l)) ∧ w = w' := by
  rw [← bst_to]
  have c0 : w.cell? ⟨1, 0, none⟩ = some (.int .i64 5) := ht.need 0 (by decide)
  have c1 : w.cell? ⟨1, 1, none⟩ = some (.int .i64 6) := ht.need 1 (by decide)
  have c2 : w.cell? ⟨1, 2, none⟩ = some (.int .i64 7) := ht.need 2 (by decide)
  have c3 : w.cell? ⟨1, 3, none⟩ = some (.int .i64 9) := ht.need 3 (by decide)
  have c4 : w.cell? ⟨1, 4, none⟩ = some (.int .i64 12) := ht.need 4 (by decide)
  have c5 : w.cell? ⟨1, 5, none⟩ = some (.int .i64 16) := ht.need 5 (by decide)
  have c6 : w.cell? ⟨1, 6, none⟩ = some (.int .i64 20) := ht.need 6 (by decide)
  have c7 : w.cell? ⟨1, 7, none⟩ = some (.int .i64 21) := ht.need 7 (by decide)
  clear ht
  go_enter Tryd.func17, Tryd.ntmps17
  go_wp2
  go_loop [3, 7] (fun b i => ∃ k : Nat, k ≤ 8 ∧ i = .int .i64 k ∧ b = .int .i64 (bstTo l k)) (fun _ i => 8 - (intOf i).toNat)
  case atStart => exact ⟨0, by decide, rfl, rfl⟩
  case round =>
    obtain ⟨k, hk, rfl, rfl⟩ := hrel
    have HS : Hid (bstTo l (k + 1) = if nd (k : Int) ≤ l then (k : Int) else bstTo l k) := rfl
    clear c0 c1 c2 c3 c4 c5 c6 c7
    by_cases hlt : k < 8
    · have hix := ix_need k hlt
      by_cases hn : nd (k : Int) ≤ l
      · have HS' : Hid (bstTo l (k + 1) = k) := HS.out.trans (if_pos hn)
        clear HS
        generalize nd (k : Int) = z at *
        go_wp2
        go_round
        case rel => exact ⟨k + 1, by omega, by go_num, by rw [HS'.out]⟩
        case measure => simp [intOf]; omega
      · have HS' : Hid (bstTo l (k + 1) = bstTo l k) := HS.out.trans (if_neg hn)
        clear HS
        generalize nd (k : Int) = z at *
        go_wp2
        go_round
        case rel => exact ⟨k + 1, by omega, by go_num, by rw [HS'.out]⟩
        case measure => simp [intOf]; omega
    · obtain rfl : k = 8 := by omega
      clear HS
      go_wp2
      go_returns
      exact ⟨rfl, rfl⟩

theorem below_of {p : Prop} {w w' : World} (h : p ∧ w = w') : p ∧ Below w.heap.size w w' := ⟨h.1, h.2 ▸ Below.refl _ _⟩

theorem does : Does PhTabs where
  keep := fun _ _ h hb => h.below hb
  bits_any := fun r w h _ => (bits_at r w h).mono fun _ _ => below_of
  need_any := fun r w h _ => (need_at r w h).mono fun _ _ => below_of
  slots_any := fun r n w h _ _ => (slots_at r n w h).mono fun _ _ => below_of
  fits_any := fun r s w h _ hs => (fits_at r s w h hs).mono fun _ _ => below_of
  basic_any := fun r w h _ => (basic_at r w h).mono fun _ _ => below_of
  best_any := fun l w h _ => (best_at l w h).mono fun _ _ => below_of

abbrev LaidFacts (W : World) : Prop := PhTabs W

theorem gBits : Tryd.prog.globalNamed "airtime/phy.dataBits" = some 0 := by kernel_rfl
theorem gBitsType : (Tryd.prog.globals[0]?).map (·.type) = some 31 := by kernel_rfl
theorem gNeed : Tryd.prog.globalNamed "airtime/phy.needed" = some 1 := by kernel_rfl
theorem gNeedType : (Tryd.prog.globals[1]?).map (·.type) = some 31 := by kernel_rfl
theorem gBase : Tryd.prog.globalNamed "airtime/phy.basicRates" = some 2 := by kernel_rfl
theorem gBaseType : (Tryd.prog.globals[2]?).map (·.type) = some 33 := by kernel_rfl

theorem bits_zs : ∀ i : Fin 8, ([24, 36, 48, 72, 96, 144, 192, 216] : List Int).getD i.val 0 = bt ((i.val : Nat) : Int) := by decide +kernel
theorem need_zs : ∀ i : Fin 8, ([5, 6, 7, 9, 12, 16, 20, 21] : List Int).getD i.val 0 = nd ((i.val : Nat) : Int) := by decide +kernel
theorem base_zs : ∀ i : Fin 3, ([0, 2, 4] : List Int).getD i.val 0 = 2 * ((i.val : Nat) : Int) := by decide +kernel

theorem laidFacts {W : World} (h : laidMetH Tryd.prog Rows.phyFitsRow.laid W) : LaidFacts W := by
  rw [MakeChecks.laidMetH_plain _ _ _ (by kernel_rfl)] at h
  have h1 := laidMet.tail h
  have h2 := laidMet.tail h1
  have t := Lib.tabIs_of_head (k := .i64) (zs := [24, 36, 48, 72, 96, 144, 192, 216]) gBits gBitsType Tryd.underlying31 Tryd.underlying3 (by kernel_rfl) (by kernel_rfl) h
  have t1 := Lib.tabIs_of_head (k := .i64) (zs := [5, 6, 7, 9, 12, 16, 20, 21]) gNeed gNeedType Tryd.underlying31 Tryd.underlying3 (by kernel_rfl) (by kernel_rfl) h1
  have t2 := Lib.tabIs_of_head (k := .i64) (zs := [0, 2, 4]) gBase gBaseType Tryd.underlying33 Tryd.underlying3 (by kernel_rfl) (by kernel_rfl) h2
  have c : ∀ i : Nat, i < 8 → W.cell? ⟨0, i, none⟩ = some (.int .i64 (bt i)) := fun i hi => (t.cell gBits i hi).trans (congrArg (fun z => some (Value.int .i64 z)) (bits_zs ⟨i, hi⟩))
  have c1 : ∀ i : Nat, i < 8 → W.cell? ⟨1, i, none⟩ = some (.int .i64 (nd i)) := fun i hi => (t1.cell gNeed i hi).trans (congrArg (fun z => some (Value.int .i64 z)) (need_zs ⟨i, hi⟩))
  have c2 : ∀ i : Nat, i < 3 → W.cell? ⟨2, i, none⟩ = some (.int .i64 (2 * i)) := fun i hi => (t2.cell gBase i hi).trans (congrArg (fun z => some (Value.int .i64 z)) (base_zs ⟨i, hi⟩))
  exact ⟨c, c1, c2, World.block_lt_of_cell? _ _ (c 0 (by decide)), World.block_lt_of_cell? _ _ (c1 0 (by decide)), World.block_lt_of_cell? _ _ (c2 0 (by decide))⟩
end Go.Proofs.YtehmolfnpppfpaaDoor
