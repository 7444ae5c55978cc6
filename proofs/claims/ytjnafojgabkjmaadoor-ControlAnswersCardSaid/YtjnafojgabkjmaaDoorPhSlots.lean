/-
  THE WALK of package phy's Slots over its table of data bits (for stages that reach it).
-/
import Derived.Test.YtjnafojgabkjmaaDoorRows
import Derived.Test.YtjnafojgabkjmaaDoorPhMath
import Derived.OpenShut
import Derived.WalkKit
import Derived.Deep.Slices
import Derived.IntWalk
import Derived.WalkSpells
import Derived.WalkLawsBesides
import Derived.Deep.QuietTactic
import Derived.BigQuiet
import Derived.Handy
import Derived.ProofKit
import Derived.Lib.Hide
import Derived.Lib.LaidTab
import Derived.Stop.LaidErr
import Derived.MakeChecks
namespace Go.Proofs.YtjnafojgabkjmaaDoor
open Go.ChangeShapes Go.WideShapes Go.RowKit Go.Ph

/-- The table of data bits lies in its variable. -/
structure PhBits (w : World) : Prop where
  bits : ∀ i : Nat, i < 8 → w.cell? ⟨1, i, none⟩ = some (.int .i64 (bt i))
  lb : 1 < w.heap.size
theorem PhBits.below {w w' : World} {B : Nat} (h : PhBits w) (hb : Below B w w') (hB : w.heap.size ≤ B) : PhBits w' :=
  ⟨fun i hi => (hb.cell (p := ⟨1, i, none⟩) (Nat.lt_of_lt_of_le h.lb hB)).trans (h.bits i hi), Nat.lt_of_lt_of_le h.lb hb.size⟩
theorem isRate_any (r : Int) (w : World) :
    Calls Tryd.prog 74 #[.int .i64 r] w fun e w' => e = .returned (.bool (decide (rt r))) ∧ w = w' := by
  by_cases h0 : 0 ≤ r
  · by_cases h8 : r < 8
    · rw [decide_eq_true (show rt r from ⟨h0, h8⟩)]
      go_enter Tryd.func74, Tryd.ntmps74
      go_wp2
      go_returns
      exact ⟨rfl, rfl⟩
    · rw [decide_eq_false (show ¬ rt r from fun h => h8 h.2)]
      go_enter Tryd.func74, Tryd.ntmps74
      go_wp2
      go_returns
      exact ⟨rfl, rfl⟩
  · rw [decide_eq_false (show ¬ rt r from fun h => h0 h.1)]
    go_enter Tryd.func74, Tryd.ntmps74
    go_wp2
    go_returns
    exact ⟨rfl, rfl⟩

theorem rt_nat {r : Int} (h : rt r) : ∃ k : Nat, r = k ∧ k < 8 := ⟨r.toNat, by have := h.1; omega, by have := h.1; have := h.2; omega⟩

set_option maxRecDepth 100000 in
theorem slots_any (r n : Int) (w : World) (ht : PhBits w) :
    Calls Tryd.prog 56 #[.int .i64 r, .int .i64 n] w fun e w' => e = .returned (.tuple #[.int .i64 (slo r n), .int .i64 (sle r n)]) ∧ w = w' := by
  have HR := Lib.hid (isRate_any r)
  by_cases h : rt r
  case neg =>
    rw [decide_eq_false h] at HR
    rw [(slo_no (n := n) fun hh => h hh.1).1, (slo_no (n := n) fun hh => h hh.1).2]
    clear h ht
    go_enter Tryd.func56, Tryd.ntmps56
    go_wp2_with (go_at_call 74; refine (HR.out _).mono ?_; rintro e w' ⟨rfl, rfl⟩)
    go_returns
    exact ⟨rfl, rfl⟩
  rw [decide_eq_true h] at HR
  by_cases hn0 : 0 ≤ n
  case neg =>
    rw [(slo_no (r := r) (n := n) fun hh => hn0 hh.2.1).1, (slo_no (r := r) (n := n) fun hh => hn0 hh.2.1).2]
    clear h ht
    go_enter Tryd.func56, Tryd.ntmps56
    go_wp2_with (go_at_call 74; refine (HR.out _).mono ?_; rintro e w' ⟨rfl, rfl⟩)
    go_returns
    exact ⟨rfl, rfl⟩
  by_cases hn8 : n ≤ 8192
  case neg =>
    rw [(slo_no (r := r) (n := n) fun hh => hn8 hh.2.2).1, (slo_no (r := r) (n := n) fun hh => hn8 hh.2.2).2]
    clear h ht
    go_enter Tryd.func56, Tryd.ntmps56
    go_wp2_with (go_at_call 74; refine (HR.out _).mono ?_; rintro e w' ⟨rfl, rfl⟩)
    go_returns
    exact ⟨rfl, rfl⟩
  have hoct : oct n := ⟨hn0, hn8⟩
  have hbp := bt_pos h
  have hdb := dur_bounds h hoct
  have hd : dur (bt r) n = 2 + (8 * n + bt r - 1) / bt r := rfl
  rw [(slo_ok h hoct).1, (slo_ok h hoct).2]
  obtain ⟨k, rfl, hk⟩ := rt_nat h
  have hc := ht.bits k hk
  generalize dur (bt (k : Int)) n = d at *
  generalize bt (k : Int) = b at *
  have hq : ∃ q, (8 * n + b - 1) / b = q := ⟨_, rfl⟩
  obtain ⟨q, hq⟩ := hq
  rw [hq] at hd
  clear h hoct ht
  subst hd
  go_enter Tryd.func56, Tryd.ntmps56
  go_wp2_with (go_at_call 74; refine (HR.out _).mono ?_; rintro e w' ⟨rfl, rfl⟩)
  go_returns
  exact ⟨rfl, rfl⟩

theorem gBits : Tryd.prog.globalNamed "airtime/phy.dataBits" = some 1 := by kernel_rfl
theorem gBitsType : (Tryd.prog.globals[1]?).map (·.type) = some 96 := by kernel_rfl
theorem bits_zs : ∀ i : Fin 8, ([24, 36, 48, 72, 96, 144, 192, 216] : List Int).getD i.val 0 = bt ((i.val : Nat) : Int) := by decide +kernel
theorem bits_of_laid {W : World} {r : _} (h : laidMet Tryd.prog (("airtime/phy.dataBits", Rows.laid_airtime_phy_dataBits) :: r) W) : PhBits W := by
  have t := Lib.tabIs_of_head (k := .i64) (zs := [24, 36, 48, 72, 96, 144, 192, 216]) gBits gBitsType Tryd.underlying96 Tryd.underlying3 (by kernel_rfl) (by kernel_rfl) h
  have c : ∀ i : Nat, i < 8 → W.cell? ⟨1, i, none⟩ = some (.int .i64 (bt i)) := fun i hi => (t.cell gBits i hi).trans (congrArg (fun z => some (Value.int .i64 z)) (bits_zs ⟨i, hi⟩))
  exact ⟨c, World.block_lt_of_cell? _ _ (c 0 (by decide))⟩
end Go.Proofs.YtjnafojgabkjmaaDoor
