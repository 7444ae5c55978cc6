/-
  WALKS of layer 10: the reference's Valid, Group, in, ranges.
  WALKS of layer 10: the reference's set.
  THE WALK of layer 10: the reference's Length.
-/
import Derived.Test.YtkhnhlahfedkhaaDoorHdKinds
import Derived.Test.YtkhnhlahfedkhaaDoorFrW
namespace Go.Proofs.YtkhnhlahfedkhaaDoor
open Go.RowKit Go.Hd

theorem refIn_any (n lo hi : Int) (w : World) :
    Calls Tryd.prog 89 #[.int .i64 n, .int .i64 lo, .int .i64 hi] w fun e w' => e = .returned (.bool (decide (rng n lo hi))) ∧ w = w' := by
  by_cases h0 : lo ≤ n
  · by_cases h1 : n ≤ hi
    · rw [decide_eq_true (show rng n lo hi from ⟨h0, h1⟩)]
      go_enter Tryd.func89, Tryd.ntmps89
      go_wp2
      go_returns
      exact ⟨rfl, rfl⟩
    · rw [decide_eq_false (show ¬ rng n lo hi from fun h => h1 h.2)]
      have h1' : decide (n ≤ hi) = false := decide_eq_false h1
      go_enter Tryd.func89, Tryd.ntmps89
      go_wp2
      go_returns
      exact ⟨rfl, rfl⟩
  · rw [decide_eq_false (show ¬ rng n lo hi from fun h => h0 h.1)]
    go_enter Tryd.func89, Tryd.ntmps89
    go_wp2
    go_returns
    exact ⟨rfl, rfl⟩

theorem refValid_any (a : Int) (w : World) :
    Calls Tryd.prog 90 #[.int .u64 a] w fun e w' => e = .returned (.bool (decide (vad a))) ∧ w = w' := by
  by_cases h0 : 0 < a
  · by_cases h1 : a < 281474976710656
    · rw [decide_eq_true (show vad a from ⟨h0, h1⟩)]
      go_enter Tryd.func90, Tryd.ntmps90
      go_wp2
      go_returns
      exact ⟨rfl, rfl⟩
    · rw [decide_eq_false (show ¬ vad a from fun h => h1 h.2)]
      have h1' : decide (a < 281474976710656) = false := decide_eq_false h1
      go_enter Tryd.func90, Tryd.ntmps90
      go_wp2
      go_returns
      exact ⟨rfl, rfl⟩
  · rw [decide_eq_false (show ¬ vad a from fun h => h0 h.1)]
    go_enter Tryd.func90, Tryd.ntmps90
    go_wp2
    go_returns
    exact ⟨rfl, rfl⟩

theorem refGroup_any (a : Int) (w : World) :
    Calls Tryd.prog 61 #[.int .u64 a] w fun e w' => e = .returned (.bool (decide (grp a))) ∧ w = w' := by
  have HV := Lib.hid (refValid_any a)
  by_cases hv : vad a
  · rw [decide_eq_true hv] at HV
    have hd : decide (grp a) = (a / 1099511627776 % 2 == 1) := by
      by_cases h : a / 1099511627776 % 2 = 1
      · rw [decide_eq_true (show grp a from ⟨hv, h⟩)]; simp [h]
      · rw [decide_eq_false (show ¬ grp a from fun hh => h hh.2)]; simp [h]
    rw [hd]
    have t1 : a.tdiv 1099511627776 = a / 1099511627776 := Int.tdiv_eq_ediv_of_nonneg (by have := hv.1; omega)
    have t2 : (a / 1099511627776).tmod 2 = a / 1099511627776 % 2 := Int.tmod_eq_emod_of_nonneg (by have := hv.1; omega)
    have q1 : IntKind.u64.wrap (a / 1099511627776) = a / 1099511627776 := (IntKind.wrap_u64 _).trans (by have := hv.1; have := hv.2; omega)
    have q2 : IntKind.u64.wrap (a / 1099511627776 % 2) = a / 1099511627776 % 2 := (IntKind.wrap_u64 _).trans (by omega)
    clear hd hv
    go_enter Tryd.func61, Tryd.ntmps61
    go_wp2_with (go_at_call 90; refine (HV.out _).mono ?_; rintro e w' ⟨rfl, rfl⟩)
    go_returns
    exact ⟨rfl, rfl⟩
  · rw [decide_eq_false hv] at HV
    rw [decide_eq_false (show ¬ grp a from fun h => hv h.1)]
    clear hv
    go_enter Tryd.func61, Tryd.ntmps61
    go_wp2_with (go_at_call 90; refine (HV.out _).mono ?_; rintro e w' ⟨rfl, rfl⟩)
    go_returns
    exact ⟨rfl, rfl⟩

set_option maxRecDepth 100000 in
set_option maxHeartbeats 8000000 in
theorem refRanges_any (f : Fr) (w : World) :
    Calls Tryd.prog 58 #[Fr_.v f] w fun e w' => e = .returned (.bool (decide (rngs f))) ∧ Below w.heap.size w w' := by
  have CI := Lib.hid refIn_any
  have CV := Lib.hid refValid_any
  have CG := Lib.hid refGroup_any
  have CF := Lib.hid refFrom_any
  have CN := Lib.hid refNumbered_any
  have CP := Lib.hid refPolicy_any
  unfold Fr_.v
  go_enter Tryd.func58, Tryd.ntmps58
  go_wp2_with (first
    | (go_at_call 89; refine (CI.out _ _ _ _).mono ?_; rintro e w' ⟨rfl, rfl⟩)
    | (go_at_call 90; refine (CV.out _ _).mono ?_; rintro e w' ⟨rfl, rfl⟩)
    | (go_at_call 61; refine (CG.out _ _).mono ?_; rintro e w' ⟨rfl, rfl⟩)
    | (go_at_call 68; refine (CF.out _ _).mono ?_; rintro e w' ⟨rfl, rfl⟩)
    | (go_at_call 69; refine (CN.out _ _).mono ?_; rintro e w' ⟨rfl, rfl⟩)
    | (go_at_call 62; refine (CP.out _ _).mono ?_; rintro e w' ⟨rfl, rfl⟩))
  all_goals
    go_returns
    clear CI CV CG CF CN CP
    refine ⟨congrArg (fun b : Bool => Ending.returned (Value.bool b)) ?_, (Below.refl _ _).alloc (Nat.le_refl _) _⟩
    try simp only [Bool.not_eq_true', decide_eq_false_iff_not, Bool.not_eq_false', decide_eq_true_eq] at *
    first | (simp [rngs, *]; done) | (exfalso; simp_all [fro]; done)
end Go.Proofs.YtkhnhlahfedkhaaDoor

namespace Go.Proofs.YtkhnhlahfedkhaaDoor
open Go.RowKit Go.Hd

set_option maxRecDepth 100000 in
set_option maxHeartbeats 8000000 in
theorem refSet_any (f : Fr) (w : World) :
    Calls Tryd.prog 66 #[Fr_.v f] w fun e w' => e = .returned (.int .i64 (setv f)) ∧ Below w.heap.size w w' := by
  have HS : Hid (setv f = (if f.rt then 1 else 0) + (if f.mo then 2 else 0) + (if f.pw then 4 else 0) + (if f.st then 8 else 0) + (if f.la then 16 else 0) + (if f.jo then 32 else 0)) := rfl
  unfold Fr_.v
  generalize f.rt = b0 at *
  generalize f.mo = b1 at *
  generalize f.pw = b2 at *
  generalize f.st = b3 at *
  generalize f.la = b4 at *
  generalize f.jo = b5 at *
  go_enter Tryd.func66, Tryd.ntmps66
  go_wp2
  all_goals
    go_returns
    refine ⟨?_, (Below.refl _ _).alloc (Nat.le_refl _) _⟩
    rw [HS.out]
    simp [*]

theorem empty_iff (s : ByteArray) : s.toList.isEmpty = decide (s.size = 0) := by
  rw [ByteArray.toList_eq]
  obtain ⟨⟨l⟩⟩ := s
  cases l <;> simp [ByteArray.size]
end Go.Proofs.YtkhnhlahfedkhaaDoor

namespace Go.Proofs.YtkhnhlahfedkhaaDoor
open Go.RowKit Go.Hd

set_option maxRecDepth 100000 in
set_option maxHeartbeats 4000000 in
theorem refLength_any (f : Fr) (w : World) :
    Calls Tryd.prog 26 #[Fr_.v f] w fun e w' => e = .returned (.int .i64 (len f)) ∧ Below w.heap.size w w' := by
  have CI := Lib.hid (refIs_any f.kd)
  have CF := Lib.hid (refFrom_any f.kd)
  have CN := Lib.hid (refNumbered_any f.kd)
  have CP := Lib.hid (refPolicy_any f.kd)
  have HL : Hid (len f = if ¬ isK f.kd then 0 else 10 + (if fro f.kd then 6 else 0) + (if nb f.kd then 8 else 0) + (if pl f.kd then 1 else 0) + (if f.kd = 18 then (if f.ky = 0 then 2 else 7) else 0)) := rfl
  unfold Fr_.v at *
  obtain ⟨w0, hw0⟩ : ∃ w0, w0 = w.alloc (.cells #[.int .i64 f.kd, .bool f.rt, .bool f.mo, .bool f.pw, .bool f.st, .bool f.la, .bool f.jo, .int .i64 f.po, .int .i64 f.du, .int .u64 f.ta, .int .u64 f.fa, .int .u64 f.th, .int .i64 f.sq, .int .i64 f.fg, .int .i64 f.ct, .int .i64 f.ky, .int .i64 f.cn, .string f.bo] 25) := ⟨_, rfl⟩
  have X0 : Fr_.Box w0 w.heap.size f := by rw [hw0]; exact Fr_.Box.new w f rfl
  have B0 : Below w.heap.size w w0 := by rw [hw0]; exact (Below.refl _ _).alloc (Nat.le_refl _) _
  have k0 : w0.cell? ⟨w.heap.size, 0, none⟩ = some (.int .i64 f.kd) := X0.cell 0
  have k15 : w0.cell? ⟨w.heap.size, 15, none⟩ = some (.int .i64 f.ky) := X0.cell 15
  have BB := Lib.hid B0
  clear X0 B0
  go_enter Tryd.func26, Tryd.ntmps26
  go_wp2_with fail
  rw [← hw0]
  clear hw0
  go_wp2_with (first
    | (go_at_call 57; refine (CI.out _).mono ?_; rintro e w' ⟨rfl, rfl⟩)
    | (go_at_call 68; refine (CF.out _).mono ?_; rintro e w' ⟨rfl, rfl⟩)
    | (go_at_call 69; refine (CN.out _).mono ?_; rintro e w' ⟨rfl, rfl⟩)
    | (go_at_call 62; refine (CP.out _).mono ?_; rintro e w' ⟨rfl, rfl⟩))
  all_goals
    go_returns
    clear CI CF CN CP k0 k15
    refine ⟨congrArg (fun z : Int => Ending.returned (Value.int .i64 z)) ?_, BB.out⟩
    rw [HL.out]
    clear HL BB
    first
      | (simp [*]; done)
      | (simp_all; done)
      | (simp_all [isK, fro, nb, pl, mg]; done)
      | (exfalso; simp_all [isK, fro, nb, pl, mg]; omega)
end Go.Proofs.YtkhnhlahfedkhaaDoor
