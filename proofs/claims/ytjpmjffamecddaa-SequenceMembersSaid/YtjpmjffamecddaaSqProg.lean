/-
  WHAT THE PROGRAM's FUNCTIONS OF LAYER 6 DO, as the laws' walks ask it: a structure of contracts (XSqDone proves it over the landed code).
-/
import Derived.RangeFuncBox
import Derived.RangeFuncNested
import Derived.RangeFuncBound
import Derived.RangeFuncCalls
import Derived.RangeFuncLeaves
import Derived.RangeFuncFrom
import Derived.Shelf.Abstract
import Derived.Shelf.RegionOpen
import Derived.OwnWalkIn
import Derived.TacticsInMore
import Derived.LoopNIn
import Derived.LoopIn
import Derived.Maps.AppendAt
import Derived.Test.YtjpmjffamecddaaSqWin
namespace Go.Proofs.Ytjpmjffamecddaa
open Go.RowKit Go.Shelf Go.Sq
attribute [local go_sem] Oper.semAt_some

structure Does : Prop where
  valid_any : ∀ (n : Int) (w : World) (_ : (Lit.int .i64 n).wf = true),
    Calls Try.prog 8 #[.int .i64 n] w fun e w' => e = .returned (.bool (vl n)) ∧ w = w'
  add_any : ∀ (n k : Int) (w : World) (_ : (Lit.int .i64 n).wf = true) (_ : (Lit.int .i64 k).wf = true),
    Calls Try.prog 10 #[.int .i64 n, .int .i64 k] w fun e w' => e = .returned (.int .i64 (add n k)) ∧ w = w'
  distance_any : ∀ (a b : Int) (w : World) (_ : (Lit.int .i64 a).wf = true) (_ : (Lit.int .i64 b).wf = true),
    Calls Try.prog 12 #[.int .i64 a, .int .i64 b] w fun e w' => e = .returned (.int .i64 (dist a b)) ∧ w = w'
  before_any : ∀ (a b : Int) (w : World) (_ : (Lit.int .i64 a).wf = true) (_ : (Lit.int .i64 b).wf = true),
    Calls Try.prog 14 #[.int .i64 a, .int .i64 b] w fun e w' => e = .returned (.bool (bef a b)) ∧ w = w'
  in_any : ∀ (a s n : Int) (w : World) (_ : (Lit.int .i64 a).wf = true) (_ : (Lit.int .i64 s).wf = true) (_ : (Lit.int .i64 n).wf = true),
    Calls Try.prog 18 #[.int .i64 a, .int .i64 s, .int .i64 n] w fun e w' => e = .returned (.bool (inn a s n)) ∧ w = w'
  window_in : ∀ (n : Nat) (a s : Int) (w : World) (_ : 1 ≤ n) (_ : (Lit.int .i64 a).wf = true) (_ : (Lit.int .i64 s).wf = true),
    CallsIn Fence.wide n Try.prog 24 #[.int .i64 a, .int .i64 s] w fun e w' => ∃ lb, e = .returned (.func (.func 25) #[] lb) ∧ Below w.heap.size w w' ∧
      ∀ n' : Nat, 1 ≤ n' → SeqStopsK Fence.wide n' Try.prog 25 lb (fun x : Int => #[Value.int .i64 x]) (Below w'.heap.size) (fun ys => ys = win a s) (fun pre => pre <+: win a s) (win a s).length w'

theorem fn_nil (lb : Array Value) (w : World) : (binOp .eql 38 (.func (.func 25) #[] lb) .nilFunc).run Try.prog w = .ok (.bool false) w := rfl

/-- What collect hands back. -/
def ColPost (a s : Int) (most : Nat) (w : World) (e : Ending) (w' : World) : Prop :=
  ∃ v cap, e = .returned (.tuple #[.slice v ((win a s).take most).length cap, .bool true]) ∧ SlV w' (.slice v ((win a s).take most).length cap) ((win a s).take most) ∧ Below w.heap.size w w'

theorem own_ne {w : World} {base size n B : Nat} {e : TypeId} {v : Value} {xs : List Value} (h : w.ownsRow base e size v n xs) (hB : B < base) : some B ≠ v.ownBlock := by
  obtain ⟨_, ⟨rfl, _⟩ | ⟨g, cap, cur, rfl, hb, _⟩⟩ := h
  · intro e; cases e
  · intro e
    have e' : some B = some g := e
    cases e'; omega

set_option maxRecDepth 100000 in
set_option maxHeartbeats 4000000 in
theorem collect_in (D : Does) (n : Nat) (hn : 3 ≤ n) (a s : Int) (most : Nat) (hm : most ≤ 5000) (ha : (Lit.int .i64 a).wf = true) (hs : (Lit.int .i64 s).wf = true) (w : World) :
    CallsIn Fence.wide n Try.prog 17 #[.int .i64 a, .int .i64 s, .int .i64 most] w fun e w' => ColPost a s most w e w' := by
  have h1 : 1 ≤ n := by omega
  have HI := Lib.hid (info_parts infoInt)
  have hwl := win_len a s
  have hcl := cnt_le s
  have CW := Lib.hid (fun w => D.window_in (n - 1) a s w (by omega) ha hs)
  have hfn := fn_nil
  refine callsIn_of_wp_marks Try.func17 rfl trivial ?_ rfl
  simp only [Try.ntmps17, List.size_toArray, List.length_cons, List.length_nil, Nat.reduceAdd, Nat.reduceSub, Array.replicate_succ, Array.replicate_zero, List.push_toArray, List.append_toArray, List.nil_append, List.cons_append]
  have b0 := Boxed.new w 3 (.int .i64 most)
  have hB0 : Below w.heap.size w (w.alloc (.cells #[.int .i64 most] 3)) := (Below.refl _ w).alloc (Nat.le_refl _) _
  gi_wp2_with (refine ⟨trivial, ?_⟩; gi_at_call 24; refine (CW.out _).mono ?_; rintro e w2 ⟨lb, rfl, hbw, hseq⟩)
  have hn₀ : w.heap.size + 1 ≤ w2.heap.size := by have := hbw.size; simpa using this
  have bM : Boxed w2 w.heap.size 3 (.int .i64 most) := by
    unfold Boxed at b0 ⊢
    exact (hbw.block w.heap.size (by simp)).trans b0
  have bO := Boxed.new w2 26 (.slice none 0 0)
  have hB2 : Below w.heap.size w w2 := hB0.trans (hbw.mono (by simp))
  have hB3 : Below w.heap.size w (w2.alloc (.cells #[.slice none 0 0] 26)) := hB2.alloc (by omega) _
  have HLE := Lib.hid (win_len a s)
  refine wpIn_rangeFunc_ownF rfl h1 (gf := 25) (lb := lb) rfl trivial (enters_of Try.func25 (by kernel_rfl) rfl)
    (hseq (n - 1) (by omega)) belowK_t (belowK_b (by simp)) ((Below.refl _ w2).alloc (Nat.le_refl _) _) (fun _ => rfl)
    (fun pre W => (((∃ v, Boxed W w2.heap.size 26 v ∧ W.ownsRow w2.heap.size 3 1 v pre.length (pre.map (Value.int .i64)) ∧ True) ∧ Boxed W w.heap.size 3 (.int .i64 most)) ∧ pre.length ≤ most) ∧ Below w.heap.size w W)
    (fun c pre W => (((c = .exit 0 ∧ pre.length = most + 1) ∧ (∃ v, Boxed W w2.heap.size 26 v ∧ W.ownsRow w2.heap.size 3 1 v (pre.take most).length ((pre.take most).map (Value.int .i64)) ∧ True))) ∧ Below w.heap.size w W)
    (OwnFrom.and (OwnFrom.and (OwnFrom.and (Own.from (holdsRow_own w2.heap.size w2.heap.size 26 3 1 (fun pre : List Int => pre.length) (fun pre => pre.map (Value.int .i64)) (fun _ _ => True)) _) (Own.from (boxed_own w.heap.size 3 (fun _ => .int .i64 most)) _)) (ownFrom_pure _ _)) (ownFrom_below (Nat.le_refl _) (by simp; omega)))
    (fun c => OwnFrom.and (OwnFrom.and (ownFrom_pure _ _) (Own.from (holdsRow_own w2.heap.size w2.heap.size 26 3 1 (fun pre : List Int => (pre.take most).length) (fun pre => (pre.take most).map (Value.int .i64)) (fun _ _ => True)) _)) (ownFrom_below (Nat.le_refl _) (by simp; omega)))
    ⟨⟨⟨⟨_, bO, World.ownsRow_nil _ _ _ _, trivial⟩, bM.alloc _⟩, Nat.zero_le _⟩, hB3⟩
    (fun x => { tmps := #[.int .i64 a, .int .i64 s, .int .i64 most, undef, undef, .pointer (some ⟨w.heap.size, 0, none⟩), .slice none 0 0, .bool false, (.func (.func 25) #[] lb), .pointer (some ⟨w2.heap.size, 0, none⟩), .int .i64 x, .int .i64 a, .int .i64 s, (.func (.func 25) #[] lb), (.func (.func 25) #[] lb), .bool false, (.func (.func 25) #[] lb), .int .i64 x, undef, undef, undef, undef, undef, undef, undef, undef, undef], defers := [] }) ?assign ?body ?done ?stop
  case assign =>
    intro l x W K hK
    gi_wp2
    exact hK
  case body =>
    rintro l pre x W ⟨⟨⟨⟨v, hv, hrow, -⟩, hm0⟩, hpm⟩, hB⟩ hlt
    have hpl : pre.length ≤ 4096 := by omega
    have hc := hv.cell
    have hcm := hm0.cell
    obtain ⟨v0, cap, rfl⟩ := slice_form hrow
    by_cases hfull : most ≤ pre.length
    · have hge : (most : Int) ≤ (pre.length : Int) := by omega
      have hmp : pre.length = most := by omega
      have htk : (pre ++ [x]).take most = pre := by rw [List.take_append_of_le_length (by omega), List.take_of_length_le (by omega)]
      gi_wp2
      refine ⟨KeepsOthers.refl W, ⟨⟨rfl, ?_⟩, ⟨_, hv, ?_⟩⟩, hB⟩
      · rw [List.length_append, hmp]; rfl
      · have hr : W.ownsRow w2.heap.size 3 1 (.slice v0 pre.length cap) ((pre ++ [x]).take most).length (((pre ++ [x]).take most).map (Value.int .i64)) := by rw [htk]; exact hrow
        simpa using hr
    · have hge : ¬ (most : Int) ≤ (pre.length : Int) := by omega
      have hN : w2.heap.size ≤ W.heap.size := by have := (Array.getElem?_eq_some_iff.1 (show W.heap[w2.heap.size]? = _ from hv)).1; omega
      have hne := own_ne hrow (B := w.heap.size) (by omega)
      gi_wp2_with (gi_at_builtin; obtain ⟨i0, hi, hz0, hz1, hz2⟩ := HI.out; refine wpListIn_append_own _ rfl _ _ 26 rfl w2.heap.size 3 i0 (.int .i64 0) 1 8 Try.underlying26 hi hz0 hz1 hz2 rfl (by decide) _ _ _ rfl (hrow.alloc _) ⟨W.heap.size, 0, none⟩ 1 1 [.int .i64 x] rfl rfl (cell_one_new _ _ _) (by simp [Value.oneCell']) (by unfold maxLen; omega) (by omega) (by simp; omega) ?_; clear hi hz0 hz1 hz2; intro v' w1 hown' hgrow _; obtain ⟨g', cap', rfl⟩ := ownsRow_succ hown'; obtain ⟨hv1, hv2, hr2, hk2, hb2⟩ := hv.appended (by decide) hrow hN (Nat.le_refl _) hown' hgrow; have hm1 := ((hm0.alloc _).kept hgrow hne).other (B' := w2.heap.size) (by omega) (.slice (some ⟨g', 0, none⟩) (pre.length + 1) cap'); have hc1 := hv1.cell; have hf1 := hv1.frozen; have hc2 := hv2.cell)
      refine ⟨hk2, hb2, ⟨⟨⟨_, hv2, ?_⟩, hm1⟩, ?_⟩, hB.trans (hb2.mono (by omega))⟩
      · simpa using hr2
      · rw [List.length_append]; show pre.length + 1 ≤ most; omega
  case done =>
    rintro D ys W hD rfl ⟨⟨⟨⟨v, hv, hrow, -⟩, hm0⟩, hpm⟩, hB⟩ hK
    have htk : (win a s).take most = win a s := List.take_of_length_le hpm
    have hc := hv.cell
    obtain ⟨v0, cap, rfl⟩ := slice_form hrow
    have hDw : w.heap.size ≤ D := by simp at hD; omega
    have HF : Hid (SlV (W.putObj D (.deferred none)) (.slice v0 (win a s).length cap) (win a s) ∧ Below w.heap.size w (W.putObj D (.deferred none))) :=
      ⟨slv_owns (ownsRow_putObj hrow (.deferred none) hK rfl), hB.trans (belowK_b (w := w) (Nat.le_refl _) _ D _ _ hDw hK rfl rfl)⟩
    clear hrow hB hpm
    gi_wp2
    refine ⟨by simp, .inl ⟨_, _, rfl, run_takeDeferred hK, ?_⟩⟩
    refine ⟨.tuple #[.slice v0 ((win a s).take most).length cap, .bool true], ?_, v0, cap, rfl, ?_, HF.out.2⟩
    · rw [htk]; simp [results, Try.f17, go_sem, hwl]
    · rw [htk]; exact HF.out.1
  case stop =>
    rintro D c pre W hD hpre ⟨⟨⟨rfl, hlen⟩, ⟨v, hv, hrow, -⟩⟩, hB⟩ hK
    have htk : pre.take most = (win a s).take most := by
      obtain ⟨t, ht⟩ := hpre
      rw [← ht, List.take_append_of_le_length (by omega)]
    rw [htk] at hrow
    have hc := hv.cell
    obtain ⟨v0, cap, rfl⟩ := slice_form hrow
    have hDw : w.heap.size ≤ D := by simp at hD; omega
    have HF : Hid (SlV (W.putObj D (.deferred none)) (.slice v0 ((win a s).take most).length cap) ((win a s).take most) ∧ Below w.heap.size w (W.putObj D (.deferred none))) :=
      ⟨slv_owns (ownsRow_putObj hrow (.deferred none) hK rfl), hB.trans (belowK_b (w := w) (Nat.le_refl _) _ D _ _ hDw hK rfl rfl)⟩
    clear hrow hB hpre htk
    gi_wp2
    refine ⟨by simp, .inl ⟨_, _, rfl, run_takeDeferred hK, ?_⟩⟩
    refine ⟨.tuple #[.slice v0 ((win a s).take most).length cap, .bool true], ?_, v0, cap, rfl, HF.out.1, HF.out.2⟩
    simp [results, Try.f17, go_sem, hwl]
end Go.Proofs.Ytjpmjffamecddaa
