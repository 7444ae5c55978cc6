/-
  THE ITERATOR OVER A TABLE's ADDRESSES: maps.Keys and the function that it hands back; Drop; nil tables.
-/
import Derived.Test.YtacjdgglfeemcaaHiProg
import Derived.RangeFuncBox
import Derived.RangeFuncNested
import Derived.RangeFuncBound
import Derived.RangeFuncCalls
import Derived.RangeFuncLeaves
import Derived.RangeFuncFrom
import Derived.Shelf.Abstract
import Derived.Shelf.AbstractIn
import Derived.Shelf.RegionOpen
import Derived.OwnWalkIn
import Derived.TacticsInMore
import Derived.RegionIn
import Derived.LoopNIn
import Derived.LoopIn
import Derived.Maps.AppendAt
import Derived.Sort.MapsRangeIn
namespace Go.Proofs.Ytacjdgglfeemcaa
open Go.RowKit Go.Shelf Go.Hi
attribute [local go_sem] Oper.semAt_some

/-! Drop; nil tables. -/
theorem hiDrop_any {b n : Nat} {M : Tb} (p : Int) (w : World) (h : Tab w b n M) (hp : (Lit.int .u64 p).wf = true) :
    Calls Try.prog 16 #[.map (some b), .int .u64 p] w fun e w' => e = .returned (.tuple #[]) ∧ Tab w' b n (drp M p) ∧ w.grownBy w' (some b) := by
  obtain ⟨w', hrun, ht, hm⟩ := h.drop hp 0
  have HT := Lib.hid ht
  have HG := Lib.hid hm.grown
  clear ht hm h hp
  go_enter Try.func16, Try.ntmps16
  go_wp2
  go_returns
  exact ⟨rfl, HT.out, HG.out⟩
theorem hiDrop_nil (p : Int) (w : World) (hp : (Lit.int .u64 p).wf = true) :
    Calls Try.prog 16 #[.map none, .int .u64 p] w fun e w' => e = .returned (.tuple #[]) ∧ w = w' := by
  have hrun := Maps.drop_nil (w := w) keyed Try.underlying35 (key := .int .u64 p) (Maps.keyOf_int_mk Try.underlying33 hp) 0
  clear hp
  go_enter Try.func16, Try.ntmps16
  go_wp2
  go_returns
  exact ⟨rfl, rfl⟩
theorem hiPut_nil (p k : Int) (x : La) (w : World) :
    Calls Try.prog 15 #[.map none, .int .u64 p, .int .i64 k, Lw_.v x] w fun e w' => e = .returned (.tuple #[]) ∧ Below w.heap.size w w' := by
  obtain ⟨w1, hw1⟩ : ∃ w1, w.alloc (.cells (Lw_.C x) 23) = w1 := ⟨_, rfl⟩
  have HBL : Hid (Below w.heap.size w w1) := by rw [← hw1]; exact (Below.refl _ _).alloc (Nat.le_refl _) _
  have hne := nil_eq w1
  have hm := Lw_.v_match x
  have hm2 := Lw_.v_cells x
  go_enter Try.func15, Try.ntmps15
  go_wp2
  go_returns
  exact ⟨rfl, HBL.out⟩

/-! The addresses that have come. -/
def ks (M : Tb) : List Int := M.map (·.1)
theorem ks_nodup {M : Tb} (h : Up M) : (ks M).Nodup := by
  unfold ks
  exact List.pairwise_map.2 (h.imp fun hh e => by omega)
theorem has_ks (M : Tb) (x : Int) : Maps.has (dT M) (.int .u64 x) = true ↔ x ∈ ks M := by
  unfold dT ks
  rw [Maps.has_eq, List.any_map, List.any_eq_true, List.mem_map]
  constructor
  · rintro ⟨p, hp, h⟩
    exact ⟨p, hp, by simpa [en, Lit.sameKey] using h⟩
  · rintro ⟨p, hp, rfl⟩
    exact ⟨p, hp, by simp [en, Lit.sameKey]⟩
def Coll (M : Tb) (left : Lit → Bool) (ss : List Int) : Prop := ss.Nodup ∧ ∀ x, x ∈ ss ↔ (x ∈ ks M ∧ left (.int .u64 x) = false)
theorem Coll.start (M : Tb) : Coll M (Maps.has (dT M)) [] := ⟨List.nodup_nil, fun x => by
  constructor
  · intro h; cases h
  · rintro ⟨h1, h2⟩; rw [(has_ks M x).2 h1] at h2; cases h2⟩
theorem Coll.step {M : Tb} {left : Lit → Bool} {ss : List Int} (h : Coll M left ss) {x : Int} (hx : x ∈ ks M) (hl : left (.int .u64 x) = true) : Coll M (fun z => left z && !z.sameKey (.int .u64 x)) (ss ++ [x]) := by
  have hn : x ∉ ss := fun hs => by have := ((h.2 x).1 hs).2; rw [hl] at this; cases this
  refine ⟨List.nodup_append.2 ⟨h.1, by simp, fun a ha b hb => by simp at hb; subst hb; exact fun e => hn (e ▸ ha)⟩, fun y => ?_⟩
  by_cases hy : y = x
  · subst hy; simp [hx, Lit.sameKey]
  · simp [h.2 y, hy, Lit.sameKey]
theorem Coll.perm {M : Tb} {left : Lit → Bool} {ss : List Int} (h : Coll M left ss) (hu : Up M) (hl : ∀ kl, left kl = false) : ss.Perm (ks M) :=
  (List.perm_ext_iff_of_nodup h.1 (ks_nodup hu)).2 fun x => by rw [h.2 x, hl]; simp

set_option maxRecDepth 100000 in
set_option maxHeartbeats 1000000 in
theorem keys1_in (n : Nat) (hn : 1 ≤ n) (l Bm b nn : Nat) (M : Tb) (J Jx : List Int → World → Prop)
    (hY : ∀ pre x W, J pre W → pre.length < M.length → YieldAt Fence.wide (n - 1) Try.prog l #[.int .u64 x] W fun e W' =>
      (e = .returned (.bool true) ∧ J (pre ++ [x]) W' ∧ KeepsWalks W W') ∨ (e = .returned (.bool false) ∧ Jx (pre ++ [x]) W'))
    (W : World) (hJ : AbidesFrom W.heap.size J) (hm : W.cell? ⟨Bm, 0, none⟩ = some (.map (some b))) (hT : Tab W b nn M) (h0 : J [] W) :
    CallsIn Fence.wide n Try.prog 24 #[.func (.yield l) #[] #[], .pointer (some ⟨Bm, 0, none⟩)] W fun e W' => (∃ v, e = .returned v) ∧
      ((∃ ss : List Int, ss.Perm (ks M) ∧ J ss W') ∨ (∃ pre : List Int, True ∧ Jx pre W')) := by
  have hown := hT.own
  have hsz : Maps.size (dT M) = M.length := by unfold dT; rw [Maps.size_eq, List.length_map]
  refine callsIn_of_wp Try.func24 rfl trivial ?_ rfl
  simp only [Try.ntmps24, List.size_toArray, List.length_cons, List.length_nil, Nat.reduceAdd, Nat.reduceSub, Array.replicate_succ, Array.replicate_zero, List.push_toArray, List.append_toArray, List.nil_append, List.cons_append]
  gi_wp2_with (first
    | (gi_at_range; refine wpListIn_range_own _ rfl _ 35 rfl 33 42 keyed Try.underlying35 Rf b nn _ rfl hown ?_; intro w0 hrg0 hg0 hs0)
    | gi_in)
  go_frame
  gi_loopw [3] (fun _ wr => ∃ (left : Lit → Bool) (cnt : Nat) (ss : List Int), wr.ranges Try.prog 33 Rf b W.heap.size nn (dT M) left cnt ∧ ss.length + cnt ≤ M.length ∧ Coll M left ss ∧ J ss wr)
    (fun _ wr => wr.rangeLeft b W.heap.size)
  case atStart =>
    exact ⟨_, _, [], hrg0, by rw [hsz]; simp, Coll.start M, hJ [] W w0 none h0 hg0 (fun r e => by cases e)⟩
  case round =>
    obtain ⟨left, cnt, ss, hrg, hcs, hC, hJs⟩ := hrel
    gi_wp2_with (first
      | (gi_at_next; refine wpListIn_next_ranges _ rfl _ rfl 33 keyed Rf (Value.int .u64) id (fun key kl hk => by obtain ⟨x, hx, _⟩ := Maps.keyOf_int_inv Try.underlying33 hk; exact ⟨x, hx⟩) (fun v _ _ => ⟨v, rfl⟩) b W.heap.size nn _ _ _ rfl hrg ?_ ?_)
      | gi_in)
    · intro hc0 hl0
      gi_wp2
      go_end0
      exact ⟨⟨_, rfl⟩, .inl ⟨ss, hC.perm hT.ok.1 hl0, hJs⟩⟩
    · intro x c kl yd yp w2 cnt2 hkey hlk hv hat hrg2 hlt hg2 hs2 hen
      obtain ⟨x', ex, rfl, _⟩ := Maps.keyOf_int_inv Try.underlying33 hkey
      obtain rfl : x = x' := by injection ex
      have hJ2 : J ss w2 := hJ ss wr w2 (some W.heap.size) hJs hg2 (fun r e => by cases e; exact ⟨Nat.le_refl _, hrg.iter_walk⟩)
      obtain ⟨fn, tmps, assign, body, hy, hR⟩ := hY ss x w2 hJ2 (by omega)
      have hC2 := Lib.hid (hC.step ((has_ks M x).1 (Maps.has_true_of_atKey hat)) hlk)
      clear hs2
      gi_wp2
      refine hR.mono ?_
      rintro e W3 (⟨rfl, hJ3, hk3⟩ | ⟨rfl, hJx3⟩)
      · gi_wp2
        have hrg3 := hrg2.of_walks hk3
        go_roundw
        case rel => exact ⟨_, cnt2, ss ++ [x], hrg3, by simp; omega, hC2.out, hJ3⟩
        case measure => rw [hrg3.left_eq, hrg.left_eq]; exact hlt
      · gi_wp2
        refine bodyPost_ret (results_none rfl _ _ _) rfl ?_
        exact ⟨⟨_, rfl⟩, .inr ⟨ss ++ [x], trivial, hJx3⟩⟩

/-- What maps.Keys hands back gives the addresses, each once. -/
theorem keys_stops (n : Nat) (hn : 1 ≤ n) (Bm b nn : Nat) (M : Tb) (w : World) (hBm : Bm < w.heap.size) (hm : w.cell? ⟨Bm, 0, none⟩ = some (.map (some b))) (hT : Tab w b nn M) :
    SeqStopsK Fence.wide n Try.prog 24 #[.pointer (some ⟨Bm, 0, none⟩)] (fun x : Int => #[Value.int .u64 x]) KeepsWalks (fun ss => ss.Perm (ks M)) (fun _ => True) M.length w :=
  fun l J Jx W hW hJ _ hY h0 => keys1_in n hn l Bm b nn M J Jx hY W hJ ((hW.cell (p := ⟨Bm, 0, none⟩) hBm).trans hm) (hT.below hW) h0

set_option maxRecDepth 100000 in
set_option maxHeartbeats 1000000 in
theorem keys1_nil (n : Nat) (l Bm : Nat) (J : List Int → World → Prop) (W : World) (hJ : AbidesFrom W.heap.size J)
    (hm : W.cell? ⟨Bm, 0, none⟩ = some (.map none)) (h0 : J [] W) :
    CallsIn Fence.wide n Try.prog 24 #[.func (.yield l) #[] #[], .pointer (some ⟨Bm, 0, none⟩)] W fun e W' => (∃ v, e = .returned v) ∧ J [] W' := by
  refine callsIn_of_wp Try.func24 rfl trivial ?_ rfl
  simp only [Try.ntmps24, List.size_toArray, List.length_cons, List.length_nil, Nat.reduceAdd, Nat.reduceSub, Array.replicate_succ, Array.replicate_zero, List.push_toArray, List.append_toArray, List.nil_append, List.cons_append]
  have hrg := run_range_nilMap (P := Try.prog) W 35 33 42 Try.underlying35
  have hnx : ∀ ty, (Instr.next (.pointer (some ⟨W.heap.size, 0, none⟩)) false ty).run Try.prog (W.alloc (.mapIter none 0 #[] 0)) = _ := fun ty => run_next_nilMap _ ty 0 0 #[]
  gi_wp2
  refine wpIn_loop_rounds 1 ?_
  rw [roundsIn_succ]
  gi_wp2
  go_end0
  exact ⟨⟨_, rfl⟩, hJ [] W _ none h0 (World.grownBy_alloc W _ none) (fun r e => by cases e)⟩
theorem keys_stops_nil (n : Nat) (Bm : Nat) (w : World) (hBm : Bm < w.heap.size) (hm : w.cell? ⟨Bm, 0, none⟩ = some (.map none)) :
    SeqStopsK Fence.wide n Try.prog 24 #[.pointer (some ⟨Bm, 0, none⟩)] (fun x : Int => #[Value.int .u64 x]) KeepsWalks (fun ss => ss.Perm (ks [])) (fun _ => True) 0 w :=
  fun l J _ W hW hJ _ _ h0 => (keys1_nil n l Bm J W hJ ((hW.cell (p := ⟨Bm, 0, none⟩) hBm).trans hm) h0).mono fun _ _ h => ⟨h.1, .inl ⟨[], List.Perm.refl _, h.2⟩⟩

set_option maxHeartbeats 1000000 in
theorem hiKeys_in (n : Nat) (mb : Option Nat) (w : World) :
    CallsIn Fence.wide n Try.prog 20 #[.map mb] w fun e w' => e = .returned (.func (.func 24) #[] #[.pointer (some ⟨w.heap.size, 0, none⟩)]) ∧ w' = w.alloc (.cells #[.map mb] 35) := by
  refine callsIn_of_wp Try.func20 rfl trivial ?_ rfl
  simp only [Try.ntmps20, List.size_toArray, List.length_cons, List.length_nil, Nat.reduceAdd, Nat.reduceSub, Array.replicate_succ, Array.replicate_zero, List.push_toArray, List.append_toArray, List.nil_append, List.cons_append]
  gi_wp2
  go_ret
  exact ⟨rfl, rfl⟩
end Go.Proofs.Ytacjdgglfeemcaa
