/-
  slices.AppendSeq, Collect, Sorted over the addresses of a table; Peers: over a contract of slices.Sort.
-/
import Derived.Test.YtacjdgglfeemcaaHiKeys
import Derived.Test.YtacjdgglfeemcaaHiRow
namespace Go.Proofs.Ytacjdgglfeemcaa
open Go.RowKit Go.Shelf Go.Hi
attribute [local go_sem] Oper.semAt_some

abbrev kf : Nat := 24
theorem slice_form19 {base n size : Nat} {e : TypeId} {u : Value} {wr : World} {xs : List Value} (h : wr.ownsRow base e size u n xs) : ∃ v0 cap, u = .slice v0 n cap := Us_.slice_form h

set_option maxRecDepth 100000 in
set_option maxHeartbeats 4000000 in
theorem append_in (n : Nat) (hn : 2 ≤ n) (Bm : Nat) (S : List Int → Prop) (N : Nat) (hN : N ≤ 10000) (w : World)
    (hseq : SeqStopsK Fence.wide (n - 1) Try.prog 24 #[.pointer (some ⟨Bm, 0, none⟩)] (fun x : Int => #[Value.int .u64 x]) KeepsWalks S (fun _ => True) N w) :
    CallsIn Fence.wide n Try.prog 25 #[.slice none 0 0, .func (.func 24) #[] #[.pointer (some ⟨Bm, 0, none⟩)]] w fun e w' =>
      ∃ (v : Value) (ss : List Int), e = .returned v ∧ S ss ∧ w'.ownsRow w.heap.size 33 1 v ss.length (ss.map (Value.int .u64)) ∧ Below w.heap.size w w' := by
  have h1 : 1 ≤ n := by omega
  have HI := Lib.hid (info_parts Us_.info)
  refine callsIn_of_wp_marks Try.func25 rfl trivial ?_ rfl
  simp only [Try.ntmps25, List.size_toArray, List.length_cons, List.length_nil, Nat.reduceAdd, Nat.reduceSub, Array.replicate_succ, Array.replicate_zero, List.push_toArray, List.append_toArray, List.nil_append, List.cons_append]
  have bO := Boxed.new w 38 (.slice none 0 0)
  have hB0 : Below w.heap.size w (w.alloc (.cells #[.slice none 0 0] 38)) := (Below.refl _ w).alloc (Nat.le_refl _) _
  gi_wp2
  refine wpIn_rangeFunc_ownF rfl h1 (gf := 24) (lb := #[.pointer (some ⟨Bm, 0, none⟩)]) rfl trivial (enters_of Try.func24 (by kernel_rfl) rfl)
    hseq walksK_t walksK_b hB0 (fun _ => rfl)
    (fun pre W => ((∃ v, Boxed W w.heap.size 38 v ∧ W.ownsRow w.heap.size 33 1 v pre.length (pre.map (Value.int .u64)) ∧ True) ∧ pre.length ≤ N) ∧ Below w.heap.size w W)
    (fun _ _ _ => False)
    (OwnFrom.and (OwnFrom.and (Own.from (holdsRow_own w.heap.size w.heap.size 38 33 1 (fun pre : List Int => pre.length) (fun pre => pre.map (Value.int .u64)) (fun _ _ => True)) _) (ownFrom_pure _ _)) (ownFrom_below (Nat.le_refl _) (by simp)))
    (fun c => ownFrom_pure _ _)
    ⟨⟨⟨_, bO, World.ownsRow_nil _ _ _ _, trivial⟩, Nat.zero_le _⟩, hB0⟩
    (fun x => { tmps := #[.slice none 0 0, .func (.func 24) #[] #[.pointer (some ⟨Bm, 0, none⟩)], .pointer (some ⟨w.heap.size, 0, none⟩), undef, .slice none 0 0, .int .u64 x, .func (.func 24) #[] #[.pointer (some ⟨Bm, 0, none⟩)], .int .u64 x, undef, undef, undef, undef, undef], defers := [] }) ?assign ?body ?done ?stop
  case assign =>
    intro l x W K hK
    gi_wp2
    exact hK
  case body =>
    rintro l pre x W ⟨⟨⟨v, hv, hrow, -⟩, hpm⟩, hB⟩ hlt
    have hc := hv.cell
    obtain ⟨v0, cap, rfl⟩ := slice_form19 hrow
    have hNN : w.heap.size ≤ W.heap.size := by have := (Array.getElem?_eq_some_iff.1 (show W.heap[w.heap.size]? = _ from hv)).1; omega
    gi_wp2_with (gi_at_builtin; obtain ⟨i0, hi, hz0, hz1, hz2⟩ := HI.out; refine wpListIn_append_own _ rfl _ _ 38 rfl w.heap.size 33 i0 (.int .u64 0) 1 8 Try.underlying38 hi hz0 hz1 hz2 rfl (by decide) _ _ _ rfl (hrow.alloc _) ⟨W.heap.size, 0, none⟩ 1 1 [.int .u64 x] rfl rfl (cell_one_new _ _ _) (by simp [Value.oneCell']) (by unfold maxLen; omega) (by omega) (by simp; omega) ?_; clear hi hz0 hz1 hz2; intro v' w1 hown' hgrow _; obtain ⟨g', cap', rfl⟩ := ownsRow_succ hown'; obtain ⟨hv1, hv2, hr2, hk2, hb2⟩ := hv.appended (by decide) hrow hNN (Nat.le_refl _) hown' hgrow; have hc1 := hv1.cell; have hf1 := hv1.frozen; have hc2 := hv2.cell)
    refine ⟨hk2, hk2.walks, ⟨⟨_, hv2, ?_, trivial⟩, ?_⟩, hB.trans hb2⟩
    · simpa using hr2
    · rw [List.length_append]; show pre.length + 1 ≤ N; omega
  case done =>
    rintro D ss W hD hS ⟨⟨⟨v, hv, hrow, -⟩, hpm⟩, hB⟩ hK
    have hc := hv.cell
    obtain ⟨v0, cap, rfl⟩ := slice_form19 hrow
    have hDw : w.heap.size ≤ D := by simp at hD; omega
    have HF : Hid ((W.putObj D (.deferred none)).ownsRow w.heap.size 33 1 (.slice v0 ss.length cap) ss.length (ss.map (Value.int .u64)) ∧ Below w.heap.size w (W.putObj D (.deferred none))) :=
      ⟨ownsRow_putObj hrow (.deferred none) hK rfl, hB.trans (belowK_b (w := w) (Nat.le_refl _) _ D _ _ hDw hK rfl rfl)⟩
    have HS := Lib.hid hS
    clear hrow hB hpm hS
    gi_wp2
    refine ⟨by simp, .inl ⟨_, _, rfl, run_takeDeferred hK, ?_⟩⟩
    exact ⟨.slice v0 ss.length cap, by simp [results, Try.f25, go_sem], .slice v0 ss.length cap, ss, rfl, HS.out, HF.out.1, HF.out.2⟩
  case stop =>
    rintro D c pre W hD hpre h hK
    exact h.elim

set_option maxHeartbeats 1000000 in
theorem collect_in (n : Nat) (hn : 3 ≤ n) (Bm : Nat) (S : List Int → Prop) (N : Nat) (hN : N ≤ 10000) (w : World)
    (hseq : SeqStopsK Fence.wide (n - 1 - 1) Try.prog 24 #[.pointer (some ⟨Bm, 0, none⟩)] (fun x : Int => #[Value.int .u64 x]) KeepsWalks S (fun _ => True) N w) :
    CallsIn Fence.wide n Try.prog 22 #[.func (.func 24) #[] #[.pointer (some ⟨Bm, 0, none⟩)]] w fun e w' =>
      ∃ (v : Value) (ss : List Int), e = .returned v ∧ S ss ∧ w'.ownsRow w.heap.size 33 1 v ss.length (ss.map (Value.int .u64)) ∧ Below w.heap.size w w' := by
  have C := Lib.hid (append_in (n - 1) (by omega) Bm S N hN w hseq)
  refine callsIn_of_wp Try.func22 rfl trivial ?_ rfl
  simp only [Try.ntmps22, List.size_toArray, List.length_cons, List.length_nil, Nat.reduceAdd, Nat.reduceSub, Array.replicate_succ, Array.replicate_zero, List.push_toArray, List.append_toArray, List.nil_append, List.cons_append]
  gi_wp2_with (refine ⟨trivial, fun _ => (by omega), ?_⟩; refine C.out.mono ?_; rintro e w1 ⟨v, ss, rfl, hS, hrow, hb⟩)
  go_ret
  exact ⟨v, ss, rfl, hS, hrow, hb⟩

set_option maxHeartbeats 1000000 in
theorem sorted_in (n : Nat) (hn : 4 ≤ n) (Bm : Nat) (S : List Int → Prop) (N : Nat) (hN : N ≤ 10000) (w : World) (hs : SortOk N) (h0 : SortNil) (hSN : ∀ ss, S ss → ss.length ≤ N ∧ ss.Nodup)
    (hseq : SeqStopsK Fence.wide (n - 1 - 1 - 1) Try.prog 24 #[.pointer (some ⟨Bm, 0, none⟩)] (fun x : Int => #[Value.int .u64 x]) KeepsWalks S (fun _ => True) N w) :
    CallsIn Fence.wide n Try.prog 19 #[.func (.func 24) #[] #[.pointer (some ⟨Bm, 0, none⟩)]] w fun e w' =>
      ∃ (v : Value) (ss ts : List Int), e = .returned v ∧ S ss ∧ ts.Perm ss ∧ ts.Pairwise (· ≤ ·) ∧ w'.ownsRow w.heap.size 33 1 v ts.length (ts.map (Value.int .u64)) ∧ Below w.heap.size w w' := by
  have C := Lib.hid (collect_in (n - 1) (by omega) Bm S N hN w hseq)
  refine callsIn_of_wp Try.func19 rfl trivial ?_ rfl
  simp only [Try.ntmps19, List.size_toArray, List.length_cons, List.length_nil, Nat.reduceAdd, Nat.reduceSub, Array.replicate_succ, Array.replicate_zero, List.push_toArray, List.append_toArray, List.nil_append, List.cons_append]
  gi_wp2_with (refine ⟨trivial, fun _ => (by omega), ?_⟩; refine C.out.mono ?_; rintro e w1 ⟨v, ss, rfl, hS, hrow, hb⟩)
  obtain ⟨v0, c, rfl⟩ := slice_form19 hrow
  have HS := Lib.hid hS
  have HB := Lib.hid hb
  cases v0 with
  | none =>
    have hc : c = 0 ∧ ss.length = 0 := by
      obtain ⟨_, ⟨h1, h2⟩ | ⟨g', cap', cur, h1, _⟩⟩ := hrow
      · injection h1 with e1 e2 e3; exact ⟨e3, h2⟩
      · injection h1 with e1 e2 e3; cases e1
    obtain ⟨rfl, hl⟩ := hc
    have hss : ss = [] := List.eq_nil_of_length_eq_zero hl
    subst hss
    have C0 := Lib.hid (callsIn_wide (n := n - 1) |>.2 (h0 w1))
    have HR := Lib.hid hrow
    clear hrow hS hb hl
    gi_wp2_with (refine ⟨trivial, fun _ => (by omega), ?_⟩; refine C0.out.mono ?_; rintro e w2 ⟨rfl, rfl⟩)
    go_ret
    exact ⟨_, [], [], rfl, HS.out, List.Perm.refl _, List.Pairwise.nil, HR.out, HB.out⟩
  | some a =>
    obtain ⟨g, rfl⟩ : ∃ g, a = ⟨g, 0, none⟩ := by
      obtain ⟨_, ⟨h1, h2⟩ | ⟨g', cap', cur, h1, _⟩⟩ := hrow
      · injection h1 with e1 e2 e3; cases e1
      · injection h1 with e1 e2 e3; exact ⟨g', Option.some.inj e1⟩
    obtain ⟨hr, hbase, -, hle, hcm⟩ := rw_owns hrow
    have C1 := Lib.hid (callsIn_wide (n := n - 1) |>.2 (hs g c ss.toArray w1 hr (by simpa using (hSN ss hS).2) (by simpa using (hSN ss hS).1)))
    have HC := Lib.hid (And.intro hbase hcm)
    clear hrow hS hb hr hbase hle hcm
    gi_wp2_with (refine ⟨trivial, fun _ => (by omega), ?_⟩; refine C1.out.mono ?_; rintro e w2 ⟨rfl, d', hr', hp, hpw, hg⟩)
    go_ret
    have hlen : d'.toList.length = ss.length := by simpa using hp.length_eq
    have ho := owns_rw hr' HC.out.1 HC.out.2
    refine ⟨_, ss, d'.toList, rfl, HS.out, by simpa using hp, hpw, ?_, HB.out.grown hg HB.out.size (fun k e => by cases e; exact HC.out.1)⟩
    rw [hlen] at ho ⊢
    exact ho

theorem sorted_unique {l m : List Int} (hp : l.Perm m) (hl : l.Pairwise (· ≤ ·)) (hm : m.Pairwise (· ≤ ·)) : l = m :=
  List.Perm.eq_of_pairwise (le := (· ≤ ·)) (fun _ _ _ _ h1 h2 => Int.le_antisymm h1 h2) hl hm hp
theorem ks_le {M : Tb} (h : Up M) : (ks M).Pairwise (· ≤ ·) := by
  unfold ks
  exact List.pairwise_map.2 (h.imp fun hh => by omega)
theorem ks_len (M : Tb) : (ks M).length = M.length := List.length_map ..

/-- The peers in ascending order. -/
def PePost (M : Tb) (w : World) (e : Ending) (w' : World) : Prop :=
  ∃ v0 c, e = .returned (.slice v0 M.length c) ∧ Us_.Sl w' v0 (ks M) c ∧ Below w.heap.size w w'
set_option maxHeartbeats 1000000 in
theorem peers_in (n : Nat) (hn : 5 ≤ n) (mb : Option Nat) (M : Tb) (N : Nat) (hN : N ≤ 10000) (hu : Up M) (hl : M.length ≤ N) (hs : SortOk N) (h0 : SortNil) (w : World)
    (hq : ∀ n, 1 ≤ n → SeqStopsK Fence.wide n Try.prog 24 #[.pointer (some ⟨w.heap.size, 0, none⟩)] (fun x : Int => #[Value.int .u64 x]) KeepsWalks (fun ss => ss.Perm (ks M)) (fun _ => True) N (w.alloc (.cells #[.map mb] 35))) :
    CallsIn Fence.wide n Try.prog 12 #[.map mb] w fun e w' => PePost M w e w' := by
  have CK := Lib.hid (hiKeys_in (n - 1) mb w)
  have CS := Lib.hid (sorted_in (n - 1) (by omega) w.heap.size (fun ss => ss.Perm (ks M)) N hN (w.alloc (.cells #[.map mb] 35)) hs h0 (fun ss h => ⟨by rw [h.length_eq, ks_len]; exact hl, h.nodup_iff.2 (ks_nodup hu)⟩) (hq (n - 1 - 1 - 1 - 1) (by omega)))
  refine callsIn_of_wp Try.func12 rfl trivial ?_ rfl
  simp only [Try.ntmps12, List.size_toArray, List.length_cons, List.length_nil, Nat.reduceAdd, Nat.reduceSub, Array.replicate_succ, Array.replicate_zero, List.push_toArray, List.append_toArray, List.nil_append, List.cons_append]
  gi_wp2_with (first
    | (refine ⟨trivial, fun _ => (by omega), ?_⟩; refine CK.out.mono ?_; rintro e w1 ⟨rfl, rfl⟩)
    | (refine ⟨trivial, fun _ => (by omega), ?_⟩; refine CS.out.mono ?_; rintro e w2 ⟨v, ss, ts, rfl, hS, hp, hpw, hrow, hb⟩))
  go_ret
  have ht : ts = ks M := sorted_unique (hp.trans hS) hpw (ks_le hu)
  subst ht
  obtain ⟨v0, c, rfl⟩ := slice_form19 hrow
  refine ⟨v0, c, by rw [← ks_len M]; rfl, Us_.sl_owns hrow, ?_⟩
  exact ((Below.refl _ w).alloc (Nat.le_refl _) _).trans (hb.mono (by simp))
theorem peers_core (mb : Option Nat) (M : Tb) (N : Nat) (hN : N ≤ 10000) (hu : Up M) (hl : M.length ≤ N) (hs : SortOk N) (h0 : SortNil) (w : World)
    (hq : ∀ n, 1 ≤ n → SeqStopsK Fence.wide n Try.prog 24 #[.pointer (some ⟨w.heap.size, 0, none⟩)] (fun x : Int => #[Value.int .u64 x]) KeepsWalks (fun ss => ss.Perm (ks M)) (fun _ => True) N (w.alloc (.cells #[.map mb] 35))) :
    Calls Try.prog 12 #[.map mb] w fun e w' => PePost M w e w' :=
  (callsIn_wide (n := 7)).1 (peers_in 7 (by omega) mb M N hN hu hl hs h0 w hq)
theorem hiPeers_any {b nn : Nat} {M : Tb} (N : Nat) (hN : N ≤ 10000) (hl : M.length ≤ N) (hs : SortOk N) (h0 : SortNil) (w : World) (hT : Tab w b nn M) :
    Calls Try.prog 12 #[.map (some b)] w fun e w' => PePost M w e w' :=
  peers_core (some b) M N hN hT.ok.1 hl hs h0 w (fun n hn l J Jx W hW hJ hx hY h0 =>
    keys_stops n hn w.heap.size b nn M _ (by simp) (Boxed.new w 35 (.map (some b))).cell (hT.below ((Below.refl _ _).alloc (Nat.le_refl _) _)) l J Jx W hW hJ hx (fun pre x W1 hj hlt => hY pre x W1 hj (Nat.lt_of_lt_of_le hlt hl)) h0)
theorem hiPeers_nil (hs : SortOk 0) (h0 : SortNil) (w : World) :
    Calls Try.prog 12 #[.map none] w fun e w' => PePost [] w e w' :=
  peers_core none [] 0 (by omega) List.Pairwise.nil (Nat.le_refl _) hs h0 w (fun n _ => keys_stops_nil n w.heap.size _ (by simp) (Boxed.new w 35 (.map none)).cell)
end Go.Proofs.Ytacjdgglfeemcaa
