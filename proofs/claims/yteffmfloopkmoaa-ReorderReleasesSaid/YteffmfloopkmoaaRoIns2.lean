/-
  slices.Insert over slices of packets: where the row must grow, at the end; the whole.
-/
import Derived.Test.YteffmfloopkmoaaRoIns
namespace Go.Proofs.Yteffmfloopkmoaa
open Go.RowKit Go.Ro Go.Wr
attribute [local go_sem] Oper.semAt_some

theorem below_row {B : Nat} {w wi : World} {r : Nat} (hb : Below B w wi) (hr : B ≤ r) (c : Array Value) : Below B w (wi.setRow r c) :=
  ⟨hb.os, hb.tape, hb.output, by have := hb.size; simpa [World.setRow] using this, fun k hk => by
    have e : (wi.setRow r c).heap[k]? = wi.heap[k]? := by
      simp only [World.setRow, Array.getElem?_modify]; rw [if_neg (by omega)]
    exact e.trans (hb.block k hk)⟩

/-- The append of so many zero packets, where there is no room. -/
theorem apz20 (g n i : Nat) (l : List Hd) (w : World) (cur : Array Value) (hi : i < n) (hn : n ≤ 1000) (hln : l.length = n) (hg : w.heap[g]? = some (.cells cur 51 (0, 0))) (hcl : cur.toList.take (n * 2) = Hd_.flat l) :
    ∃ ROW : Array Value, ROW.size = grownCap w (n + 1) n 51 * 2 ∧ ROW.toList.take (i * 2) = Hd_.flat (l.take i) ∧
      ∀ ty, (Builtin.append_ #[23, 3] ty #[.slice (some ⟨g, 0, none⟩) i n, .int .i64 ((n : Int) + 1 - (i : Int))]).run Try.prog w = .ok (.slice (some ⟨w.heap.size, 0, none⟩) (n + 1) (grownCap w (n + 1) n 51)) (w.drew.alloc (.cells ROW 51)) := by
  obtain ⟨i0, hi0, hz0, hz1, hz2⟩ := info_parts Hd_.info
  have hkk : (n : Int) + 1 - (i : Int) = ((n + 1 - i : Nat) : Int) := by omega
  have hik : i + (n + 1 - i) = n + 1 := by omega
  have hlt : (Hd_.flat (l.take i)).length = i * 2 := by rw [Hd_.flat_len, List.length_take, hln]; omega
  have hold : (Builtin.firstCells i0.size i (.slice (some ⟨g, 0, none⟩) i n)).run Try.prog w.drew = .ok (Hd_.flat (l.take i)).toArray w.drew := by
    rw [hz1]
    refine run_firstCells_some w.drew 2 i ⟨g, 0, none⟩ i n (Hd_.flat (l.take i)) hlt (fun j v hj => ?_)
    have hj2 : j < i * 2 := by rw [← hlt]; exact (List.getElem?_eq_some_iff.1 hj).1
    rw [← flat_take, List.getElem?_take, if_pos hj2, ← hcl, List.getElem?_take, if_pos (by omega)] at hj
    rw [Addr.add_lit, Nat.zero_add]
    have e : w.cell? ⟨g, j, none⟩ = cur[j]? := cell_of_row w g _ cur _ _ hg
    exact e.trans (by rw [← Array.getElem?_toList]; exact hj)
  have hG : n + 1 ≤ grownCap w (n + 1) n 51 := grownCap_ge w _ _ _
  refine ⟨(Hd_.flat (l.take i)).toArray ++ Builtin.zeroCells (Value.agg #[.int .i64 0, .string ⟨#[]⟩]).cells (n + 1 - i) ++ Builtin.zeroCells (Value.agg #[.int .i64 0, .string ⟨#[]⟩]).cells (grownCap w (n + 1) n 51 - (n + 1)), ?_, ?_, fun ty => ?_⟩
  · simp only [Array.size_append, List.size_toArray, hlt, Builtin.zeroCells, Array.size_map, Array.size_range, Value.cells, List.length_cons, List.length_nil]
    omega
  · rw [Array.toList_append, Array.toList_append, List.append_assoc, List.take_append_of_le_length (by simp [hlt]), List.take_of_length_le (by simp [hlt])]
  · have h := Lib.run_append_grow_zeros w 23 3 ty 51 i0 _ .i64 .i64 Try.underlying23 Try.underlying3 hi0 hz0 (some ⟨g, 0, none⟩) i n (Hd_.flat (l.take i)) hold (n + 1 - i) (by omega) (by omega) (by omega) (by omega) (by rw [hz2]; omega) (by rw [hz2, hik]; exact growslice_fits (by omega) (by omega))
    rw [hik] at h
    rw [hkk]
    exact h

theorem cap20 {i n G : Nat} (hi : i < n) (hG : n + 1 ≤ G) (hm : G ≤ maxLen) : ¬ (G = i + 1) ∧ ¬ (G = i) ∧ i + 1 ≤ G ∧ i ≤ G ∧ G ≤ 9223372036854775807 := by
  unfold maxLen at hm
  exact ⟨by omega, by omega, by omega, by omega, by omega⟩

set_option maxRecDepth 100000 in
set_option maxHeartbeats 4000000 in
/-- There is no room, and it isn't the end: a new row. -/
theorem ins20_grow (g n i : Nat) (l : List Hd) (x : Hd) (w : World) (cur : Array Value) (hi : i < n) (hln : l.length = n) (hl : l.length ≤ 1000)
    (hg : w.heap[g]? = some (.cells cur 51 (0, 0))) (hcl : cur.toList.take (n * 2) = Hd_.flat l)
    (vb : Nat) (hx : Hd_.Box w vb x) :
    Calls Try.prog 33 #[.slice (some ⟨g, 0, none⟩) n n, .int .i64 (i : Int), .slice (some ⟨vb, 0, none⟩) 1 1] w fun e w' =>
      ∃ cur' G, e = .returned (.slice (some ⟨w.heap.size, 0, none⟩) (n + 1) G) ∧ n + 1 ≤ G ∧ G ≤ maxLen ∧ w'.heap[w.heap.size]? = some (.cells cur' 51 (0, 0)) ∧ cur'.size = G * 2 ∧ cur'.toList.take ((n + 1) * 2) = Hd_.flat (l.take i ++ x :: l.drop i) ∧ Below w.heap.size w w' := by
  have hn1 : n ≤ 1000 := by omega
  have hz2 : ¬ ((i : Int) = (n : Int)) := by omega
  have hw1' : wrap64 ((i : Int) + 1) = (i : Int) + 1 := IntWalk.wrap64_in _ (by omega)
  have hw1 : IntKind.i64.wrap ((i : Int) + 1) = (i : Int) + 1 := by rw [IntKind.wrap_i64]; omega
  have hw2 : wrap64 ((n : Int) + 1) = (n : Int) + 1 := IntWalk.wrap64_in _ (by omega)
  have hw3 : wrap64 ((n : Int) + 1 - (i : Int)) = (n : Int) + 1 - (i : Int) := IntWalk.wrap64_in _ (by omega)
  have hb1 : (0 : Int) ≤ (i : Int) + 1 := by omega
  have hin : i ≤ n := by omega
  have htn : ((i : Int) + 1).toNat = i + 1 := by omega
  have hb3 : (i : Int) ≤ (n : Int) + 1 := by omega
  have hlt : (n : Int) < (n : Int) + 1 := by omega
  have hb5 : ¬ (n = i) := by omega
  obtain ⟨ROW, hR1, hR2, hrz⟩ := apz20 g n i l w cur hi (by omega) hln hg hcl
  have hG : n + 1 ≤ grownCap w (n + 1) n 51 := grownCap_ge w _ _ _
  have hGm : grownCap w (n + 1) n 51 ≤ maxLen := grownCap_le_maxLen w _ _ _ (by unfold maxLen; omega)
  generalize grownCap w (n + 1) n 51 = G at *
  have hd : (l.drop i).length = n - i := by rw [List.length_drop, hln]
  have hgl : g < w.heap.size := (Array.getElem?_eq_some_iff.1 hg).1
  have hN : w.heap.size = w.heap.size := rfl
  generalize hNN : w.heap.size = N at hN hgl hrz ⊢
  clear hN
  have hvb : vb < N := hNN ▸ hx.lt
  have r1 : (w.drew.alloc (.cells ROW 51)).heap[N]? = some (.cells ROW 51 (0, 0)) := by
    subst hNN
    show (w.heap.push _)[w.heap.size]? = _
    rw [Array.getElem?_push, if_pos rfl]
  have B1 : Below N w (w.drew.alloc (.cells ROW 51)) := by
    subst hNN
    have h0 : Below w.heap.size w w.drew := ⟨rfl, rfl, rfl, Nat.le_refl _, fun _ _ => rfl⟩
    exact h0.alloc (Nat.le_refl _) _
  have hcpA : ∀ (W : World), W.heap = (w.drew.alloc (.cells ROW 51)).heap → ∀ ty dc, (Builtin.copy_ #[23, 23] ty #[.slice (some ⟨N, i * 2, none⟩) (n + 1 - i) dc, .slice (some ⟨vb, 0, none⟩) 1 1]).run Try.prog W = .ok (goInt (1 : Nat)) (W.setRow N (put20 ROW (i * 2) [x])) := fun W hW ty dc =>
    cp20_up N ⟨vb, 0, none⟩ (i * 2) (n + 1 - i) 1 dc 1 [x] W ROW ty (by show 1 = min 1 _; simp only [Nat.min_def]; split <;> omega) (by rw [hW]; exact r1) (src20x (show Hd_.Box W vb x by unfold Hd_.Box; rw [hW]; exact (B1.block vb hvb).trans hx)) (by show i * 2 + 1 * 2 ≤ _; omega)
  have hcpB : ∀ (W : World), W.heap = ((w.drew.alloc (.cells ROW 51)).setRow N (put20 ROW (i * 2) [x])).heap → ∀ ty dc sc, (Builtin.copy_ #[23, 23] ty #[.slice (some ⟨N, (i + 1) * 2, none⟩) (n - i) dc, .slice (some ⟨g, i * 2, none⟩) (n - i) sc]).run Try.prog W = .ok (goInt (n - i : Nat)) (W.setRow N (put20 (put20 ROW (i * 2) [x]) ((i + 1) * 2) (l.drop i))) := fun W hW ty dc sc => by
    have h := cp20_up N ⟨g, i * 2, none⟩ ((i + 1) * 2) (n - i) (n - i) dc sc (l.drop i) W (put20 ROW (i * 2) [x]) ty (by rw [hd, Nat.min_self]) (by rw [hW]; exact setRow_heap _ _ _ _ _ _ r1)
      (src20 (w := W) (g := g) (cur := cur) (by rw [hW]; exact ((below_row B1 (Nat.le_refl _) _).block g hgl).trans hg) hcl) (by rw [put20_size (by show i * 2 + 1 * 2 ≤ _; omega), hd]; omega)
    rw [hd] at h
    exact h
  have HD := Lib.hid (grow_done (cur := ROW) (x := x) (Nat.le_of_lt hi) hG hln hR1 hR2)
  have HE : Hid (∀ W : World, W.heap = (((w.drew.alloc (.cells ROW 51)).setRow N (put20 ROW (i * 2) [x])).setRow N (put20 (put20 ROW (i * 2) [x]) ((i + 1) * 2) (l.drop i))).heap → W.os = w.os → W.tape = w.tape → W.output = w.output →
      W.heap[N]? = some (.cells (put20 (put20 ROW (i * 2) [x]) ((i + 1) * 2) (l.drop i)) 51 (0, 0)) ∧ Below N w W) := fun W h1 h2 h3 h4 => by
    have b2 := below_row (below_row B1 (Nat.le_refl N) (put20 ROW (i * 2) [x])) (Nat.le_refl N) (put20 (put20 ROW (i * 2) [x]) ((i + 1) * 2) (l.drop i))
    refine ⟨?_, h2, h3, h4, ?_, ?_⟩
    · rw [h1]; exact setRow_heap _ _ _ _ _ _ (setRow_heap _ _ _ _ _ _ r1)
    · rw [h1]; exact b2.size
    · intro k hk
      rw [h1]; exact b2.block k hk
  generalize put20 (put20 ROW (i * 2) [x]) ((i + 1) * 2) (l.drop i) = C2 at *
  generalize put20 ROW (i * 2) [x] = C1 at *
  have mixed : Try.prog.follows Departure.mixedOrders = true := by kernel_rfl
  obtain ⟨hb2, hb4, hGi, hGi', hg63⟩ := cap20 hi hG hGm
  have HM := Lib.hid hGm
  have hA := fun ty dc => hcpA (w.alloc (.cells ROW 51)).drew rfl ty dc
  have hB := fun ty dc sc => hcpB ((w.alloc (.cells ROW 51)).drew.setRow N C1).drew rfl ty dc sc
  clear hcl hg hx hl hln hd hR1 hR2 r1 B1 hGm hgl hvb hcpA hcpB
  go_enter Try.func33, Try.ntmps33
  go_wp2_with (at_builtin; refine Lib.wpList_append_run _ rfl _ _ _ _ rfl _ _ rfl rfl _ _ (hrz _) ?_)
  go_region
  go_wp2
  go_returns
  obtain ⟨E1, E2⟩ := HE.out (((w.alloc (.cells ROW 51)).drew.setRow N C1).drew.setRow N C2) rfl rfl rfl rfl
  exact ⟨C2, G, rfl, hG, HM.out, E1, HD.out.1, HD.out.2, E2⟩

set_option maxRecDepth 100000 in
set_option maxHeartbeats 4000000 in
/-- At the end: an append. -/
theorem ins20_end (v0 : Option Addr) (c : Nat) (l : List Hd) (x : Hd) (w : World) (base : Nat) (hbase : base ≤ w.heap.size) (hl : l.length ≤ 1000)
    (hown : w.ownsRow base 51 2 (.slice v0 l.length c) l.length (Hd_.flat l)) (hc0 : v0 = none → c = 0) (hle : l.length ≤ c) (vb : Nat) (hx : Hd_.Box w vb x) :
    Calls Try.prog 33 #[.slice v0 l.length c, .int .i64 (l.length : Int), .slice (some ⟨vb, 0, none⟩) 1 1] w fun e w' =>
      ∃ v', e = .returned v' ∧ w'.ownsRow base 51 2 v' (l.length + 1) (Hd_.flat (l ++ [x])) ∧ Below base w w' := by
  have HI := Lib.hid (info_parts Hd_.info)
  have HO := Lib.hid hown
  have HX := Lib.hid (src20x hx)
  have HX2 : Hid (∀ ad, some (⟨vb, 0, none⟩ : Addr) = some ad → ∀ j u, (Hd_.flat [x])[j]? = some u → w.cell? (ad.add j) = some u) := fun ad e j u hu => by cases e; exact HX.out j u hu
  have HL := Lib.hid hl
  have HM1 : Hid (l.length + 1 ≤ maxLen) := by show l.length + 1 ≤ maxLen; unfold maxLen; omega
  have HM2 : Hid ((l.length + 1) * 24 ≤ 140737488355328) := by show (l.length + 1) * 24 ≤ 140737488355328; omega
  have HB := Lib.hid hbase
  have HC := Lib.hid hc0
  clear hown hx hl hbase hc0
  generalize hn : l.length = n at *
  have HN := Lib.hid hn
  clear hn
  have fin : Hid (∀ (v' : Value) (w1 : World), w1.ownsRow base 51 2 v' (n + 1) (Hd_.flat l ++ Hd_.flat [x]) → w.grownBy w1 (Value.ownBlock (.slice v0 n c)) → w1.ownsRow base 51 2 v' (n + 1) (Hd_.flat (l ++ [x])) ∧ Below base w w1) := fun v' w1 h1 h2 => by
    refine ⟨by rw [Hd_.flat_append]; exact h1, (Below.refl _ _).grown h2 HB.out (fun k hk => (HO.out.lt k hk).1)⟩
  cases v0 with
  | none =>
    obtain rfl := HC.out rfl
    obtain rfl : n = 0 := by omega
    go_enter Try.func33, Try.ntmps33
    go_wp2_with (at_builtin; obtain ⟨i0, hi, hz0, hz1, hz2⟩ := HI.out; refine wpList_append_any _ rfl _ _ 23 rfl base 51 i0 (.agg #[.int .i64 0, .string ⟨#[]⟩]) 2 24 Try.underlying23 hi hz0 hz1 hz2 rfl (by decide) _ _ _ rfl HO.out (some ⟨vb, 0, none⟩) 1 1 (Hd_.flat [x]) rfl rfl (fun h => nomatch h) HX2.out (Hd_.flat_ones [x]) HM1.out HM2.out HB.out ?_)
    intro v' w1 hown hgrow
    have R := Lib.hid (fin.out v' w1 hown hgrow)
    clear hown hgrow hi hz0 hz1 hz2
    go_wp2
    go_returns
    exact ⟨_, rfl, R.out.1, R.out.2⟩
  | some a =>
    obtain ⟨g, rfl⟩ : ∃ g, a = ⟨g, 0, none⟩ := by
      obtain ⟨_, ⟨h1, h2⟩ | ⟨g', cap', cur, h1, _⟩⟩ := HO.out
      · injection h1 with e1 e2 e3; cases e1
      · injection h1 with e1 e2 e3; exact ⟨g', Option.some.inj e1⟩
    have hc63 : n ≤ 1000 := HL.out
    by_cases hcn : c = n
    · subst hcn
      go_enter Try.func33, Try.ntmps33
      go_wp2_with (at_builtin; obtain ⟨i0, hi, hz0, hz1, hz2⟩ := HI.out; refine wpList_append_any _ rfl _ _ 23 rfl base 51 i0 (.agg #[.int .i64 0, .string ⟨#[]⟩]) 2 24 Try.underlying23 hi hz0 hz1 hz2 rfl (by decide) _ _ _ rfl HO.out (some ⟨vb, 0, none⟩) 1 1 (Hd_.flat [x]) rfl rfl (fun h => nomatch h) HX2.out (Hd_.flat_ones [x]) HM1.out HM2.out HB.out ?_)
      intro v' w1 hown hgrow
      have R := Lib.hid (fin.out v' w1 hown hgrow)
      clear hown hgrow hi hz0 hz1 hz2
      go_wp2
      go_returns
      exact ⟨_, rfl, R.out.1, R.out.2⟩
    · have hcn' : ¬ n = c := fun e => hcn e.symm
      go_enter Try.func33, Try.ntmps33
      go_wp2_with (at_builtin; obtain ⟨i0, hi, hz0, hz1, hz2⟩ := HI.out; refine wpList_append_any _ rfl _ _ 23 rfl base 51 i0 (.agg #[.int .i64 0, .string ⟨#[]⟩]) 2 24 Try.underlying23 hi hz0 hz1 hz2 rfl (by decide) _ _ _ rfl HO.out (some ⟨vb, 0, none⟩) 1 1 (Hd_.flat [x]) rfl rfl (fun h => nomatch h) HX2.out (Hd_.flat_ones [x]) HM1.out HM2.out HB.out ?_)
      intro v' w1 hown hgrow
      have R := Lib.hid (fin.out v' w1 hown hgrow)
      clear hown hgrow hi hz0 hz1 hz2
      go_wp2
      go_returns
      exact ⟨_, rfl, R.out.1, R.out.2⟩

/-- Insert into a row of one's own. -/
theorem insert20_any (v : Value) (l : List Hd) (i : Nat) (x : Hd) (base : Nat) (w : World) (hown : w.ownsRow base 51 2 v l.length (Hd_.flat l)) (hbase : base ≤ w.heap.size) (hi : i ≤ l.length) (hl : l.length ≤ 1000) (vb : Nat) (hx : Hd_.Box w vb x) (hvb : v.ownBlock ≠ some vb) :
    Calls Try.prog 33 #[v, .int .i64 (i : Int), .slice (some ⟨vb, 0, none⟩) 1 1] w fun e w' =>
      ∃ v', e = .returned v' ∧ w'.ownsRow base 51 2 v' (l.length + 1) (Hd_.flat (l.take i ++ x :: l.drop i)) ∧ Below base w w' := by
  have hfl : (Hd_.flat (l.take i ++ x :: l.drop i)).length = (l.length + 1) * 2 := by rw [Hd_.flat_len, List.length_append, List.length_cons, List.length_take, List.length_drop]; omega
  by_cases he : i = l.length
  · subst he
    obtain ⟨v0, c, rfl⟩ := Hd_.slice_form hown
    have hs := Hd_.sl_owns hown
    rw [List.take_length, List.drop_length]
    exact ins20_end v0 c l x w base hbase hl hown hs.nil hs.le vb hx
  · have hlt : i < l.length := by omega
    obtain ⟨h0, ⟨h1, h2⟩ | ⟨g, cap, cur, rfl, hb, hg, hnc, hcm, hcs, hct⟩⟩ := hown
    · omega
    · have hvb' : vb ≠ g := fun e => hvb (by rw [e]; rfl)
      by_cases hr : l.length + 1 ≤ cap
      · refine (ins20_shift g l.length cap i l x w cur hlt hr (by unfold maxLen at hcm; omega) rfl hl hg hcs hct vb hx hvb').mono ?_
        rintro e w' ⟨cur', rfl, rfl, q1, q2⟩
        have h00 : Below base w w.drew := ⟨rfl, rfl, rfl, Nat.le_refl _, fun _ _ => rfl⟩
        exact ⟨_, rfl, ⟨hfl, .inr ⟨g, cap, cur', rfl, hb, setRow_heap _ _ _ _ _ _ hg, hr, hcm, q1, q2⟩⟩, below_row h00 hb _⟩
      · obtain rfl : cap = l.length := by omega
        refine (ins20_grow g l.length i l x w cur hlt rfl hl hg hct vb hx).mono ?_
        rintro e w' ⟨cur', G, rfl, q1, q2, q3, q4, q5, q6⟩
        exact ⟨_, rfl, ⟨hfl, .inr ⟨w.heap.size, G, cur', rfl, hbase, q3, q1, q2, q4, q5⟩⟩, q6.mono hbase⟩
end Go.Proofs.Yteffmfloopkmoaa
