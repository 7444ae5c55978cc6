/-
  WALKS of package queue: Push (its region 6 written by gen_branch.py with qu_conf.py by mkqu23.py).
-/
import Derived.Test.YtaljdjabppiglaaQuSep
import Derived.Test.YtaljdjabppiglaaAppStep
import Derived.Deep.RegionWith
import Derived.Deep.DeepCutAuto
import Derived.Deep.RegionHeld
import Derived.Deep.MidRow
namespace Go.Proofs.Ytaljdjabppiglaa
open Go.RowKit Go.Qu Go.Wr Go.Ad
attribute [local go_sem ↓ high] Ix_.loadF Ix_.storeF Ix_.v_cells Ix_.v_match
attribute [local go_sem] Ix_.C0 Ix_.C1 Ix_.C2 Ix_.C3 Ix_.C4 Ix_.C5 Ix_.C6 Ix_.loadF_new Ix_.storeF_zero Oper.semAt_some fold_c Ix_.Csize

/-- The item that came in, in its cell. -/
structure Ps (w : World) (x : It) (wi : World) : Prop where
  bx : Ix_.Box wi w.heap.size x
  bel : Below w.heap.size w wi
theorem Ps.keep {w wi wj : World} {x : It} (h : Ps w x wi) (hb : Below wi.heap.size wi wj) : Ps w x wj := ⟨h.bx.below hb h.bx.lt, h.bel.trans (hb.mono h.bel.size)⟩
/-- And a row of the call's own. -/
structure Pc (w : World) (x : It) (base : Nat) (v : Value) (l : List It) (wi : World) : Prop where
  ps : Ps w x wi
  own : wi.ownsRow base 28 7 v l.length (It_.flat l)
  lo : w.heap.size < base
  hi : base ≤ wi.heap.size
/-- And the item in a cell of a row of one. -/
structure Pt (w : World) (x : It) (gt : Nat) (wi : World) : Prop where
  ps : Ps w x wi
  t : Ix_.Box wi gt x
structure Pq (w : World) (x : It) (gt base : Nat) (v : Value) (l : List It) (wi : World) : Prop where
  pc : Pc w x base v l wi
  t : Ix_.Box wi gt x
theorem Ps.call {w wi wj : World} {x : It} {v : Value} {l : List It} (h : Ps w x wi) (o : OwnIt wi wj v l) : Pc w x wi.heap.size v l wj := ⟨h.keep o.2, o.1, h.bx.lt, o.2.size⟩
theorem Pt.call {w wi wj : World} {x : It} {gt : Nat} {v : Value} {l : List It} (h : Pt w x gt wi) (o : OwnIt wi wj v l) : Pq w x gt wi.heap.size v l wj := ⟨h.ps.call o, h.t.below o.2 h.t.lt⟩
theorem Ps.tmp {w wi : World} {x : It} (h : Ps w x wi) : ∃ gt w', wi.heap.size = gt ∧ wi.alloc (.cells (Ix_.C x) 28) = w' ∧ Pt w x gt w' :=
  ⟨_, _, rfl, rfl, h.keep ((Below.refl _ _).alloc (Nat.le_refl _) _), Ix_.Box.new wi x⟩
theorem Pc.tmp {w wi : World} {x : It} {base : Nat} {v : Value} {l : List It} (h : Pc w x base v l wi) : ∃ gt w', wi.heap.size = gt ∧ wi.alloc (.cells (Ix_.C x) 28) = w' ∧ Pq w x gt base v l w' :=
  ⟨_, _, rfl, rfl, ⟨h.ps.keep ((Below.refl _ _).alloc (Nat.le_refl _) _), h.own.alloc _, h.lo, by have := h.hi; simp; omega⟩, Ix_.Box.new wi x⟩
theorem Pq.news {w wi : World} {x : It} {gt base : Nat} {v : Value} {l : List It} (h : Pq w x gt base v l wi) : ∀ j u, (It_.cs x)[j]? = some u → wi.cell? ((⟨gt, 0, none⟩ : Addr).add j) = some u := by
  intro j u hj
  have e : (⟨gt, 0, none⟩ : Addr).add j = ⟨gt, j, none⟩ := by unfold Addr.add; split <;> simp_all
  rw [e, h.t.all j, ← hj]
  show (Ix_.C x)[j]? = (Ix_.C x).toList[j]?
  simp
theorem Pq.fin {w wi wj : World} {x : It} {gt base : Nat} {v v4 : Value} {l : List It} (h : Pq w x gt base v l wi) (ho : wj.ownsRow base 28 7 v4 (l.length + 1) (It_.flat l ++ It_.cs x)) (hg : wi.grownBy wj v.ownBlock) : (Ix_.LoadF ⟨w.heap.size, 0, none⟩).run Try.prog wj = .ok (Ix_.v x) wj ∧ OwnIt w wj v4 (l ++ [x]) := by
  have hlo := h.pc.lo
  refine ⟨Ix_.Box.loadF (W := wj) (b := w.heap.size) ((hg.block _ h.pc.ps.bx.lt (fun e => by have := (owns_blk23 h.pc.own e.symm).1; omega)).trans h.pc.ps.bx), ?_, h.pc.ps.bel.grown hg h.pc.ps.bel.size (fun k hk => by have := (owns_blk23 h.pc.own hk).1; omega)⟩
  rw [It_.flat_snoc, List.length_append]
  exact owns_up23 ho (by omega)
theorem nil_own (w w' : World) (h : Below w.heap.size w w') : OwnIt w w' (.slice none 0 0) [] := ⟨World.ownsRow_nil _ _ _ _, h⟩
theorem psh_bad {l : List It} {x : It} {m : Int} (h : cnx l x ≠ 0) : psh l x m = ([], cnx l x) := if_neg h
theorem psh_full {l : List It} {x : It} {m : Int} (h : cnx l x = 0) (h2 : min m 64 ≤ l.length) : psh l x m = ([], 6) := (if_pos h).trans (if_pos h2)
theorem psh_ok {l : List It} {x : It} {m : Int} (h : cnx l x = 0) (h2 : ¬ min m 64 ≤ l.length) : psh l x m = (l ++ [x], 0) := (if_pos h).trans (if_neg h2)

set_option maxRecDepth 100000 in
set_option maxHeartbeats 2000000 in
theorem qu_push_any (sa : Option Addr) (l : List It) (c : Nat) (x : It) (m : Int) (w : World) (hx : Wf x) (hS : It_.Sl w sa l c) (hl : l.length ≤ 1000) :
    Calls Try.prog 8 #[.slice sa l.length c, Ix_.v x, .int .i64 m] w fun e w' => ∃ v, e = .returned (.tuple #[v, .int .i64 (psh l x m).2]) ∧ OwnIt w w' v (psh l x m).1 := by
  obtain ⟨w1, hw1⟩ : ∃ w1, w.alloc (.cells (Ix_.C x) 28) = w1 := ⟨_, rfl⟩
  have hb : Ix_.Box w1 w.heap.size x := hw1 ▸ Ix_.Box.new w x
  have B1 : Below w.heap.size w w1 := hw1 ▸ (Below.refl _ _).alloc (Nat.le_refl _) _
  have HB := Lib.hid (show Ps w x w1 from ⟨hb, B1⟩)
  have l1 := hb.loadF
  have CN := Lib.hid (cnx_any x sa l c w1 hx (hS.below B1) hl)
  have HI := Lib.hid (info_parts It_.info)
  have CC := Lib.hid (fun W (h : Below w.heap.size w W) => clone23_any sa l c W (hS.below h) hl)
  have HL := Lib.hid hl
  clear hb B1 hx hS hl
  by_cases hK : cnx l x = 0
  case neg =>
    have HP := Lib.hid (psh_bad (m := m) hK)
    have hK' : (cnx l x != 0) = true := by simpa using hK
    rw [HP.out]
    generalize cnx l x = K at *
    clear HP hK
    go_enter Try.func8, Try.ntmps8
    go_wp2_with (go_at_call 30; refine CN.out.mono ?_; rintro e w2 ⟨rfl, h⟩; replace HB := Lib.hid (HB.out.keep h); clear h)
    go_returns
    exact ⟨_, rfl, nil_own _ _ HB.out.bel⟩
  rw [hK] at CN
  by_cases hM : min m 64 ≤ l.length
  · rw [psh_full hK hM]
    have hM' : min m 64 ≤ (l.length : Int) := hM
    clear hK hM
    go_enter Try.func8, Try.ntmps8
    go_wp2_with (go_at_call 30; refine CN.out.mono ?_; rintro e w2 ⟨rfl, h⟩; replace HB := Lib.hid (HB.out.keep h); clear h)
    go_returns
    exact ⟨_, rfl, nil_own _ _ HB.out.bel⟩
  · rw [psh_ok hK hM]
    have hM' : ¬ min m 64 ≤ (l.length : Int) := hM
    clear hK hM
    go_enter Try.func8, Try.ntmps8
    go_wp2_with (go_at_call 30; refine CN.out.mono ?_; rintro e w2 ⟨rfl, h⟩; replace HB := Lib.hid ((HB.out.keep h).keep (wj := w2.drew) ⟨rfl, rfl, rfl, Nat.le_refl _, fun _ _ => rfl⟩); clear h)
    refine wp_region_held_drew (S := (fun w' => (Ix_.LoadF ⟨w.heap.size, 0, none⟩).run Try.prog w' = .ok (Ix_.v x) w')) (by kernel_rfl) ?_ (fun hHeld => ?_)
    · exact HB.out.bx.loadF
    refine wpAnyH_take (i := 0) (oi := { dst := some 20, op := Op.move (Operand.tmp 0), type := 24, pos := "queue.go:32", after := #[], guard := none }) (v := ?v1) rfl (by kernel_rfl) (by kernel_rfl) (by kernel_rfl) (fun _ _ _ h => h) (Or.inl ⟨by rfl, ?y1⟩) hHeld ?r1
    case y1 => (intro w hSw; (try dsimp only at hSw); go_simp; try with_reducible rfl)
    try simp only [Act.put, List.setIfInBounds_toArray, List.set_cons_zero, List.set_cons_succ]
    refine wpAnyH_take (i := 2) (oi := { dst := some 22, op := Op.load 28 (Operand.tmp 4), type := 28, pos := "queue.go:32", after := #[], guard := none }) (v := ?v2) rfl (by kernel_rfl) (by kernel_rfl) (by kernel_rfl) (fun _ _ _ h => h) (Or.inl ⟨by rfl, ?y2⟩) hHeld ?r2
    case y2 => (intro w hSw; (try dsimp only at hSw); go_simp; try with_reducible rfl)
    try simp only [Act.put, List.setIfInBounds_toArray, List.set_cons_zero, List.set_cons_succ]
    refine wpAnyH_ready (rs := [1, 3]) (by kernel_rfl) (by simp) ?_
    refine AllReadyH.cons (o := { dst := some 21, op := Op.call { callee := Callee.value (Operand.func 31), args := #[Operand.tmp 20], argTypes := #[24] }, type := 24, pos := "queue.go:32", after := #[{ on := 0, ground := Ground.data }], guard := none }) rfl (fun K hK => ?_) ?_
    · clear hHeld
      go_simp
      go_at_call 31
      first
        | (with_reducible refine (CC.out _ HB.out.bel).mono ?_; rintro e w2 ⟨v', rfl, hO⟩; have HC := Lib.hid (HB.out.call hO); clear HB hO)
        | (with_reducible refine (CC.out _ HT.out.ps.bel).mono ?_; rintro e w2 ⟨v', rfl, hO⟩; have HQ := Lib.hid (HT.out.call hO); clear HT hO)
      refine hK.out _ _ ?_ (fun hHeld => ?_)
      · first | exact HB.out.bx.loadF | exact HT.out.ps.bx.loadF | exact HC.out.ps.bx.loadF | exact HQ.out.pc.ps.bx.loadF | exact HZ.out.1
      clear hK K
      try simp only [Act.put, List.setIfInBounds_toArray, List.set_cons_zero, List.set_cons_succ]
      refine wpAnyH_ready (rs := [3]) (by kernel_rfl) (by simp) ?_
      refine AllReadyH.cons (o := { dst := some 23, op := Op.buildSlice 24 1 #[(0, Operand.tmp 22)], type := 24, pos := "queue.go:32", after := #[{ on := 2, ground := Ground.data }], guard := none }) rfl (fun K hK => ?_) ?_
      · clear hHeld
        first
          | (obtain ⟨gt, w7, e1, e2, hs⟩ := HB.out.tmp; go_simp; (try simp only [e1, e2]); have HT := Lib.hid hs; clear HB)
          | (obtain ⟨gt, w7, e1, e2, hs⟩ := HC.out.tmp; go_simp; (try simp only [e1, e2]); have HQ := Lib.hid hs; clear HC)
        clear hs e1 e2
        refine hK.out _ _ ?_ (fun hHeld => ?_)
        · first | exact HB.out.bx.loadF | exact HT.out.ps.bx.loadF | exact HC.out.ps.bx.loadF | exact HQ.out.pc.ps.bx.loadF | exact HZ.out.1
        clear hK K
        try simp only [Act.put, List.setIfInBounds_toArray, List.set_cons_zero, List.set_cons_succ]
        refine wpAnyH_ready (rs := [4]) (by kernel_rfl) (by simp) ?_
        refine AllReadyH.cons (o := { dst := some 24, op := Op.call { callee := Callee.builtin Builtin.append, args := #[Operand.tmp 21, Operand.tmp 23], argTypes := #[24, 24] }, type := 24, pos := "queue.go:32", after := #[{ on := 1, ground := Ground.data }, { on := 3, ground := Ground.data }, { on := 1, ground := Ground.chain }], guard := none }) rfl (fun K hK => ?_) ?_
        · clear hHeld
          obtain ⟨i0, hi0, hz0, hz1, hz2⟩ := HI.out
          refine step_append_any16 _ rfl (.tmp 21) (.tmp 23) 24 rfl _ 28 i0 (.agg #[.int .i64 0, .int .i64 0, .int .u64 0, .int .u64 0, .string ⟨#[]⟩, .int .i64 0, .int .i64 0]) 7 64 Try.underlying24 hi0 hz0 hz1 hz2 rfl (by decide) v' l.length (It_.flat l) (by simp [Act.eval]) HQ.out.pc.own (some ⟨gt, 0, none⟩) 1 1 (It_.cs x) (by simp [Act.eval]) rfl (fun e => by cases e) (fun ad e => by cases e; exact HQ.out.news) (It_.flat_one x) (by have := HL.out; unfold maxLen; omega) (by have := HL.out; omega) HQ.out.pc.hi ?_
          intro v4 w4 hown hgrow
          have HZ := Lib.hid (HQ.out.fin hown hgrow)
          clear hi0 hz0 hz1 hz2 hown hgrow
          refine hK.out _ _ ?_ (fun hHeld => ?_)
          · first | exact HB.out.bx.loadF | exact HT.out.ps.bx.loadF | exact HC.out.ps.bx.loadF | exact HQ.out.pc.ps.bx.loadF | exact HZ.out.1
          clear hK K
          try simp only [Act.put, List.setIfInBounds_toArray, List.set_cons_zero, List.set_cons_succ]
          refine wpAnyH_take (i := 5) (oi := { dst := some 6, op := Op.assign (Operand.tmp 24), type := 24, pos := "queue.go:32", after := #[{ on := 4, ground := Ground.data }, { on := 4, ground := Ground.chain }, { on := 0, ground := Ground.phase }, { on := 1, ground := Ground.phase }, { on := 2, ground := Ground.phase }, { on := 3, ground := Ground.phase }, { on := 4, ground := Ground.phase }], guard := none }) (v := ?v3) rfl (by kernel_rfl) (by kernel_rfl) (by kernel_rfl) (fun _ _ _ h => h) (Or.inl ⟨by rfl, ?y3⟩) hHeld ?r3
          case y3 => (intro w hSw; (try dsimp only at hSw); go_simp; try with_reducible rfl)
          try simp only [Act.put, List.setIfInBounds_toArray, List.set_cons_zero, List.set_cons_succ]
          refine wpAnyH_take (i := 6) (oi := { dst := some 7, op := Op.assign (Operand.const (Value.int IntKind.i64 0)), type := 31, pos := "queue.go:32", after := #[{ on := 5, ground := Ground.chain }, { on := 0, ground := Ground.phase }, { on := 1, ground := Ground.phase }, { on := 2, ground := Ground.phase }, { on := 3, ground := Ground.phase }, { on := 4, ground := Ground.phase }, { on := 5, ground := Ground.phase }], guard := none }) (v := ?v4) rfl (by kernel_rfl) (by kernel_rfl) (by kernel_rfl) (fun _ _ _ h => h) (Or.inl ⟨by rfl, ?y4⟩) hHeld ?r4
          case y4 => (intro w hSw; (try dsimp only at hSw); go_simp; try with_reducible rfl)
          try simp only [Act.put, List.setIfInBounds_toArray, List.set_cons_zero, List.set_cons_succ]
          refine wpAnyH_done (by kernel_rfl) ?_ _
          go_wp2
          go_returns
          exact ⟨v4, rfl, HZ.out.2⟩
        exact AllReadyH.nil
      exact AllReadyH.nil
    refine AllReadyH.cons (o := { dst := some 23, op := Op.buildSlice 24 1 #[(0, Operand.tmp 22)], type := 24, pos := "queue.go:32", after := #[{ on := 2, ground := Ground.data }], guard := none }) rfl (fun K hK => ?_) ?_
    · clear hHeld
      first
        | (obtain ⟨gt, w7, e1, e2, hs⟩ := HB.out.tmp; go_simp; (try simp only [e1, e2]); have HT := Lib.hid hs; clear HB)
        | (obtain ⟨gt, w7, e1, e2, hs⟩ := HC.out.tmp; go_simp; (try simp only [e1, e2]); have HQ := Lib.hid hs; clear HC)
      clear hs e1 e2
      refine hK.out _ _ ?_ (fun hHeld => ?_)
      · first | exact HB.out.bx.loadF | exact HT.out.ps.bx.loadF | exact HC.out.ps.bx.loadF | exact HQ.out.pc.ps.bx.loadF | exact HZ.out.1
      clear hK K
      try simp only [Act.put, List.setIfInBounds_toArray, List.set_cons_zero, List.set_cons_succ]
      refine wpAnyH_ready (rs := [1]) (by kernel_rfl) (by simp) ?_
      refine AllReadyH.cons (o := { dst := some 21, op := Op.call { callee := Callee.value (Operand.func 31), args := #[Operand.tmp 20], argTypes := #[24] }, type := 24, pos := "queue.go:32", after := #[{ on := 0, ground := Ground.data }], guard := none }) rfl (fun K hK => ?_) ?_
      · clear hHeld
        go_simp
        go_at_call 31
        first
          | (with_reducible refine (CC.out _ HB.out.bel).mono ?_; rintro e w2 ⟨v', rfl, hO⟩; have HC := Lib.hid (HB.out.call hO); clear HB hO)
          | (with_reducible refine (CC.out _ HT.out.ps.bel).mono ?_; rintro e w2 ⟨v', rfl, hO⟩; have HQ := Lib.hid (HT.out.call hO); clear HT hO)
        refine hK.out _ _ ?_ (fun hHeld => ?_)
        · first | exact HB.out.bx.loadF | exact HT.out.ps.bx.loadF | exact HC.out.ps.bx.loadF | exact HQ.out.pc.ps.bx.loadF | exact HZ.out.1
        clear hK K
        try simp only [Act.put, List.setIfInBounds_toArray, List.set_cons_zero, List.set_cons_succ]
        refine wpAnyH_ready (rs := [4]) (by kernel_rfl) (by simp) ?_
        refine AllReadyH.cons (o := { dst := some 24, op := Op.call { callee := Callee.builtin Builtin.append, args := #[Operand.tmp 21, Operand.tmp 23], argTypes := #[24, 24] }, type := 24, pos := "queue.go:32", after := #[{ on := 1, ground := Ground.data }, { on := 3, ground := Ground.data }, { on := 1, ground := Ground.chain }], guard := none }) rfl (fun K hK => ?_) ?_
        · clear hHeld
          obtain ⟨i0, hi0, hz0, hz1, hz2⟩ := HI.out
          refine step_append_any16 _ rfl (.tmp 21) (.tmp 23) 24 rfl _ 28 i0 (.agg #[.int .i64 0, .int .i64 0, .int .u64 0, .int .u64 0, .string ⟨#[]⟩, .int .i64 0, .int .i64 0]) 7 64 Try.underlying24 hi0 hz0 hz1 hz2 rfl (by decide) v' l.length (It_.flat l) (by simp [Act.eval]) HQ.out.pc.own (some ⟨gt, 0, none⟩) 1 1 (It_.cs x) (by simp [Act.eval]) rfl (fun e => by cases e) (fun ad e => by cases e; exact HQ.out.news) (It_.flat_one x) (by have := HL.out; unfold maxLen; omega) (by have := HL.out; omega) HQ.out.pc.hi ?_
          intro v4 w4 hown hgrow
          have HZ := Lib.hid (HQ.out.fin hown hgrow)
          clear hi0 hz0 hz1 hz2 hown hgrow
          refine hK.out _ _ ?_ (fun hHeld => ?_)
          · first | exact HB.out.bx.loadF | exact HT.out.ps.bx.loadF | exact HC.out.ps.bx.loadF | exact HQ.out.pc.ps.bx.loadF | exact HZ.out.1
          clear hK K
          try simp only [Act.put, List.setIfInBounds_toArray, List.set_cons_zero, List.set_cons_succ]
          refine wpAnyH_take (i := 5) (oi := { dst := some 6, op := Op.assign (Operand.tmp 24), type := 24, pos := "queue.go:32", after := #[{ on := 4, ground := Ground.data }, { on := 4, ground := Ground.chain }, { on := 0, ground := Ground.phase }, { on := 1, ground := Ground.phase }, { on := 2, ground := Ground.phase }, { on := 3, ground := Ground.phase }, { on := 4, ground := Ground.phase }], guard := none }) (v := ?v5) rfl (by kernel_rfl) (by kernel_rfl) (by kernel_rfl) (fun _ _ _ h => h) (Or.inl ⟨by rfl, ?y5⟩) hHeld ?r5
          case y5 => (intro w hSw; (try dsimp only at hSw); go_simp; try with_reducible rfl)
          try simp only [Act.put, List.setIfInBounds_toArray, List.set_cons_zero, List.set_cons_succ]
          refine wpAnyH_take (i := 6) (oi := { dst := some 7, op := Op.assign (Operand.const (Value.int IntKind.i64 0)), type := 31, pos := "queue.go:32", after := #[{ on := 5, ground := Ground.chain }, { on := 0, ground := Ground.phase }, { on := 1, ground := Ground.phase }, { on := 2, ground := Ground.phase }, { on := 3, ground := Ground.phase }, { on := 4, ground := Ground.phase }, { on := 5, ground := Ground.phase }], guard := none }) (v := ?v6) rfl (by kernel_rfl) (by kernel_rfl) (by kernel_rfl) (fun _ _ _ h => h) (Or.inl ⟨by rfl, ?y6⟩) hHeld ?r6
          case y6 => (intro w hSw; (try dsimp only at hSw); go_simp; try with_reducible rfl)
          try simp only [Act.put, List.setIfInBounds_toArray, List.set_cons_zero, List.set_cons_succ]
          refine wpAnyH_done (by kernel_rfl) ?_ _
          go_wp2
          go_returns
          exact ⟨v4, rfl, HZ.out.2⟩
        exact AllReadyH.nil
      exact AllReadyH.nil
    exact AllReadyH.nil
end Go.Proofs.Ytaljdjabppiglaa
