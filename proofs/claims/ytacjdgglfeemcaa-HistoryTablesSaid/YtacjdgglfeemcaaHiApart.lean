/-
  THE LAW HistoryApart.
-/
import Derived.Test.YtacjdgglfeemcaaHiRun
import Derived.Test.YtacjdgglfeemcaaHiLives
namespace Go.Proofs.Ytacjdgglfeemcaa
open Go.RowKit Go.Hi
attribute [local go_sem ↓ high] Lw_.loadF Lw_.storeF Lw_.v_cells Lw_.v_match
attribute [local go_sem] Lw_.loadF_new Lw_.storeF_zero Lw_.guard Lw_.guard_lit

theorem get_put_same {M : Tb} (h : Ok M) {p : Int} (hp : (Lit.int .u64 p).wf = true) {k : Int} (hk : isF k = true) (x : La) : get (put M p k x) p k = x := by
  obtain ⟨q, rfl, hq⟩ := isF_nat hk
  unfold Hi.get put
  rw [if_pos hk, if_pos hk, look_ins h hp, if_pos rfl, Int.toNat_natCast, get_set _ _ _ hq hq, if_pos rfl]
theorem get_put_other {M : Tb} (h : Ok M) {p r : Int} (hp : (Lit.int .u64 p).wf = true) (hr : r ≠ p) (k j : Int) (x : La) : get (put M p k x) r j = get M r j := by
  unfold Hi.get put
  split
  · split
    · rw [look_ins h hp, if_neg hr]
    · rfl
  · rfl
theorem get_drp_same {M : Tb} (h : Ok M) (p k : Int) : get (drp M p) p k = zl := by
  unfold Hi.get
  rw [look_drp h, if_pos rfl, zf_get]
  split <;> rfl
theorem get_drp_other {M : Tb} (h : Ok M) {p r : Int} (hr : r ≠ p) (k : Int) : get (drp M p) r k = get M r k := by
  unfold Hi.get
  rw [look_drp h, if_neg hr]

/-- The run of the law's calls on a table of its own. -/
theorem run_new (l : List Oq) (sa : Option Addr) (c : Nat) {W : World} (hs : Oq_.Sl W sa l c) (hw : ∀ x ∈ l, (Lit.int .u64 x.p).wf = true) (hl : l.length ≤ 30) :
    Calls Try.prog 11 #[.map (some W.heap.size), .slice sa l.length c] (W.alloc (.map #[] 0)) fun e w' => ∃ v0 c', e = .returned (.slice v0 (runM l).length c') ∧ Tab w' W.heap.size l.length (runM l) ∧ Sb w' W.heap.size v0 (runM l) ∧ Below W.heap.size W w' := by
  have hb : Below W.heap.size W (W.alloc (.map #[] 0)) := (Below.refl _ _).alloc (Nat.le_refl _) _
  refine (run_any l sa c W.heap.size (hs.below hb) hw (by omega) (Tab.made W) (fun hne g o e => ?_)).mono ?_
  · have h0 : 0 < l.length := List.length_pos_iff.2 hne
    obtain ⟨b', o', e', hl', _⟩ := hs.lies 0 h0
    rw [e] at e'
    cases e'
    omega
  · rintro e w' ⟨v0, c', he, hr⟩
    exact ⟨v0, c', he, hr.tab, hr.sb, hb.grown hr.gr (by simp) (fun k e => by cases e; exact Nat.le_refl _)⟩

set_option maxRecDepth 100000 in
set_option maxHeartbeats 4000000 in
theorem apart_any (l : List Oq) (sa : Option Addr) (c : Nat) {W : World} (hs : Oq_.Sl W sa l c) (hw : ∀ x ∈ l, (Lit.int .u64 x.p).wf = true) (x y : Int) (hx : (Lit.int .u64 x).wf = true) (hy : (Lit.int .u64 y).wf = true) :
    Calls Try.prog 6 #[.slice sa l.length c, .int .u64 x, .int .u64 y] W fun e W' => e = .returned (.bool true) ∧ Below W.heap.size W W' := by
  have CL := Lib.hid lives19_any
  by_cases h30 : l.length ≤ 30
  case neg =>
    have hd : decide ((30 : Int) < (l.length : Int)) = true := decide_eq_true (by omega)
    clear hs hw hx hy
    go_enter Try.func6, Try.ntmps6
    go_wp2_with (go_at_call 10; refine (CL.out _).mono ?_; rintro e w2 ⟨rfl, h⟩; have B2 := Lib.hid h; clear h)
    go_returns
    exact ⟨rfl, B2.out⟩
  have hd : ¬ (30 : Int) < (l.length : Int) := by omega
  have hd' : decide ((30 : Int) < (l.length : Int)) = false := decide_eq_false hd
  by_cases hxy : x = y
  case pos =>
    have he : (x == y) = true := by rw [beq_iff_eq]; exact hxy
    clear hs hw hx hy hxy
    go_enter Try.func6, Try.ntmps6
    go_wp2_with (go_at_call 10; refine (CL.out _).mono ?_; rintro e w2 ⟨rfl, h⟩; have B2 := Lib.hid h; clear h)
    go_returns
    exact ⟨rfl, B2.out⟩
  have he : (x == y) = false := by rw [beq_eq_false_iff_ne]; exact hxy
  have hyx : y ≠ x := fun e => hxy e.symm
  have CR := Lib.hid (run_new l sa c hs hw h30)
  have hmm := @run_makeMap Try.prog
  obtain ⟨b, hb⟩ : ∃ b, W.heap.size = b := ⟨_, rfl⟩
  rw [hb] at CR
  have hFk : isF 2 = true := rfl
  have KEY : Hid (∀ M, Ok M → get (put M x 2 ⟨true, 3, 0⟩) x 2 = ⟨true, 3, 0⟩ ∧ get (put M x 2 ⟨true, 3, 0⟩) y 2 = get M y 2 ∧ get (drp (put M x 2 ⟨true, 3, 0⟩) x) x 2 = zl ∧ get (drp (put M x 2 ⟨true, 3, 0⟩) x) y 2 = get M y 2) := fun M h =>
    ⟨get_put_same h hx hFk _, get_put_other h hx hyx _ _ _, get_drp_same (ok_put h hx _ _) _ _, (get_drp_other (ok_put h hx _ _) hyx _).trans (get_put_other h hx hyx _ _ _)⟩
  have q1 : ∀ w, (binOp .neq 23 (Lw_.v ⟨true, 3, 0⟩) (.agg #[.bool true, .int .i64 3, .int .i64 0])).run Try.prog w = .ok (.bool false) w := fun w => Lw_.neq ⟨true, 3, 0⟩ ⟨true, 3, 0⟩ w
  have q2 : ∀ v w, (binOp .neq 23 (Lw_.v v) (Lw_.v v)).run Try.prog w = .ok (.bool false) w := fun v w => by rw [Lw_.neq, decide_eq_true rfl]; rfl
  have q3 : ∀ w, (binOp .eql 23 (Lw_.v zl) (.agg #[.bool false, .int .i64 0, .int .i64 0])).run Try.prog w = .ok (.bool true) w := fun w => by rw [Lw_.eql_lit]; rfl
  have q4 : ∀ v w, (binOp .eql 23 (Lw_.v v) (Lw_.v v)).run Try.prog w = .ok (.bool true) w := fun v w => by rw [Lw_.eql, decide_eq_true rfl]
  have g1 : ∀ w, (eqGuard .neq 23 (.tmp 31) (.tmp 32) (Lw_.v ⟨true, 3, 0⟩) (.agg #[.bool true, .int .i64 3, .int .i64 0])).run Try.prog w = .ok () w := fun w => Lw_.guard _ _ _ ⟨true, 3, 0⟩ ⟨true, 3, 0⟩ w
  have HX := Lib.hid hx
  have HY := Lib.hid hy
  have HN : Hid (l.length < 1000) := by show l.length < 1000; omega
  clear hs hw hx hy hxy hyx
  go_enter Try.func6, Try.ntmps6
  go_wp2_with fail
  refine CR.out.mono ?_
  rintro e w2 ⟨v0, c', rfl, ht, -, hbel⟩
  have T2 := Lib.hid ht
  have B2 := Lib.hid (show Below W.heap.size W w2 by rw [hb]; exact hbel)
  have KM := Lib.hid (KEY.out _ ht.ok)
  obtain ⟨h0, hh0⟩ : ∃ h0, get (runM l) y 2 = h0 := ⟨_, rfl⟩
  rw [hh0] at KM
  have CG : Hid (Calls Try.prog 13 #[.map (some b), .int .u64 y, .int .i64 2] w2 fun e w' => e = .returned (Lw_.v h0) ∧ Below w2.heap.size w2 w') := by
    have := hiGet_any y 2 w2 ht HY.out
    rwa [hh0] at this
  clear ht hbel CR KEY hh0
  go_wp2_with fail
  refine CG.out.mono ?_
  rintro e w3 ⟨rfl, h⟩
  obtain ⟨w4, hw4⟩ : ∃ w4, w3.alloc (.cells (Lw_.C h0) 23) = w4 := ⟨_, rfl⟩
  have b4 : Below w3.heap.size w3 w4 := hw4 ▸ (Below.refl _ _).alloc (Nat.le_refl _) _
  have h24 := h.trans (b4.mono h.size)
  have T4 := Lib.hid (T2.out.below h24)
  have B4 := Lib.hid (B2.out.trans (h24.mono B2.out.size))
  have X4 := Lib.hid (show Lw_.Box w4 w3.heap.size h0 from hw4 ▸ Lw_.Box.new w3 h0)
  have HNE : Hid (w3.heap.size ≠ b) := by have := T2.out.lt; have := h.size; show w3.heap.size ≠ b; omega
  have CP : Hid (Calls Try.prog 15 #[.map (some b), .int .u64 x, .int .i64 2, .agg #[.bool true, .int .i64 3, .int .i64 0]] w4 fun e w' => e = .returned (.tuple #[]) ∧ Tab w' b (l.length + 1) (put (runM l) x 2 ⟨true, 3, 0⟩) ∧ w4.grownBy w' (some b)) :=
    hiPut_any x 2 ⟨true, 3, 0⟩ w4 T4.out (by have := HN.out; unfold maxLen; omega) HX.out
  obtain ⟨g, hg⟩ : ∃ g, w3.heap.size = g := ⟨_, rfl⟩
  rw [hg] at X4 HNE
  have sQ : (Lw_.StoreF ⟨g, 0, none⟩ (Lw_.v h0)).run Try.prog (w3.alloc (.cells #[.bool false, .int .i64 0, .int .i64 0] 23)) = .ok () w4 := by
    rw [← hw4, ← hg]; exact Lw_.storeF_zero w3 h0
  clear h b4 h24 CG
  go_wp2_with fail
  refine CP.out.mono ?_
  rintro e w5 ⟨rfl, ht, hgr⟩
  generalize put (runM l) x 2 ⟨true, 3, 0⟩ = M2 at *
  have T5 := Lib.hid ht
  have B5 := Lib.hid (B4.out.grown hgr B4.out.size (fun k e => by cases e; exact Nat.le_of_eq hb))
  have X5 := Lib.hid (grownBy_la hgr X4.out HNE.out)
  have D1 : Hid (∀ w, Below w5.heap.size w5 w → Calls Try.prog 13 #[.map (some b), .int .u64 x, .int .i64 2] w fun e w' => e = .returned (Lw_.v ⟨true, 3, 0⟩) ∧ Below w.heap.size w w') := fun w hb => by
    have := hiGet_any x 2 w (T5.out.below hb) HX.out
    rwa [KM.out.1] at this
  have D2 : Hid (∀ w, Below w5.heap.size w5 w → Calls Try.prog 13 #[.map (some b), .int .u64 y, .int .i64 2] w fun e w' => e = .returned (Lw_.v h0) ∧ Below w.heap.size w w') := fun w hb => by
    have := hiGet_any y 2 w (T5.out.below hb) HY.out
    rwa [KM.out.2.1] at this
  have E1 : Hid (∀ q : Of (fun w' => Below w5.heap.size w5 w'), _) := fun q => D1.out q.w q.ok
  have E2 : Hid (∀ q : Of (fun w' => Below w5.heap.size w5 w'), _) := fun q => D2.out q.w q.ok
  have lq : ∀ q : Of (fun w' => Below w5.heap.size w5 w'), (Lw_.LoadF ⟨g, 0, none⟩).run Try.prog q.w = .ok (Lw_.v h0) q.w := fun q => (X5.out.below q.ok X5.out.lt).loadF
  have HKB : Hid (∀ w w', Below w5.heap.size w5 w → Below w.heap.size w w' → Below w5.heap.size w5 w') := fun _ _ h hb => h.trans (hb.mono h.size)
  have _ne : Nonempty (Of (fun w' => Below w5.heap.size w5 w')) := ⟨⟨_, Below.refl _ _⟩⟩
  clear ht hgr CP X4 T4 B4 D1 D2 sQ hw4 T2 B2
  go_wp2
  refine wp_region_of (fun w' => Below w5.heap.size w5 w') (by kernel_rfl) (Region.lexB_of_fast (by kernel_rfl)) (Below.refl _ _).drew ?_
  repeat (go_big_quiet_step (first
    | (go_at_call 13; with_reducible exact Calls.of_below HKB.out (E1.out _))
    | (go_at_call 13; with_reducible exact Calls.of_below HKB.out (E2.out _))))
  refine wpQuiet_nil ?_
  rintro _ ⟨q, rfl⟩
  have HQ := Lib.hid q.ok
  generalize q.w = w6 at *
  have CD := Lib.hid (hiDrop_any x w6 (T5.out.below HQ.out) HX.out)
  have X6 := Lib.hid (X5.out.below HQ.out X5.out.lt)
  have B6 := Lib.hid (B5.out.trans (HQ.out.mono B5.out.size))
  clear E1 E2 lq HKB X5 B5 _ne
  go_wp2_with fail
  refine CD.out.mono ?_
  rintro e w7 ⟨rfl, ht, hgr⟩
  generalize drp M2 x = M3 at *
  have T7 := Lib.hid ht
  have B7 := Lib.hid (B6.out.grown hgr B6.out.size (fun k e => by cases e; exact Nat.le_of_eq hb))
  have X7 := Lib.hid (grownBy_la hgr X6.out HNE.out)
  have E1 : Hid (∀ q : Of (fun w' => Below w7.heap.size w7 w'), Calls Try.prog 13 #[.map (some b), .int .u64 x, .int .i64 2] q.w fun e w' => e = .returned (Lw_.v zl) ∧ Below q.w.heap.size q.w w') := fun q => by
    have := hiGet_any x 2 q.w (T7.out.below q.ok) HX.out
    rwa [KM.out.2.2.1] at this
  have E2 : Hid (∀ q : Of (fun w' => Below w7.heap.size w7 w'), Calls Try.prog 13 #[.map (some b), .int .u64 y, .int .i64 2] q.w fun e w' => e = .returned (Lw_.v h0) ∧ Below q.w.heap.size q.w w') := fun q => by
    have := hiGet_any y 2 q.w (T7.out.below q.ok) HY.out
    rwa [KM.out.2.2.2] at this
  have lq : ∀ q : Of (fun w' => Below w7.heap.size w7 w'), (Lw_.LoadF ⟨g, 0, none⟩).run Try.prog q.w = .ok (Lw_.v h0) q.w := fun q => (X7.out.below q.ok X7.out.lt).loadF
  have HKB : Hid (∀ w w', Below w7.heap.size w7 w → Below w.heap.size w w' → Below w7.heap.size w7 w') := fun _ _ h hb => h.trans (hb.mono h.size)
  have _ne : Nonempty (Of (fun w' => Below w7.heap.size w7 w')) := ⟨⟨_, Below.refl _ _⟩⟩
  clear ht hgr CD X6 B6
  go_wp2
  refine wp_region_of (fun w' => Below w7.heap.size w7 w') (by kernel_rfl) (Region.lexB_of_fast (by kernel_rfl)) (Below.refl _ _).drew ?_
  repeat (go_big_quiet_step (first
    | (go_at_call 13; with_reducible exact Calls.of_below HKB.out (E1.out _))
    | (go_at_call 13; with_reducible exact Calls.of_below HKB.out (E2.out _))
    | (go_at_call 10; with_reducible exact Calls.of_below HKB.out (CL.out _))))
  refine wpQuiet_nil ?_
  rintro _ ⟨q, rfl⟩
  have HQ2 := Lib.hid q.ok
  go_wp2
  go_returns
  exact ⟨rfl, B7.out.trans (HQ2.out.mono B7.out.size)⟩
theorem historyApart_walk0 (l : List Oq) (sa : Option Addr) (c : Nat) {W : World} (h : Oq_.Sl W sa l c) (_ : l.length ≤ maxLen) (hw : ∀ x ∈ l, (Lit.int .i64 x.k).wf = true ∧ (Lit.int .u64 x.p).wf = true ∧ (Lit.int .i64 x.w).wf = true ∧ (Lit.int .i64 x.x.q).wf = true ∧ (Lit.int .i64 x.x.f).wf = true)
    (x : Int) (hx : (Lit.int .u64 x).wf = true) (y : Int) (hy : (Lit.int .u64 y).wf = true) :
    Calls Try.prog 6 #[.slice sa l.length c, .int .u64 x, .int .u64 y] W fun e W' => e = .returned (.bool true) ∧ Below W.heap.size W W' := apart_any l sa c h (fun z hz => (hw z hz).2.1) x y hx hy
end Go.Proofs.Ytacjdgglfeemcaa
