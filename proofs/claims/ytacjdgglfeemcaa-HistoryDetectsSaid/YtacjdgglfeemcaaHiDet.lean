/-
  THE LAW HistoryDetects.
-/
import Derived.Test.YtacjdgglfeemcaaHiLives
import Derived.Test.YtacjdgglfeemcaaHiPr
import Derived.Test.YtacjdgglfeemcaaHiPw
import Derived.Deep.DeepCutAuto
import Derived.Deep.RegionHeld
import Derived.Deep.MidRow
namespace Go.Proofs.Ytacjdgglfeemcaa
open Go.RowKit Go.Hi
attribute [local go_sem ↓ high] Lw_.loadF Lw_.storeF Lw_.v_cells Lw_.v_match Prw_.loadF Prw_.v_cells Prw_.v_match
attribute [local go_sem] Lw_.C0 Lw_.C1 Lw_.C2 Lw_.loadF_new Lw_.storeF_zero Lw_.guard Lw_.guard_lit

/-! Two values compared. -/
theorem pr_hm : Try.prog.eqGuardType Try.prog.depth 29 = false := by kernel_rfl
theorem pr_info : ∃ i, Try.prog.info? 3 = some i := by
  have h : (Try.prog.info? 3).isSome = true := by kernel_rfl
  exact Option.isSome_iff_exists.1 h
theorem pr_c0 : Try.prog.cellsOf 3 = 1 := by kernel_rfl
theorem pr_eq (x y : Pr) (w : World) : (Op.equalIn 10000 29 (.agg (Prw_.C x)) (.agg (Prw_.C y))).run Try.prog w = .ok (decide (x = y)) w := by
  obtain ⟨i, hi⟩ := pr_info
  have e1 := run_equalIn_array (w := w) 9999 (Prw_.C x) (Prw_.C y) Try.underlying29 hi
  rw [pr_c0] at e1
  have p : ∀ (z : Pr) w, (part 3 (Prw_.C z) (0 * 1)).run Try.prog w = .ok (.int .i64 z.a) w := fun z w => run_part_plain w pk_int rfl
  have q : ∀ (z : Pr) w, (part 3 (Prw_.C z) (1 * 1)).run Try.prog w = .ok (.int .i64 z.b) w := fun z w => run_part_plain w pk_int rfl
  have r : ∀ (a b : Int) w, (Op.equalIn 9999 3 (.int .i64 a) (.int .i64 b)).run Try.prog w = .ok (a == b) w := fun a b w => run_equalIn_int w 9998 _ _ _ _ _ Try.underlying3
  rw [show (9999 + 1 : Nat) = 10000 from rfl] at e1
  rw [e1, show List.range 2 = [0, 1] from rfl]
  simp only [Op.eqItems, Sem.run_bind, p, r, Result.andThen_ok]
  have e : decide (x = y) = ((x.a == y.a) && (x.b == y.b)) := by
    obtain ⟨_, _⟩ := x
    obtain ⟨_, _⟩ := y
    rw [Bool.eq_iff_iff, decide_eq_true_iff]
    simp
  rw [e]
  cases x.a == y.a
  · simp
  · simp only [Bool.not_true, Bool.false_eq_true, if_false, Sem.run_bind, q, r, Result.andThen_ok, Bool.true_and]
    cases x.b == y.b <;> simp
theorem pr_eql (x y : Pr) (w : World) : (binOp .eql 29 (Prw_.v x) (Prw_.v y)).run Try.prog w = .ok (.bool (decide (x = y))) w := by
  rw [Prw_.v_agg, Prw_.v_agg, run_eql_struct, pr_eq]; rfl
theorem pr_guard (op : BinOp) (a b : Operand) (x y : Pr) (w : World) : (eqGuard op 29 a b (Prw_.v x) (Prw_.v y)).run Try.prog w = .ok () w := by
  rw [Prw_.v_agg, Prw_.v_agg, run_eqGuard_agg w op _ a b _ _ pr_hm]
theorem pr_load {W : World} {b o : Nat} {x : Pr} (h0 : W.cell? ⟨b, o, none⟩ = some (.int .i64 x.a)) (h1 : W.cell? ⟨b, o + 1, none⟩ = some (.int .i64 x.b)) : (Prw_.LoadF ⟨b, o, none⟩).run Try.prog W = .ok (Prw_.v x) W :=
  run_loadVar_mid W b o 29 (Prw_.C x).toList _ (fun j v hv => by
    have hj : j < 2 := by have := (List.getElem?_eq_some_iff.1 hv).1; simpa [Prw_.C] using this
    match j, hj with
    | 0, _ => exact h0.trans hv
    | 1, _ => exact h1.trans hv) Try.underlying29 rfl Prw_.sz

/-! The history behind so many values. -/
def hist (l : List Pr) : Nat → La
  | 0 => zl
  | k + 1 => ⟨true, (l.getD k zr).a, (l.getD k zr).b⟩
theorem hist_succ (l : List Pr) (k : Nat) : hist l (k + 1) = ⟨true, (l.getD k zr).a, (l.getD k zr).b⟩ := rfl
theorem ag_first (a b : Int) : ag zl a b = 0 := if_neg (fun e => by cases e)
theorem ag_same {p x : Pr} (h : x = p) : ag ⟨true, p.a, p.b⟩ x.a x.b = 1 := by rw [h]; exact if_pos rfl
theorem ag_other {p x : Pr} (h : x ≠ p) : ag ⟨true, p.a, p.b⟩ x.a x.b = 0 := if_neg (fun e => h (by cases p; cases x; injection e with _ e1 e2; simp_all))

/-- The history in its cell. -/
structure Dst (W : World) (h : La) (w' : World) : Prop where
  bx : Lw_.Box w' W.heap.size h
  bel : Below W.heap.size W w'
theorem Dst.drew {W w' : World} {h : La} (d : Dst W h w') : Dst W h w'.drew := ⟨d.bx, d.bel.drew⟩
theorem Dst.drewN {W w' : World} {h : La} (d : Dst W h w') (n : Nat) : Dst W h (w'.drewN n) := ⟨d.bx, d.bel.os, d.bel.tape, d.bel.output, d.bel.size, d.bel.block⟩
theorem Dst.keep {W w' w'' : World} {h : La} (d : Dst W h w') (hb : Below w'.heap.size w' w'') : Dst W h w'' := ⟨d.bx.below hb d.bx.lt, d.bel.trans (hb.mono d.bel.size)⟩
theorem Dst.alloc {W w' : World} {h : La} (d : Dst W h w') (o : Obj) : Dst W h (w'.alloc o) := d.keep ((Below.refl _ _).alloc (Nat.le_refl _) o)
theorem Dst.row {W w' : World} {h : La} (d : Dst W h w') {g : Nat} (hg : W.heap.size < g) (c : Array Value) : Dst W h (w'.setRow g c) := ⟨(Lw_.setRow_other (by omega) c).trans d.bx, below_setRow d.bel (by omega) c⟩

set_option maxRecDepth 100000 in
set_option maxHeartbeats 16000000 in
theorem detects_any (l : List Pr) (sa : Option Addr) (c : Nat) {W : World} (hs : Pr_.Sl W sa l c) (_ : l.length ≤ maxLen) :
    Calls Try.prog 4 #[.slice sa l.length c] W fun e W' => e = .returned (.bool true) ∧ Below W.heap.size W W' := by
  have CL := Lib.hid lives19_any
  by_cases h50 : l.length ≤ 50
  case neg =>
    have hd : decide ((50 : Int) < (l.length : Int)) = true := decide_eq_true (by omega)
    clear hs
    go_enter Try.func4, Try.ntmps4
    go_wp2_with (go_at_call 10; refine (CL.out _).mono ?_; rintro e w2 ⟨rfl, h⟩; have B2 := Lib.hid h; clear h)
    go_returns
    exact ⟨rfl, B2.out⟩
  have hd : ¬ (50 : Int) < (l.length : Int) := by omega
  have HS := Lib.hid hs
  clear hs
  obtain ⟨w1, hw1⟩ : ∃ w1, W.alloc (.cells (Lw_.C zl) 23) = w1 := ⟨_, rfl⟩
  have hw1' : W.alloc (.cells #[.bool false, .int .i64 0, .int .i64 0] 23) = w1 := hw1
  have D1 : Hid (Dst W (hist l 0) w1) := ⟨hw1 ▸ Lw_.Box.new W zl, hw1 ▸ (Below.refl _ _).alloc (Nat.le_refl _) _⟩
  go_enter Try.func4, Try.ntmps4
  go_wp2
  go_loopw [14] (fun v wr => ∃ k : Nat, v = .int .i64 k ∧ k ≤ l.length ∧ Dst W (hist l k) wr) (fun v _ => l.length - (intOf v).toNat)
  case atStart => exact ⟨0, rfl, Nat.zero_le _, D1.out⟩
  case round =>
    obtain ⟨k, rfl, hk, hd0⟩ := hrel
    have HD := Lib.hid hd0
    have HB1 := Lib.hid hd0.bel
    clear hd0
    go_wp2_with (go_at_call 10; refine (CL.out _).mono ?_; rintro e w2 ⟨rfl, hq⟩; have B2 := Lib.hid (HB1.out.trans (hq.mono HB1.out.size)); clear hq)
    · have hlt' : k < l.length := by omega
      obtain ⟨b, off, hsa, hbl, c0, c1⟩ := HS.out.lies k hlt'
      subst hsa
      obtain ⟨x, hx⟩ : ∃ x, x = l[k] := ⟨_, rfl⟩
      rw [← hx] at c0 c1
      obtain ⟨h, hh⟩ : ∃ h, h = hist l k := ⟨_, rfl⟩
      have HX : Hid (l.getD k zr = x) := by rw [List.getD_eq_getElem?_getD, List.getElem?_eq_getElem hlt', ← hx]; rfl
      have HH := Lib.hid hh
      rw [← hh] at HD
      have HLT := Lib.hid hlt'
      have HLIM : Hid (∀ w', Dst W h w' → (Lw_.LoadF ⟨W.heap.size, 0, none⟩).run Try.prog w' = .ok (Lw_.v h) w' ∧ w'.cell? ⟨b, off + k * 2, none⟩ = some (.int .i64 x.a) ∧ w'.cell? ⟨b, off + k * 2 + 1, none⟩ = some (.int .i64 x.b) ∧ Dst W h w') := fun w' hd' =>
        ⟨hd'.bx.loadF, (hd'.bel.cell hbl).trans c0, (hd'.bel.cell hbl).trans c1, hd'⟩
      have CN : Hid (∀ w, Calls Try.prog 8 #[Lw_.v h, .int .i64 x.a, .int .i64 x.b] w fun e w' => e = .returned (.tuple #[Lw_.v (nt x.a x.b), .int .i64 (ag h x.a x.b)]) ∧ Below w.heap.size w w') := fun w => hiNote_any h x.a x.b w
      have HN : Hid (nt x.a x.b = ⟨true, x.a, x.b⟩) := rfl
      have HA : Hid (hist l (k + 1) = nt x.a x.b) := by
        rw [hist_succ, HX.out]; rfl
      have HBL := Lib.hid hbl
      obtain ⟨n, hn⟩ : ∃ n, n = ag h x.a x.b := ⟨_, rfl⟩
      have HNN := Lib.hid hn
      rw [← hn] at CN
      generalize nt x.a x.b = y at *
      clear hh hn c0 c1 hw1 hw1' D1
      clear hx
      clear hlt' hbl
      go_upto_region 7 with fail
      go_cut [5, 6] (fun p v wx => ∃ g, p = .pointer (some ⟨g, 0, none⟩) ∧ v = .int .i64 n ∧ W.heap.size < g ∧ Lw_.Box wx g y ∧ Dst W h wx)
      case first =>
        refine wp_region_held_drew (S := (fun w' => (Lw_.LoadF ⟨W.heap.size, 0, none⟩).run Try.prog w' = .ok (Lw_.v h) w' ∧ w'.cell? ⟨b, off + k * 2, none⟩ = some (.int .i64 x.a) ∧ w'.cell? ⟨b, off + k * 2 + 1, none⟩ = some (.int .i64 x.b) ∧ Dst W h w')) (by kernel_rfl) ?_ (fun hHeld => ?_)
        · exact HLIM.out _ HD.out.drew
        refine wpAnyH_take (i := 0) (oi := { dst := some 18, op := Op.load 23 (Operand.tmp 3), type := 23, pos := "law.go:44", after := #[], guard := none }) (v := ?v1) rfl (by kernel_rfl) (by kernel_rfl) (by kernel_rfl) (fun _ _ _ h => h) (Or.inl ⟨by rfl, ?y1⟩) hHeld ?r1
        case y1 => (intro w hSw; (try dsimp only at hSw); go_simp; try with_reducible rfl)
        try simp only [Act.put, List.setIfInBounds_toArray, List.set_cons_zero, List.set_cons_succ]
        refine wpAnyH_take (i := 1) (oi := { dst := some 19, op := Op.move (Operand.tmp 0), type := 28, pos := "law.go:44", after := #[], guard := none }) (v := ?v2) rfl (by kernel_rfl) (by kernel_rfl) (by kernel_rfl) (fun _ _ _ h => h) (Or.inl ⟨by rfl, ?y2⟩) hHeld ?r2
        case y2 => (intro w hSw; (try dsimp only at hSw); go_simp; try with_reducible rfl)
        try simp only [Act.put, List.setIfInBounds_toArray, List.set_cons_zero, List.set_cons_succ]
        refine wpAnyH_take (i := 2) (oi := { dst := some 20, op := Op.move (Operand.tmp 4), type := 3, pos := "law.go:44", after := #[], guard := none }) (v := ?v3) rfl (by kernel_rfl) (by kernel_rfl) (by kernel_rfl) (fun _ _ _ h => h) (Or.inl ⟨by rfl, ?y3⟩) hHeld ?r3
        case y3 => (intro w hSw; (try dsimp only at hSw); go_simp; try with_reducible rfl)
        try simp only [Act.put, List.setIfInBounds_toArray, List.set_cons_zero, List.set_cons_succ]
        refine wpAnyH_take (i := 3) (oi := { dst := some 21, op := Op.indexAddr 28 (Operand.tmp 19) (Operand.tmp 20), type := 0, pos := "law.go:44", after := #[{ on := 1, ground := Ground.data }, { on := 2, ground := Ground.data }], guard := none }) (v := ?v4) rfl (by kernel_rfl) (by kernel_rfl) (by kernel_rfl) (fun _ _ _ h => h) (Or.inl ⟨by rfl, ?y4⟩) hHeld ?r4
        case y4 => (intro w hSw; (try dsimp only at hSw); go_simp; try with_reducible rfl)
        try simp only [Act.put, List.setIfInBounds_toArray, List.set_cons_zero, List.set_cons_succ]
        refine wpAnyH_take (i := 4) (oi := { dst := some 22, op := Op.indexAddr 29 (Operand.tmp 21) (Operand.const (Value.int IntKind.i64 0)), type := 0, pos := "law.go:44", after := #[{ on := 3, ground := Ground.data }], guard := none }) (v := ?v5) rfl (by kernel_rfl) (by kernel_rfl) (by kernel_rfl) (fun _ _ _ h => h) (Or.inl ⟨by rfl, ?y5⟩) hHeld ?r5
        case y5 => (intro w hSw; (try dsimp only at hSw); go_simp; try with_reducible rfl)
        try simp only [Act.put, List.setIfInBounds_toArray, List.set_cons_zero, List.set_cons_succ]
        refine wpAnyH_take (i := 5) (oi := { dst := some 23, op := Op.load 3 (Operand.tmp 22), type := 3, pos := "law.go:44", after := #[{ on := 4, ground := Ground.data }], guard := none }) (v := ?v6) rfl (by kernel_rfl) (by kernel_rfl) (by kernel_rfl) (fun _ _ _ h => h) (Or.inl ⟨by rfl, ?y6⟩) hHeld ?r6
        case y6 => (intro w hSw; (try dsimp only at hSw); go_simp; try with_reducible rfl)
        try simp only [Act.put, List.setIfInBounds_toArray, List.set_cons_zero, List.set_cons_succ]
        refine wpAnyH_take (i := 6) (oi := { dst := some 24, op := Op.move (Operand.tmp 0), type := 28, pos := "law.go:44", after := #[], guard := none }) (v := ?v7) rfl (by kernel_rfl) (by kernel_rfl) (by kernel_rfl) (fun _ _ _ h => h) (Or.inl ⟨by rfl, ?y7⟩) hHeld ?r7
        case y7 => (intro w hSw; (try dsimp only at hSw); go_simp; try with_reducible rfl)
        try simp only [Act.put, List.setIfInBounds_toArray, List.set_cons_zero, List.set_cons_succ]
        refine wpAnyH_take (i := 7) (oi := { dst := some 25, op := Op.move (Operand.tmp 4), type := 3, pos := "law.go:44", after := #[], guard := none }) (v := ?v8) rfl (by kernel_rfl) (by kernel_rfl) (by kernel_rfl) (fun _ _ _ h => h) (Or.inl ⟨by rfl, ?y8⟩) hHeld ?r8
        case y8 => (intro w hSw; (try dsimp only at hSw); go_simp; try with_reducible rfl)
        try simp only [Act.put, List.setIfInBounds_toArray, List.set_cons_zero, List.set_cons_succ]
        refine wpAnyH_take (i := 8) (oi := { dst := some 26, op := Op.indexAddr 28 (Operand.tmp 24) (Operand.tmp 25), type := 0, pos := "law.go:44", after := #[{ on := 6, ground := Ground.data }, { on := 7, ground := Ground.data }], guard := none }) (v := ?v9) rfl (by kernel_rfl) (by kernel_rfl) (by kernel_rfl) (fun _ _ _ h => h) (Or.inl ⟨by rfl, ?y9⟩) hHeld ?r9
        case y9 => (intro w hSw; (try dsimp only at hSw); go_simp; try with_reducible rfl)
        try simp only [Act.put, List.setIfInBounds_toArray, List.set_cons_zero, List.set_cons_succ]
        refine wpAnyH_take (i := 9) (oi := { dst := some 27, op := Op.indexAddr 29 (Operand.tmp 26) (Operand.const (Value.int IntKind.i64 1)), type := 0, pos := "law.go:44", after := #[{ on := 8, ground := Ground.data }], guard := none }) (v := ?v10) rfl (by kernel_rfl) (by kernel_rfl) (by kernel_rfl) (fun _ _ _ h => h) (Or.inl ⟨by rfl, ?y10⟩) hHeld ?r10
        case y10 => (intro w hSw; (try dsimp only at hSw); go_simp; try with_reducible rfl)
        try simp only [Act.put, List.setIfInBounds_toArray, List.set_cons_zero, List.set_cons_succ]
        refine wpAnyH_take (i := 10) (oi := { dst := some 28, op := Op.load 3 (Operand.tmp 27), type := 3, pos := "law.go:44", after := #[{ on := 9, ground := Ground.data }], guard := none }) (v := ?v11) rfl (by kernel_rfl) (by kernel_rfl) (by kernel_rfl) (fun _ _ _ h => h) (Or.inl ⟨by rfl, ?y11⟩) hHeld ?r11
        case y11 => (intro w hSw; (try dsimp only at hSw); go_simp; try with_reducible rfl)
        try simp only [Act.put, List.setIfInBounds_toArray, List.set_cons_zero, List.set_cons_succ]
        refine wpAnyH_ready (rs := [11, 15]) (by kernel_rfl) (by simp) ?_
        refine AllReadyH.cons (o := { dst := some 29, op := Op.call { callee := Callee.value (Operand.func 8), args := #[Operand.tmp 18, Operand.tmp 23, Operand.tmp 28], argTypes := #[23, 3, 3] }, type := 24, pos := "law.go:44", after := #[{ on := 0, ground := Ground.data }, { on := 5, ground := Ground.data }, { on := 10, ground := Ground.data }], guard := none }) rfl (fun K hK => ?_) ?_
        · clear hHeld
          go_simp
          go_at_call 8
          refine (CN.out _).mono ?_
          rintro e w5 ⟨rfl, hb5⟩
          have D5 : Hid (Dst W h w5) := (by first | exact HD.out.drew.keep hb5 | exact (HD.out.alloc (.cells #[.bool false, .int .i64 0, .int .i64 0] 23)).drew.keep hb5)
          try (have A5 : Hid (Lw_.Box w5 wr.heap.size zl) := (show Lw_.Box (wr.alloc (.cells #[.bool false, .int .i64 0, .int .i64 0] 23)).drew wr.heap.size zl from Lw_.Box.new wr zl).below hb5 (by simp))
          try (have sA := A5.out.storeF y)
          clear hb5
          refine hK.out _ _ ?_ (fun hHeld => ?_)
          · first | exact HLIM.out _ (D5.out.row (Nat.lt_of_lt_of_le HD.out.bx.lt (by simp)) _) | exact HLIM.out _ D5.out | exact HLIM.out _ (D5.out.alloc _) | exact HLIM.out _ (HD.out.alloc _).drew | exact HLIM.out _ HD.out.drew
          clear hK K
          try simp only [Act.put, List.setIfInBounds_toArray, List.set_cons_zero, List.set_cons_succ]
          refine wpAnyH_take (i := 12) (oi := { dst := some 17, op := Op.move (Operand.tmp 29), type := 24, pos := "law.go:44", after := #[{ on := 11, ground := Ground.data }], guard := none }) (v := ?v12) rfl (by kernel_rfl) (by kernel_rfl) (by kernel_rfl) (fun _ _ _ h => h) (Or.inl ⟨by rfl, ?y12⟩) hHeld ?r12
          case y12 => (intro w hSw; (try dsimp only at hSw); go_simp; try with_reducible rfl)
          try simp only [Act.put, List.setIfInBounds_toArray, List.set_cons_zero, List.set_cons_succ]
          refine wpAnyH_take (i := 13) (oi := { dst := some 30, op := Op.extract (Operand.tmp 17) 0, type := 23, pos := "law.go:44", after := #[{ on := 12, ground := Ground.data }], guard := none }) (v := ?v13) rfl (by kernel_rfl) (by kernel_rfl) (by kernel_rfl) (fun _ _ _ h => h) (Or.inl ⟨by rfl, ?y13⟩) hHeld ?r13
          case y13 => (intro w hSw; (try dsimp only at hSw); go_simp; try with_reducible rfl)
          try simp only [Act.put, List.setIfInBounds_toArray, List.set_cons_zero, List.set_cons_succ]
          refine wpAnyH_take (i := 14) (oi := { dst := some 31, op := Op.extract (Operand.tmp 17) 1, type := 3, pos := "law.go:44", after := #[{ on := 12, ground := Ground.data }, { on := 16, ground := Ground.gcOnly Departure.lateStores }], guard := none }) (v := ?v14) rfl (by kernel_rfl) (by kernel_rfl) (by kernel_rfl) (fun _ _ _ h => h) (Or.inl ⟨by rfl, ?y14⟩) hHeld ?r14
          case y14 => (intro w hSw; (try dsimp only at hSw); go_simp; try with_reducible rfl)
          try simp only [Act.put, List.setIfInBounds_toArray, List.set_cons_zero, List.set_cons_succ]
          refine wpAnyH_ready (rs := [15]) (by kernel_rfl) (by simp) ?_
          refine AllReadyH.cons (o := { dst := some 5, op := Op.alloc 23, type := 0, pos := "law.go:44", after := #[], guard := none }) rfl (fun K hK => ?_) ?_
          · clear hHeld
            go_simp
            refine hK.out _ _ ?_ (fun hHeld => ?_)
            · first | exact HLIM.out _ (D5.out.row (Nat.lt_of_lt_of_le HD.out.bx.lt (by simp)) _) | exact HLIM.out _ D5.out | exact HLIM.out _ (D5.out.alloc _) | exact HLIM.out _ (HD.out.alloc _).drew | exact HLIM.out _ HD.out.drew
            clear hK K
            try simp only [Act.put, List.setIfInBounds_toArray, List.set_cons_zero, List.set_cons_succ]
            refine wpAnyH_ready (rs := [16]) (by kernel_rfl) (by simp) ?_
            refine AllReadyH.cons (o := { dst := none, op := Op.store 23 (Operand.tmp 5) (Operand.tmp 30), type := 0, pos := "law.go:44", after := #[{ on := 15, ground := Ground.data }, { on := 13, ground := Ground.data }, { on := 11, ground := Ground.chain }, { on := 0, ground := Ground.phase }, { on := 1, ground := Ground.phase }, { on := 2, ground := Ground.phase }, { on := 3, ground := Ground.phase }, { on := 4, ground := Ground.phase }, { on := 5, ground := Ground.phase }, { on := 6, ground := Ground.phase }, { on := 7, ground := Ground.phase }, { on := 8, ground := Ground.phase }, { on := 9, ground := Ground.phase }, { on := 10, ground := Ground.phase }, { on := 11, ground := Ground.phase }, { on := 12, ground := Ground.phase }, { on := 13, ground := Ground.phase }, { on := 14, ground := Ground.textOnly Departure.lateStores }, { on := 15, ground := Ground.phase }], guard := none }) rfl (fun K hK => ?_) ?_
            · clear hHeld
              go_simp
              refine hK.out _ _ ?_ (fun hHeld => ?_)
              · first | exact HLIM.out _ (D5.out.row (Nat.lt_of_lt_of_le HD.out.bx.lt (by simp)) _) | exact HLIM.out _ D5.out | exact HLIM.out _ (D5.out.alloc _) | exact HLIM.out _ (HD.out.alloc _).drew | exact HLIM.out _ HD.out.drew
              clear hK K
              try simp only [Act.put, List.setIfInBounds_toArray, List.set_cons_zero, List.set_cons_succ]
              refine wpAnyH_take (i := 17) (oi := { dst := some 6, op := Op.assign (Operand.tmp 31), type := 3, pos := "law.go:44", after := #[{ on := 14, ground := Ground.data }, { on := 16, ground := Ground.chain }, { on := 0, ground := Ground.phase }, { on := 1, ground := Ground.phase }, { on := 2, ground := Ground.phase }, { on := 3, ground := Ground.phase }, { on := 4, ground := Ground.phase }, { on := 5, ground := Ground.phase }, { on := 6, ground := Ground.phase }, { on := 7, ground := Ground.phase }, { on := 8, ground := Ground.phase }, { on := 9, ground := Ground.phase }, { on := 10, ground := Ground.phase }, { on := 11, ground := Ground.phase }, { on := 12, ground := Ground.phase }, { on := 13, ground := Ground.phase }, { on := 14, ground := Ground.phase }, { on := 15, ground := Ground.phase }, { on := 16, ground := Ground.phase }], guard := none }) (v := ?v15) rfl (by kernel_rfl) (by kernel_rfl) (by kernel_rfl) (fun _ _ _ h => h) (Or.inl ⟨by rfl, ?y15⟩) hHeld ?r15
              case y15 => (intro w hSw; (try dsimp only at hSw); go_simp; try with_reducible rfl)
              try simp only [Act.put, List.setIfInBounds_toArray, List.set_cons_zero, List.set_cons_succ]
              refine wpAnyH_done (by kernel_rfl) ?_ _
              go_wp2_with fail
              go_meet
              first
                | exact ⟨_, rfl, rfl, HD.out.bx.lt, A5.out.setRow y, D5.out.row HD.out.bx.lt _⟩
                | exact ⟨_, rfl, rfl, D5.out.bx.lt, Lw_.Box.new _ y, D5.out.alloc _⟩
            exact AllReadyH.nil
          exact AllReadyH.nil
        refine AllReadyH.cons (o := { dst := some 5, op := Op.alloc 23, type := 0, pos := "law.go:44", after := #[], guard := none }) rfl (fun K hK => ?_) ?_
        · clear hHeld
          go_simp
          refine hK.out _ _ ?_ (fun hHeld => ?_)
          · first | exact HLIM.out _ (D5.out.row (Nat.lt_of_lt_of_le HD.out.bx.lt (by simp)) _) | exact HLIM.out _ D5.out | exact HLIM.out _ (D5.out.alloc _) | exact HLIM.out _ (HD.out.alloc _).drew | exact HLIM.out _ HD.out.drew
          clear hK K
          try simp only [Act.put, List.setIfInBounds_toArray, List.set_cons_zero, List.set_cons_succ]
          refine wpAnyH_ready (rs := [11]) (by kernel_rfl) (by simp) ?_
          refine AllReadyH.cons (o := { dst := some 29, op := Op.call { callee := Callee.value (Operand.func 8), args := #[Operand.tmp 18, Operand.tmp 23, Operand.tmp 28], argTypes := #[23, 3, 3] }, type := 24, pos := "law.go:44", after := #[{ on := 0, ground := Ground.data }, { on := 5, ground := Ground.data }, { on := 10, ground := Ground.data }], guard := none }) rfl (fun K hK => ?_) ?_
          · clear hHeld
            go_simp
            go_at_call 8
            refine (CN.out _).mono ?_
            rintro e w5 ⟨rfl, hb5⟩
            have D5 : Hid (Dst W h w5) := (by first | exact HD.out.drew.keep hb5 | exact (HD.out.alloc (.cells #[.bool false, .int .i64 0, .int .i64 0] 23)).drew.keep hb5)
            try (have A5 : Hid (Lw_.Box w5 wr.heap.size zl) := (show Lw_.Box (wr.alloc (.cells #[.bool false, .int .i64 0, .int .i64 0] 23)).drew wr.heap.size zl from Lw_.Box.new wr zl).below hb5 (by simp))
            try (have sA := A5.out.storeF y)
            clear hb5
            refine hK.out _ _ ?_ (fun hHeld => ?_)
            · first | exact HLIM.out _ (D5.out.row (Nat.lt_of_lt_of_le HD.out.bx.lt (by simp)) _) | exact HLIM.out _ D5.out | exact HLIM.out _ (D5.out.alloc _) | exact HLIM.out _ (HD.out.alloc _).drew | exact HLIM.out _ HD.out.drew
            clear hK K
            try simp only [Act.put, List.setIfInBounds_toArray, List.set_cons_zero, List.set_cons_succ]
            refine wpAnyH_take (i := 12) (oi := { dst := some 17, op := Op.move (Operand.tmp 29), type := 24, pos := "law.go:44", after := #[{ on := 11, ground := Ground.data }], guard := none }) (v := ?v16) rfl (by kernel_rfl) (by kernel_rfl) (by kernel_rfl) (fun _ _ _ h => h) (Or.inl ⟨by rfl, ?y16⟩) hHeld ?r16
            case y16 => (intro w hSw; (try dsimp only at hSw); go_simp; try with_reducible rfl)
            try simp only [Act.put, List.setIfInBounds_toArray, List.set_cons_zero, List.set_cons_succ]
            refine wpAnyH_take (i := 13) (oi := { dst := some 30, op := Op.extract (Operand.tmp 17) 0, type := 23, pos := "law.go:44", after := #[{ on := 12, ground := Ground.data }], guard := none }) (v := ?v17) rfl (by kernel_rfl) (by kernel_rfl) (by kernel_rfl) (fun _ _ _ h => h) (Or.inl ⟨by rfl, ?y17⟩) hHeld ?r17
            case y17 => (intro w hSw; (try dsimp only at hSw); go_simp; try with_reducible rfl)
            try simp only [Act.put, List.setIfInBounds_toArray, List.set_cons_zero, List.set_cons_succ]
            refine wpAnyH_take (i := 14) (oi := { dst := some 31, op := Op.extract (Operand.tmp 17) 1, type := 3, pos := "law.go:44", after := #[{ on := 12, ground := Ground.data }, { on := 16, ground := Ground.gcOnly Departure.lateStores }], guard := none }) (v := ?v18) rfl (by kernel_rfl) (by kernel_rfl) (by kernel_rfl) (fun _ _ _ h => h) (Or.inl ⟨by rfl, ?y18⟩) hHeld ?r18
            case y18 => (intro w hSw; (try dsimp only at hSw); go_simp; try with_reducible rfl)
            try simp only [Act.put, List.setIfInBounds_toArray, List.set_cons_zero, List.set_cons_succ]
            refine wpAnyH_ready (rs := [16]) (by kernel_rfl) (by simp) ?_
            refine AllReadyH.cons (o := { dst := none, op := Op.store 23 (Operand.tmp 5) (Operand.tmp 30), type := 0, pos := "law.go:44", after := #[{ on := 15, ground := Ground.data }, { on := 13, ground := Ground.data }, { on := 11, ground := Ground.chain }, { on := 0, ground := Ground.phase }, { on := 1, ground := Ground.phase }, { on := 2, ground := Ground.phase }, { on := 3, ground := Ground.phase }, { on := 4, ground := Ground.phase }, { on := 5, ground := Ground.phase }, { on := 6, ground := Ground.phase }, { on := 7, ground := Ground.phase }, { on := 8, ground := Ground.phase }, { on := 9, ground := Ground.phase }, { on := 10, ground := Ground.phase }, { on := 11, ground := Ground.phase }, { on := 12, ground := Ground.phase }, { on := 13, ground := Ground.phase }, { on := 14, ground := Ground.textOnly Departure.lateStores }, { on := 15, ground := Ground.phase }], guard := none }) rfl (fun K hK => ?_) ?_
            · clear hHeld
              go_simp
              refine hK.out _ _ ?_ (fun hHeld => ?_)
              · first | exact HLIM.out _ (D5.out.row (Nat.lt_of_lt_of_le HD.out.bx.lt (by simp)) _) | exact HLIM.out _ D5.out | exact HLIM.out _ (D5.out.alloc _) | exact HLIM.out _ (HD.out.alloc _).drew | exact HLIM.out _ HD.out.drew
              clear hK K
              try simp only [Act.put, List.setIfInBounds_toArray, List.set_cons_zero, List.set_cons_succ]
              refine wpAnyH_take (i := 17) (oi := { dst := some 6, op := Op.assign (Operand.tmp 31), type := 3, pos := "law.go:44", after := #[{ on := 14, ground := Ground.data }, { on := 16, ground := Ground.chain }, { on := 0, ground := Ground.phase }, { on := 1, ground := Ground.phase }, { on := 2, ground := Ground.phase }, { on := 3, ground := Ground.phase }, { on := 4, ground := Ground.phase }, { on := 5, ground := Ground.phase }, { on := 6, ground := Ground.phase }, { on := 7, ground := Ground.phase }, { on := 8, ground := Ground.phase }, { on := 9, ground := Ground.phase }, { on := 10, ground := Ground.phase }, { on := 11, ground := Ground.phase }, { on := 12, ground := Ground.phase }, { on := 13, ground := Ground.phase }, { on := 14, ground := Ground.phase }, { on := 15, ground := Ground.phase }, { on := 16, ground := Ground.phase }], guard := none }) (v := ?v19) rfl (by kernel_rfl) (by kernel_rfl) (by kernel_rfl) (fun _ _ _ h => h) (Or.inl ⟨by rfl, ?y19⟩) hHeld ?r19
              case y19 => (intro w hSw; (try dsimp only at hSw); go_simp; try with_reducible rfl)
              try simp only [Act.put, List.setIfInBounds_toArray, List.set_cons_zero, List.set_cons_succ]
              refine wpAnyH_done (by kernel_rfl) ?_ _
              go_wp2_with fail
              go_meet
              first
                | exact ⟨_, rfl, rfl, HD.out.bx.lt, A5.out.setRow y, D5.out.row HD.out.bx.lt _⟩
                | exact ⟨_, rfl, rfl, D5.out.bx.lt, Lw_.Box.new _ y, D5.out.alloc _⟩
            exact AllReadyH.nil
          exact AllReadyH.nil
        exact AllReadyH.nil
      case rest =>
        obtain ⟨g, rfl, rfl, hg, hy, hd'⟩ := hcut
        have HY := Lib.hid hy
        have HG := Lib.hid hg
        have HD2 := Lib.hid hd'
        obtain ⟨lh, k0, k1, -⟩ := HLIM.out _ hd'
        have ly : ∀ m, (Lw_.LoadF ⟨g, 0, none⟩).run Try.prog (wc.drewN m) = .ok (Lw_.v y) (wc.drewN m) := fun m => Lw_.Box.loadF (W := wc.drewN m) hy
        have ya := hy.all
        rw [HN.out] at ya
        have y0 : (Lw_.C ⟨true, x.a, x.b⟩)[0]? = some (.bool true) := rfl
        have y1 : (Lw_.C ⟨true, x.a, x.b⟩)[1]? = some (.int .i64 x.a) := rfl
        have y2 : (Lw_.C ⟨true, x.a, x.b⟩)[2]? = some (.int .i64 x.b) := rfl
        have lp : ∀ m, (Prw_.LoadF ⟨b, off + k * 2, none⟩).run Try.prog (wc.drewN m) = .ok (Prw_.v x) (wc.drewN m) := fun m => pr_load (W := wc.drewN m) k0 k1
        have e1 : (x.a != x.a) = false := by simp
        have e2 : (x.b != x.b) = false := by simp
        have sh : ∀ m, (Lw_.StoreF ⟨W.heap.size, 0, none⟩ (Lw_.v y)).run Try.prog (wc.drewN m) = .ok () ((wc.drewN m).setRow W.heap.size (Lw_.C y)) := fun m => Lw_.Box.storeF (W := wc.drewN m) hd'.bx y
        clear hg hy hd' CN HLIM lh
        have key : (k = 0 ∧ n = 0) ∨ (∃ (j : Nat) (p : Pr) (r : Bool), k = j + 1 ∧ (∀ m, (Prw_.LoadF ⟨b, off + j * 2, none⟩).run Try.prog (wc.drewN m) = .ok (Prw_.v p) (wc.drewN m)) ∧ (∀ w, (binOp .eql 29 (Prw_.v x) (Prw_.v p)).run Try.prog w = .ok (.bool r) w) ∧ n = if r then 1 else 0) := by
          cases k with
          | zero => exact .inl ⟨rfl, by rw [HNN.out, HH.out]; exact ag_first _ _⟩
          | succ j =>
            have hj : j < l.length := by have := HLT.out; omega
            obtain ⟨b', off', hsa', hbl', d0, d1⟩ := HS.out.lies j hj
            cases hsa'
            refine .inr ⟨j, l[j], decide (x = l[j]), rfl, fun m => pr_load (W := wc.drewN m) ((HD2.out.bel.cell hbl').trans d0) ((HD2.out.bel.cell hbl').trans d1), fun w => pr_eql _ _ w, ?_⟩
            have hgd : l.getD j zr = l[j] := by rw [List.getD_eq_getElem?_getD, List.getElem?_eq_getElem hj]; rfl
            rw [HNN.out, HH.out, hist_succ, hgd]
            by_cases hxp : x = l[j]
            · rw [ag_same hxp, decide_eq_true hxp]; rfl
            · rw [ag_other hxp, decide_eq_false hxp]; rfl
        have fin : Hid (∀ m, Dst W (hist l (k + 1)) ((wc.drewN m).setRow W.heap.size (Lw_.C y))) := by
          intro m
          rw [HA.out]
          exact ⟨(HD2.out.drewN m).bx.setRow y, below_setRow (HD2.out.drewN m).bel (Nat.le_refl _) _⟩
        rcases key with ⟨rfl, rfl⟩ | ⟨j, p, r, hkj, lj, he, rfl⟩
        · simp only [Nat.zero_mul, Nat.add_zero] at k0 k1 lp
          go_wp2
          go_quiet (fail)
          go_wp2
          go_quiet (fail)
          go_wp2
          go_roundw
          case rel => exact ⟨1, by go_num, HLT.out, fin.out _⟩
          case measure => have := HLT.out; simp [intOf]; omega
        · have gd : ∀ w, (eqGuard .eql 29 (.tmp 38) (.tmp 43) (Prw_.v x) (Prw_.v p)).run Try.prog w = .ok () w := fun w => pr_guard .eql (.tmp 38) (.tmp 43) x p w
          have i0 : decide ((0 : Int) < (k : Int)) = true := decide_eq_true (by omega)
          have i1 : decide (0 < k) = true := decide_eq_true (by omega)
          have ij : (k : Int) - 1 = (j : Int) := by omega
          have il : j < l.length := by have := HLT.out; omega
          have ik : k < l.length := HLT.out
          have HKJ := Lib.hid hkj
          clear hkj
          cases r
          all_goals
            simp only [Bool.false_eq_true, if_true, if_false] at *
            go_wp2
            go_quiet (fail)
            go_wp2
            go_quiet (fail)
            go_wp2
            go_roundw
            case rel => exact ⟨k + 1, by go_num, HLT.out, fin.out _⟩
            case measure => have := HLT.out; simp [intOf]; omega
    · go_returns
      exact ⟨rfl, B2.out⟩
theorem historyDetects_walk0 (l : List Pr) (sa : Option Addr) (c : Nat) {W : World} (h : Pr_.Sl W sa l c) (_ : l.length ≤ maxLen) :
    Calls Try.prog 4 #[.slice sa l.length c] W fun e W' => e = .returned (.bool true) ∧ Below W.heap.size W W' := detects_any l sa c h (by assumption)
end Go.Proofs.Ytacjdgglfeemcaa
