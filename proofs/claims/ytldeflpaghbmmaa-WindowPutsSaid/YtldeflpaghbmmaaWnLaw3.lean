/-
  THE LAW WindowPuts over the walks.
-/
import Derived.Test.YtldeflpaghbmmaaWnRefC
import Derived.Test.YtldeflpaghbmmaaWnSame
import Derived.Deep.RegionWith
import Derived.Deep.DeepCutAuto
import Derived.Deep.RegionHeld
import Derived.Deep.MidRow
namespace Go.Proofs.Ytldeflpaghbmmaa
open Go.RowKit Go.Wn Go.Sq Go.Wr
attribute [local go_sem ↓ high] Wv_.loadF Wv_.storeF Wv_.v_cells Wv_.v_match Ww_.loadF Ww_.storeF Ww_.v_cells Ww_.v_match
attribute [local go_sem] Wv_.C0 Wv_.C1 Wv_.C2 Wv_.C3 Wv_.loadF_new Wv_.storeF_zero Ww_.C0 Ww_.C1 Ww_.C2 Ww_.C3 Ww_.loadF_new Ww_.storeF_zero Oper.semAt_some

theorem chk_sz {s : St} (h : chk s = 0) : s.sz ≤ 64 := by
  by_cases h1 : 64 < s.sz
  · rw [chk_bad (.inr (.inr h1))] at h; cases h
  · omega
theorem put_len (s : St) (id : Int) (d : ByteArray) (hl : s.l.length ≤ 900) : (put s id d).1.l.length ≤ 1000 := by
  by_cases h1 : 2048 < d.size
  · rw [put_long h1]; exact Nat.zero_le _
  · by_cases h2 : room s = 0
    · rw [put_full h1 h2]; exact Nat.zero_le _
    · rw [put_go h1 h2]
      show (s.l ++ [_]).length ≤ 1000
      rw [List.length_append, List.length_singleton]; omega

/-- What the law holds: the given state (of the reference, of the program), what Put gave (of each), the state without Request. -/
structure Pu (W : World) (g7 g8 g11 g14 : Nat) (x x1 x2 : Wn) (s p : St) (wi : World) : Prop where
  v : Kv W W.heap.size x s wi
  a : Kp W g7 x s wi
  t : Kp W g8 x1 p wi
  u : Kv W g11 x2 p wi
  c : Kv W g14 { x with rq := false } (confirm s) wi
theorem Pu.keep {W : World} {g7 g8 g11 g14 : Nat} {x x1 x2 : Wn} {s p : St} {wi wj : World} (h : Pu W g7 g8 g11 g14 x x1 x2 s p wi) (hb : Below wi.heap.size wi wj) : Pu W g7 g8 g11 g14 x x1 x2 s p wj :=
  ⟨h.v.keep hb, h.a.keep hb, h.t.keep hb, h.u.keep hb, h.c.keep hb⟩
theorem Pu.ld {W : World} {g7 g8 g11 g14 : Nat} {x x1 x2 : Wn} {s p : St} {wi : World} (h : Pu W g7 g8 g11 g14 x x1 x2 s p wi) : (Wv_.LoadF ⟨W.heap.size, 0, none⟩).run Try.prog wi = .ok (Wv_.v x) wi ∧ (Ww_.LoadF ⟨g7, 0, none⟩).run Try.prog wi = .ok (Ww_.v x) wi ∧ (Ww_.LoadF ⟨g8, 0, none⟩).run Try.prog wi = .ok (Ww_.v x1) wi ∧ (Wv_.LoadF ⟨g11, 0, none⟩).run Try.prog wi = .ok (Wv_.v x2) wi ∧ (Wv_.LoadF ⟨g14, 0, none⟩).run Try.prog wi = .ok (Wv_.v { x with rq := false }) wi :=
  ⟨h.v.bx.loadF, h.a.bx.loadF, h.t.bx.loadF, h.u.bx.loadF, h.c.bx.loadF⟩

set_option maxRecDepth 100000 in
set_option maxHeartbeats 16000000 in
theorem windowPuts_walk0 (x : Wn) (s : St) {W : World} (hL : Lies W x s) (id : Int) (_ : (Lit.int .i64 id).wf = true) (d : ByteArray) (_ : d.size ≤ 140737488351232) :
    Calls Try.prog 4 #[Wv_.v x, .int .i64 id, .string d] W fun e w' => e = .returned (.bool true) ∧ Below W.heap.size W w' := by
  obtain ⟨w1, hw1⟩ : ∃ w1, W.alloc (.cells (Wv_.C x) 24) = w1 := ⟨_, rfl⟩
  have X1 : Wv_.Box w1 W.heap.size x := hw1 ▸ Wv_.Box.new W x
  have B1 : Below W.heap.size W w1 := hw1 ▸ (Below.refl _ _).alloc (Nat.le_refl _) _
  have V1 := Lib.hid (show Kv W W.heap.size x s w1 from ⟨X1, hL.below B1, B1⟩)
  have l1 := X1.loadF
  have CF := Lib.hid (fun w => few22_any x w)
  have CL := Lib.hid lives22_any
  have hn := hL.n
  clear hL X1 B1
  by_cases h70 : x.n ≤ 70
  · rw [decide_eq_true h70] at CF
    have hl : s.l.length ≤ 1000 := by omega
    have hl9 : s.l.length ≤ 900 := by omega
    have CR := Lib.hid (fun w (h : Lies w x s) => r22_check_any x s w h hl)
    by_cases hK : chk s = 0
    · rw [hK] at CR
      have hz : wid s.sz ≤ 9223372036854775807 := by
        have := chk_sz hK
        unfold wid; split <;> omega
      have CT := Lib.hid (fun w => state22_any x w)
      have CP := Lib.hid (fun w h => wn_put_any x s id d w h hl hz)
      have CPr := Lib.hid (fun w h => r22_put_any x s id d w h hl hz)
      have CC := Lib.hid (fun w h => wn_confirm_any x s w h hl)
      have CS := Lib.hid (fun w h => wn_start_any x s w h)
      have CSr := Lib.hid (fun w h => r22_start_any x s w h)
      have CO := Lib.hid (fun w h => wn_room_any x s w h hz)
      have COr := Lib.hid (fun w h => r22_room_any x s w h hz)
      have CD := Lib.hid (fun w h => wn_due_any x s id w h hl)
      have CDr := Lib.hid (fun w h => r22_due_any x s id w h hl)
      have hdl : (dueL s id).length ≤ 1000 := by
        have h1 := List.length_filter_le isOp s.l
        have h2 : (dueL s id).length ≤ (s.l.filter isOp).length := by unfold dueL; rw [List.length_take]; omega
        omega
      have CQ := Lib.hid (fun sa sb c c' w h h' => r22_sameSent_any (dueL s id) sa sb c c' w h h' hdl)
      have CS1 := Lib.hid (fun p q w h h' => same22_any p q (put s id d).1 w h h' (put_len s id d hl9))
      have CS2 := Lib.hid (fun p q w h h' => same22_any p q (confirm s) w h h' hl)
      unfold PutPost at CP
      unfold PutPostV at CPr
      generalize put s id d = P at *
      generalize room s = R at *
      generalize dueL s id = D at *
      generalize bgn s = S0 at *
      clear hK h70 hl hl9 hn hz hdl
      go_enter Try.func4, Try.ntmps4
      go_wp2_with (first
        | (go_at_call 9; refine (CF.out _).mono ?_; rintro e w2 ⟨rfl, hw2⟩; have V2 := Lib.hid (V1.out.keep hw2); have l2 := V2.out.bx.loadF; clear hw2)
        | (go_at_call 13; refine (CR.out w2 V2.out.lies).mono ?_; rintro e w3 ⟨rfl, hw3⟩; have V3 := Lib.hid (V2.out.keep hw3); have l3 := V3.out.bx.loadF; clear hw3)
        | (go_at_call 12; refine (CT.out w3).mono ?_))
      rintro e w4 ⟨rfl, hw4⟩
      have V4 := Lib.hid (V3.out.keep hw4)
      obtain ⟨w5, hw5⟩ : ∃ w5, w4.alloc (.cells (Ww_.C x) 29) = w5 := ⟨_, rfl⟩
      have hz5 := Ww_.storeF_zero w4 x
      rw [hw5] at hz5
      have b45 : Below w4.heap.size w4 w5 := hw5 ▸ (Below.refl _ _).alloc (Nat.le_refl _) _
      have V5 := Lib.hid (V4.out.keep b45)
      have A5 := Lib.hid (show Kp W w4.heap.size x s w5 from ⟨hw5 ▸ Ww_.Box.new w4 x, V4.out.lies.below b45, V4.out.bel.trans (b45.mono V4.out.bel.size)⟩)
      have l5 := A5.out.bx.loadF
      clear hw4 b45
      go_wp2_with fail
      refine (CP.out w5 V5.out.lies).mono ?_
      rintro e w6 ⟨x1, rfl, hO1⟩
      obtain ⟨w7, hw7⟩ : ∃ w7, w6.alloc (.cells (Ww_.C x1) 29) = w7 := ⟨_, rfl⟩
      have hz7 := Ww_.storeF_zero w6 x1
      rw [hw7] at hz7
      have b57 := hO1.bel.trans ((show Below w6.heap.size w6 w7 from hw7 ▸ (Below.refl _ _).alloc (Nat.le_refl _) _).mono hO1.bel.size)
      have T7 := Lib.hid (show Kp W w6.heap.size x1 P.1 w7 from hw7 ▸ Kp.new hO1 V5.out.bel)
      have V7 := Lib.hid (V5.out.keep b57)
      have A7 := Lib.hid (A5.out.keep b57)
      have l7 := V7.out.bx.loadF
      clear hO1 b57
      go_wp2_with fail
      refine (CPr.out w7 V7.out.lies).mono ?_
      rintro e w8 ⟨x2, rfl, hO2⟩
      obtain ⟨w9, hw9⟩ : ∃ w9, w8.alloc (.cells (Wv_.C x2) 24) = w9 := ⟨_, rfl⟩
      have hz9 := Wv_.storeF_zero w8 x2
      rw [hw9] at hz9
      have b79 := hO2.bel.trans ((show Below w8.heap.size w8 w9 from hw9 ▸ (Below.refl _ _).alloc (Nat.le_refl _) _).mono hO2.bel.size)
      have U9 := Lib.hid (show Kv W w8.heap.size x2 P.1 w9 from hw9 ▸ Kv.new hO2.lies hO2.bel V7.out.bel)
      have V9 := Lib.hid (V7.out.keep b79)
      have A9 := Lib.hid (A7.out.keep b79)
      have T9 := Lib.hid (T7.out.keep b79)
      have l9 := V9.out.bx.loadF
      obtain ⟨w10, hw10⟩ : ∃ w10, w9.alloc (.cells (Wv_.C x) 24) = w10 := ⟨_, rfl⟩
      have hz10 := Wv_.storeF_zero w9 x
      rw [hw10] at hz10
      have X10 : Wv_.Box w10 w9.heap.size x := hw10 ▸ Wv_.Box.new w9 x
      have e10 := X10.all
      have f10 := X10.frozen
      have b10 : Below w9.heap.size w9 (w10.setCell ⟨w9.heap.size, 3, none⟩ (.bool false)) := (show Below w9.heap.size w9 w10 from hw10 ▸ (Below.refl _ _).alloc (Nat.le_refl _) _).setCell (Nat.le_refl _) _
      have X11 : Wv_.Box (w10.setCell ⟨w9.heap.size, 3, none⟩ (.bool false)) w9.heap.size { x with rq := false } := X10.set3 false
      obtain ⟨w11, hw11⟩ : ∃ w11, w10.setCell ⟨w9.heap.size, 3, none⟩ (.bool false) = w11 := ⟨_, rfl⟩
      rw [hw11] at b10 X11
      have V11 := V9.out.keep b10
      have P11 := Lib.hid (show Pu W w4.heap.size w6.heap.size w8.heap.size w9.heap.size x x1 x2 s P.1 w11 from ⟨V11, A9.out.keep b10, T9.out.keep b10, U9.out.keep b10, ⟨X11, ⟨V11.lies.nx, V11.lies.sz, rfl, V11.lies.n, V11.lies.sl⟩, V11.bel⟩⟩)
      have PD := Lib.hid (P11.out.keep (wj := w11.drew) ⟨rfl, rfl, rfl, Nat.le_refl _, fun _ _ => rfl⟩)
      have lD := PD.out.ld
      clear hO2 b79 X10 X11 V11 b10
      go_upto_region 8 with fail
      go_cut [71] (fun v wx => v = .bool false ∧ Hid (Pu W w4.heap.size w6.heap.size w8.heap.size w9.heap.size x x1 x2 s P.1 wx))
      case first =>
        refine wp_region_held_drew (S := (fun w' => (Wv_.LoadF ⟨W.heap.size, 0, none⟩).run Try.prog w' = .ok (Wv_.v x) w' ∧ (Ww_.LoadF ⟨w4.heap.size, 0, none⟩).run Try.prog w' = .ok (Ww_.v x) w' ∧ (Ww_.LoadF ⟨w6.heap.size, 0, none⟩).run Try.prog w' = .ok (Ww_.v x1) w' ∧ (Wv_.LoadF ⟨w8.heap.size, 0, none⟩).run Try.prog w' = .ok (Wv_.v x2) w' ∧ (Wv_.LoadF ⟨w9.heap.size, 0, none⟩).run Try.prog w' = .ok (Wv_.v { x with rq := false }) w')) (by kernel_rfl) ?_ (fun hHeld => ?_)
        · exact PD.out.ld
        refine wpAnyH_take (i := 0) (oi := { dst := some 44, op := Op.load 29 (Operand.tmp 8), type := 29, pos := "law.go:51", after := #[], guard := none }) (v := ?v1) rfl (by kernel_rfl) (by kernel_rfl) (by kernel_rfl) (fun _ _ _ h => h) (Or.inl ⟨by rfl, ?y1⟩) hHeld ?r1
        case y1 => (intro w hSw; (try dsimp only at hSw); go_simp; try with_reducible rfl)
        try simp only [Act.put, List.setIfInBounds_toArray, List.set_cons_zero, List.set_cons_succ]
        refine wpAnyH_take (i := 1) (oi := { dst := some 45, op := Op.load 24 (Operand.tmp 11), type := 24, pos := "law.go:51", after := #[], guard := none }) (v := ?v2) rfl (by kernel_rfl) (by kernel_rfl) (by kernel_rfl) (fun _ _ _ h => h) (Or.inl ⟨by rfl, ?y2⟩) hHeld ?r2
        case y2 => (intro w hSw; (try dsimp only at hSw); go_simp; try with_reducible rfl)
        try simp only [Act.put, List.setIfInBounds_toArray, List.set_cons_zero, List.set_cons_succ]
        refine wpAnyH_ready (rs := [2]) (by kernel_rfl) (by simp) ?_
        refine AllReadyH.cons (o := { dst := some 46, op := Op.call { callee := Callee.value (Operand.func 14), args := #[Operand.tmp 44, Operand.tmp 45], argTypes := #[29, 24] }, type := 4, pos := "law.go:51", after := #[{ on := 0, ground := Ground.data }, { on := 1, ground := Ground.data }], guard := none }) rfl (fun K hK => ?_) ?_
        · clear hHeld
          go_simp
          go_at_call 14
          with_reducible refine (CS1.out x1 x2 _ PD.out.t.lies PD.out.u.lies).mono ?_
          rintro e wa ⟨rfl, h⟩
          replace PD := Lib.hid (PD.out.keep h)
          clear h
          refine hK.out _ _ ?_ (fun hHeld => ?_)
          · exact PD.out.ld
          clear hK K
          try simp only [Act.put, List.setIfInBounds_toArray, List.set_cons_zero, List.set_cons_succ]
          refine wpAnyH_take (i := 3) (oi := { dst := some 47, op := Op.unOp UnOp.not 4 (Operand.tmp 46), type := 4, pos := "law.go:51", after := #[{ on := 2, ground := Ground.data }], guard := none }) (v := ?v3) rfl (by kernel_rfl) (by kernel_rfl) (by kernel_rfl) (fun _ _ _ h => h) (Or.inl ⟨by rfl, ?y3⟩) hHeld ?r3
          case y3 => (intro w hSw; (try dsimp only at hSw); go_simp; try with_reducible rfl)
          try simp only [Act.put, List.setIfInBounds_toArray, List.set_cons_zero, List.set_cons_succ]
          refine wpAnyH_take (i := 4) (oi := { dst := some 48, op := Op.move (Operand.tmp 47), type := 4, pos := "law.go:51", after := #[{ on := 3, ground := Ground.data }, { on := 2, ground := Ground.chain }], guard := none }) (v := ?v4) rfl (by kernel_rfl) (by kernel_rfl) (by kernel_rfl) (fun _ _ _ h => h) (Or.inl ⟨by rfl, ?y4⟩) hHeld ?r4
          case y4 => (intro w hSw; (try dsimp only at hSw); go_simp; try with_reducible rfl)
          try simp only [Act.put, List.setIfInBounds_toArray, List.set_cons_zero, List.set_cons_succ]
          refine wpAnyH_take (i := 5) (oi := { dst := some 49, op := Op.move (Operand.tmp 9), type := 3, pos := "law.go:51", after := #[{ on := 4, ground := Ground.guard }], guard := some (4, false) }) (v := ?v5) rfl (by kernel_rfl) (by kernel_rfl) (by kernel_rfl) (fun _ _ _ h => h) (Or.inl ⟨by rfl, ?y5⟩) hHeld ?r5
          case y5 => (intro w hSw; (try dsimp only at hSw); go_simp; try with_reducible rfl)
          try simp only [Act.put, List.setIfInBounds_toArray, List.set_cons_zero, List.set_cons_succ]
          refine wpAnyH_take (i := 6) (oi := { dst := some 50, op := Op.move (Operand.tmp 12), type := 3, pos := "law.go:51", after := #[{ on := 4, ground := Ground.guard }], guard := some (4, false) }) (v := ?v6) rfl (by kernel_rfl) (by kernel_rfl) (by kernel_rfl) (fun _ _ _ h => h) (Or.inl ⟨by rfl, ?y6⟩) hHeld ?r6
          case y6 => (intro w hSw; (try dsimp only at hSw); go_simp; try with_reducible rfl)
          try simp only [Act.put, List.setIfInBounds_toArray, List.set_cons_zero, List.set_cons_succ]
          refine wpAnyH_take (i := 7) (oi := { dst := some 51, op := Op.binOp BinOp.neq 3 (Operand.tmp 49) (Operand.tmp 50) 3, type := 4, pos := "law.go:51", after := #[{ on := 5, ground := Ground.data }, { on := 6, ground := Ground.data }, { on := 4, ground := Ground.guard }], guard := some (4, false) }) (v := ?v7) rfl (by kernel_rfl) (by kernel_rfl) (by kernel_rfl) (fun _ _ _ h => h) (Or.inl ⟨by rfl, ?y7⟩) hHeld ?r7
          case y7 => (intro w hSw; (try dsimp only at hSw); go_simp; try with_reducible rfl)
          try simp only [Act.put, List.setIfInBounds_toArray, List.set_cons_zero, List.set_cons_succ]
          refine wpAnyH_take (i := 8) (oi := { dst := some 52, op := Op.pick (Operand.tmp 48) (Operand.const (Value.bool true)) (Operand.tmp 51), type := 4, pos := "law.go:51", after := #[{ on := 4, ground := Ground.data }, { on := 7, ground := Ground.data }], guard := none }) (v := ?v8) rfl (by kernel_rfl) (by kernel_rfl) (by kernel_rfl) (fun _ _ _ h => h) (Or.inl ⟨by rfl, ?y8⟩) hHeld ?r8
          case y8 => (intro w hSw; (try dsimp only at hSw); go_simp; try with_reducible rfl)
          try simp only [Act.put, List.setIfInBounds_toArray, List.set_cons_zero, List.set_cons_succ]
          refine wpAnyH_take (i := 9) (oi := { dst := some 53, op := Op.move (Operand.tmp 52), type := 4, pos := "law.go:51", after := #[{ on := 8, ground := Ground.data }, { on := 4, ground := Ground.chain }], guard := none }) (v := ?v9) rfl (by kernel_rfl) (by kernel_rfl) (by kernel_rfl) (fun _ _ _ h => h) (Or.inl ⟨by rfl, ?y9⟩) hHeld ?r9
          case y9 => (intro w hSw; (try dsimp only at hSw); go_simp; try with_reducible rfl)
          try simp only [Act.put, List.setIfInBounds_toArray, List.set_cons_zero, List.set_cons_succ]
          refine wpAnyH_take (i := 10) (oi := { dst := some 54, op := Op.move (Operand.tmp 10), type := 27, pos := "law.go:51", after := #[{ on := 9, ground := Ground.guard }], guard := some (9, false) }) (v := ?v10) rfl (by kernel_rfl) (by kernel_rfl) (by kernel_rfl) (fun _ _ _ h => h) (Or.inl ⟨by rfl, ?y10⟩) hHeld ?r10
          case y10 => (intro w hSw; (try dsimp only at hSw); go_simp; try with_reducible rfl)
          try simp only [Act.put, List.setIfInBounds_toArray, List.set_cons_zero, List.set_cons_succ]
          refine wpAnyH_take (i := 11) (oi := { dst := some 55, op := Op.move (Operand.tmp 13), type := 27, pos := "law.go:51", after := #[{ on := 9, ground := Ground.guard }], guard := some (9, false) }) (v := ?v11) rfl (by kernel_rfl) (by kernel_rfl) (by kernel_rfl) (fun _ _ _ h => h) (Or.inl ⟨by rfl, ?y11⟩) hHeld ?r11
          case y11 => (intro w hSw; (try dsimp only at hSw); go_simp; try with_reducible rfl)
          try simp only [Act.put, List.setIfInBounds_toArray, List.set_cons_zero, List.set_cons_succ]
          refine wpAnyH_take (i := 12) (oi := { dst := some 56, op := Op.binOp BinOp.neq 27 (Operand.tmp 54) (Operand.tmp 55) 27, type := 4, pos := "law.go:51", after := #[{ on := 10, ground := Ground.data }, { on := 11, ground := Ground.data }, { on := 9, ground := Ground.guard }], guard := some (9, false) }) (v := ?v12) rfl (by kernel_rfl) (by kernel_rfl) (by kernel_rfl) (fun _ _ _ h => h) (Or.inl ⟨by rfl, ?y12⟩) hHeld ?r12
          case y12 => (intro w hSw; (try dsimp only at hSw); go_simp; try with_reducible rfl)
          try simp only [Act.put, List.setIfInBounds_toArray, List.set_cons_zero, List.set_cons_succ]
          refine wpAnyH_take (i := 13) (oi := { dst := some 57, op := Op.pick (Operand.tmp 53) (Operand.const (Value.bool true)) (Operand.tmp 56), type := 4, pos := "law.go:51", after := #[{ on := 9, ground := Ground.data }, { on := 12, ground := Ground.data }], guard := none }) (v := ?v13) rfl (by kernel_rfl) (by kernel_rfl) (by kernel_rfl) (fun _ _ _ h => h) (Or.inl ⟨by rfl, ?y13⟩) hHeld ?r13
          case y13 => (intro w hSw; (try dsimp only at hSw); go_simp; try with_reducible rfl)
          try simp only [Act.put, List.setIfInBounds_toArray, List.set_cons_zero, List.set_cons_succ]
          refine wpAnyH_take (i := 14) (oi := { dst := some 58, op := Op.move (Operand.tmp 57), type := 4, pos := "law.go:51", after := #[{ on := 13, ground := Ground.data }, { on := 9, ground := Ground.chain }], guard := none }) (v := ?v14) rfl (by kernel_rfl) (by kernel_rfl) (by kernel_rfl) (fun _ _ _ h => h) (Or.inl ⟨by rfl, ?y14⟩) hHeld ?r14
          case y14 => (intro w hSw; (try dsimp only at hSw); go_simp; try with_reducible rfl)
          try simp only [Act.put, List.setIfInBounds_toArray, List.set_cons_zero, List.set_cons_succ]
          refine wpAnyH_take (i := 15) (oi := { dst := some 59, op := Op.load 29 (Operand.tmp 7), type := 29, pos := "law.go:51", after := #[{ on := 14, ground := Ground.guard }], guard := some (14, false) }) (v := ?v15) rfl (by kernel_rfl) (by kernel_rfl) (by kernel_rfl) (fun _ _ _ h => h) (Or.inl ⟨by rfl, ?y15⟩) hHeld ?r15
          case y15 => (intro w hSw; (try dsimp only at hSw); go_simp; try with_reducible rfl)
          try simp only [Act.put, List.setIfInBounds_toArray, List.set_cons_zero, List.set_cons_succ]
          refine wpAnyH_take (i := 17) (oi := { dst := some 61, op := Op.load 24 (Operand.tmp 14), type := 24, pos := "law.go:51", after := #[{ on := 14, ground := Ground.guard }], guard := some (14, false) }) (v := ?v16) rfl (by kernel_rfl) (by kernel_rfl) (by kernel_rfl) (fun _ _ _ h => h) (Or.inl ⟨by rfl, ?y16⟩) hHeld ?r16
          case y16 => (intro w hSw; (try dsimp only at hSw); go_simp; try with_reducible rfl)
          try simp only [Act.put, List.setIfInBounds_toArray, List.set_cons_zero, List.set_cons_succ]
          refine wpAnyH_ready (rs := [16]) (by kernel_rfl) (by simp) ?_
          refine AllReadyH.cons (o := { dst := some 60, op := Op.call { callee := Callee.value (Operand.func 19), args := #[Operand.tmp 59], argTypes := #[29] }, type := 29, pos := "law.go:51", after := #[{ on := 15, ground := Ground.data }, { on := 14, ground := Ground.chain }, { on := 14, ground := Ground.guard }], guard := some (14, false) }) rfl (fun K hK => ?_) ?_
          · clear hHeld
            go_simp
            go_at_call 19
            with_reducible refine (CC.out _ PD.out.a.lies).mono ?_
            rintro e wb ⟨xk, rfl, hO⟩
            have h := hO.bel
            have HO := Lib.hid hO.lies
            clear hO
            replace PD := Lib.hid (PD.out.keep h)
            clear h
            refine hK.out _ _ ?_ (fun hHeld => ?_)
            · exact PD.out.ld
            clear hK K
            try simp only [Act.put, List.setIfInBounds_toArray, List.set_cons_zero, List.set_cons_succ]
            refine wpAnyH_ready (rs := [18]) (by kernel_rfl) (by simp) ?_
            refine AllReadyH.cons (o := { dst := some 62, op := Op.call { callee := Callee.value (Operand.func 14), args := #[Operand.tmp 60, Operand.tmp 61], argTypes := #[29, 24] }, type := 4, pos := "law.go:51", after := #[{ on := 16, ground := Ground.data }, { on := 17, ground := Ground.data }, { on := 16, ground := Ground.chain }, { on := 14, ground := Ground.guard }], guard := some (14, false) }) rfl (fun K hK => ?_) ?_
            · clear hHeld
              go_simp
              go_at_call 14
              with_reducible refine (CS2.out xk { x with rq := false } _ HO.out PD.out.c.lies).mono ?_
              rintro e wd ⟨rfl, h⟩
              replace PD := Lib.hid (PD.out.keep h)
              clear h
              refine hK.out _ _ ?_ (fun hHeld => ?_)
              · exact PD.out.ld
              clear hK K
              try simp only [Act.put, List.setIfInBounds_toArray, List.set_cons_zero, List.set_cons_succ]
              refine wpAnyH_take (i := 19) (oi := { dst := some 63, op := Op.unOp UnOp.not 4 (Operand.tmp 62), type := 4, pos := "law.go:51", after := #[{ on := 18, ground := Ground.data }, { on := 14, ground := Ground.guard }], guard := some (14, false) }) (v := ?v17) rfl (by kernel_rfl) (by kernel_rfl) (by kernel_rfl) (fun _ _ _ h => h) (Or.inl ⟨by rfl, ?y17⟩) hHeld ?r17
              case y17 => (intro w hSw; (try dsimp only at hSw); go_simp; try with_reducible rfl)
              try simp only [Act.put, List.setIfInBounds_toArray, List.set_cons_zero, List.set_cons_succ]
              refine wpAnyH_take (i := 20) (oi := { dst := some 64, op := Op.pick (Operand.tmp 58) (Operand.const (Value.bool true)) (Operand.tmp 63), type := 4, pos := "law.go:51", after := #[{ on := 14, ground := Ground.data }, { on := 19, ground := Ground.data }], guard := none }) (v := ?v18) rfl (by kernel_rfl) (by kernel_rfl) (by kernel_rfl) (fun _ _ _ h => h) (Or.inl ⟨by rfl, ?y18⟩) hHeld ?r18
              case y18 => (intro w hSw; (try dsimp only at hSw); go_simp; try with_reducible rfl)
              try simp only [Act.put, List.setIfInBounds_toArray, List.set_cons_zero, List.set_cons_succ]
              refine wpAnyH_take (i := 21) (oi := { dst := some 65, op := Op.move (Operand.tmp 64), type := 4, pos := "law.go:51", after := #[{ on := 20, ground := Ground.data }, { on := 18, ground := Ground.chain }], guard := none }) (v := ?v19) rfl (by kernel_rfl) (by kernel_rfl) (by kernel_rfl) (fun _ _ _ h => h) (Or.inl ⟨by rfl, ?y19⟩) hHeld ?r19
              case y19 => (intro w hSw; (try dsimp only at hSw); go_simp; try with_reducible rfl)
              try simp only [Act.put, List.setIfInBounds_toArray, List.set_cons_zero, List.set_cons_succ]
              refine wpAnyH_take (i := 22) (oi := { dst := some 66, op := Op.load 29 (Operand.tmp 7), type := 29, pos := "law.go:51", after := #[{ on := 21, ground := Ground.guard }], guard := some (21, false) }) (v := ?v20) rfl (by kernel_rfl) (by kernel_rfl) (by kernel_rfl) (fun _ _ _ h => h) (Or.inl ⟨by rfl, ?y20⟩) hHeld ?r20
              case y20 => (intro w hSw; (try dsimp only at hSw); go_simp; try with_reducible rfl)
              try simp only [Act.put, List.setIfInBounds_toArray, List.set_cons_zero, List.set_cons_succ]
              refine wpAnyH_take (i := 24) (oi := { dst := some 68, op := Op.load 24 (Operand.tmp 3), type := 24, pos := "law.go:51", after := #[{ on := 21, ground := Ground.guard }], guard := some (21, false) }) (v := ?v21) rfl (by kernel_rfl) (by kernel_rfl) (by kernel_rfl) (fun _ _ _ h => h) (Or.inl ⟨by rfl, ?y21⟩) hHeld ?r21
              case y21 => (intro w hSw; (try dsimp only at hSw); go_simp; try with_reducible rfl)
              try simp only [Act.put, List.setIfInBounds_toArray, List.set_cons_zero, List.set_cons_succ]
              refine wpAnyH_ready (rs := [23]) (by kernel_rfl) (by simp) ?_
              refine AllReadyH.cons (o := { dst := some 67, op := Op.call { callee := Callee.value (Operand.func 20), args := #[Operand.tmp 66], argTypes := #[29] }, type := 3, pos := "law.go:51", after := #[{ on := 22, ground := Ground.data }, { on := 21, ground := Ground.chain }, { on := 21, ground := Ground.guard }], guard := some (21, false) }) rfl (fun K hK => ?_) ?_
              · clear hHeld
                go_simp
                go_at_call 20
                with_reducible refine (CS.out _ PD.out.a.lies).mono ?_
                rintro e we ⟨rfl, h⟩
                replace PD := Lib.hid (PD.out.keep h)
                clear h
                refine hK.out _ _ ?_ (fun hHeld => ?_)
                · exact PD.out.ld
                clear hK K
                try simp only [Act.put, List.setIfInBounds_toArray, List.set_cons_zero, List.set_cons_succ]
                refine wpAnyH_ready (rs := [25]) (by kernel_rfl) (by simp) ?_
                refine AllReadyH.cons (o := { dst := some 69, op := Op.call { callee := Callee.value (Operand.func 21), args := #[Operand.tmp 68], argTypes := #[24] }, type := 3, pos := "law.go:51", after := #[{ on := 24, ground := Ground.data }, { on := 23, ground := Ground.chain }, { on := 21, ground := Ground.guard }], guard := some (21, false) }) rfl (fun K hK => ?_) ?_
                · clear hHeld
                  go_simp
                  go_at_call 21
                  with_reducible refine (CSr.out _ PD.out.v.lies).mono ?_
                  rintro e wf ⟨rfl, h⟩
                  replace PD := Lib.hid (PD.out.keep h)
                  clear h
                  refine hK.out _ _ ?_ (fun hHeld => ?_)
                  · exact PD.out.ld
                  clear hK K
                  try simp only [Act.put, List.setIfInBounds_toArray, List.set_cons_zero, List.set_cons_succ]
                  refine wpAnyH_take (i := 26) (oi := { dst := some 70, op := Op.binOp BinOp.neq 3 (Operand.tmp 67) (Operand.tmp 69) 3, type := 4, pos := "law.go:51", after := #[{ on := 23, ground := Ground.data }, { on := 25, ground := Ground.data }, { on := 21, ground := Ground.guard }], guard := some (21, false) }) (v := ?v22) rfl (by kernel_rfl) (by kernel_rfl) (by kernel_rfl) (fun _ _ _ h => h) (Or.inl ⟨by rfl, ?y22⟩) hHeld ?r22
                  case y22 => (intro w hSw; (try dsimp only at hSw); go_simp; try with_reducible rfl)
                  try simp only [Act.put, List.setIfInBounds_toArray, List.set_cons_zero, List.set_cons_succ]
                  refine wpAnyH_take (i := 27) (oi := { dst := some 71, op := Op.pick (Operand.tmp 65) (Operand.const (Value.bool true)) (Operand.tmp 70), type := 4, pos := "law.go:51", after := #[{ on := 21, ground := Ground.data }, { on := 26, ground := Ground.data }], guard := none }) (v := ?v23) rfl (by kernel_rfl) (by kernel_rfl) (by kernel_rfl) (fun _ _ _ h => h) (Or.inl ⟨by rfl, ?y23⟩) hHeld ?r23
                  case y23 => (intro w hSw; (try dsimp only at hSw); go_simp; try with_reducible rfl)
                  try simp only [Act.put, List.setIfInBounds_toArray, List.set_cons_zero, List.set_cons_succ]
                  refine wpAnyH_done (by kernel_rfl) ?_ _
                  go_wp2_with fail
                  go_meet
                  exact ⟨rfl, PD⟩
                exact AllReadyH.nil
              exact AllReadyH.nil
            exact AllReadyH.nil
          exact AllReadyH.nil
        exact AllReadyH.nil
      case rest =>
        obtain ⟨rfl, P18⟩ := hcut
        have PD := Lib.hid (P18.out.keep (wj := wc.drew) ⟨rfl, rfl, rfl, Nat.le_refl _, fun _ _ => rfl⟩)
        have lE := PD.out.ld
        go_wp2_with fail
        refine wp_region_held_drew (S := (fun w' => (Wv_.LoadF ⟨W.heap.size, 0, none⟩).run Try.prog w' = .ok (Wv_.v x) w' ∧ (Ww_.LoadF ⟨w4.heap.size, 0, none⟩).run Try.prog w' = .ok (Ww_.v x) w' ∧ (Ww_.LoadF ⟨w6.heap.size, 0, none⟩).run Try.prog w' = .ok (Ww_.v x1) w' ∧ (Wv_.LoadF ⟨w8.heap.size, 0, none⟩).run Try.prog w' = .ok (Wv_.v x2) w' ∧ (Wv_.LoadF ⟨w9.heap.size, 0, none⟩).run Try.prog w' = .ok (Wv_.v { x with rq := false }) w')) (by kernel_rfl) ?_ (fun hHeld => ?_)
        · exact PD.out.ld
        refine wpAnyH_take (i := 0) (oi := { dst := some 72, op := Op.load 29 (Operand.tmp 7), type := 29, pos := "law.go:54", after := #[], guard := none }) (v := ?vb1) rfl (by kernel_rfl) (by kernel_rfl) (by kernel_rfl) (fun _ _ _ h => h) (Or.inl ⟨by rfl, ?yb1⟩) hHeld ?rb1
        case yb1 => (intro w hSw; (try dsimp only at hSw); go_simp; try with_reducible rfl)
        try simp only [Act.put, List.setIfInBounds_toArray, List.set_cons_zero, List.set_cons_succ]
        refine wpAnyH_take (i := 2) (oi := { dst := some 74, op := Op.load 24 (Operand.tmp 3), type := 24, pos := "law.go:54", after := #[], guard := none }) (v := ?vb2) rfl (by kernel_rfl) (by kernel_rfl) (by kernel_rfl) (fun _ _ _ h => h) (Or.inl ⟨by rfl, ?yb2⟩) hHeld ?rb2
        case yb2 => (intro w hSw; (try dsimp only at hSw); go_simp; try with_reducible rfl)
        try simp only [Act.put, List.setIfInBounds_toArray, List.set_cons_zero, List.set_cons_succ]
        refine wpAnyH_ready (rs := [1]) (by kernel_rfl) (by simp) ?_
        refine AllReadyH.cons (o := { dst := some 73, op := Op.call { callee := Callee.value (Operand.func 22), args := #[Operand.tmp 72], argTypes := #[29] }, type := 3, pos := "law.go:54", after := #[{ on := 0, ground := Ground.data }], guard := none }) rfl (fun K hK => ?_) ?_
        · clear hHeld
          go_simp
          go_at_call 22
          with_reducible refine (CO.out _ PD.out.a.lies).mono ?_
          rintro e wa ⟨rfl, h⟩
          replace PD := Lib.hid (PD.out.keep h)
          clear h
          refine hK.out _ _ ?_ (fun hHeld => ?_)
          · exact PD.out.ld
          clear hK K
          try simp only [Act.put, List.setIfInBounds_toArray, List.set_cons_zero, List.set_cons_succ]
          refine wpAnyH_ready (rs := [3]) (by kernel_rfl) (by simp) ?_
          refine AllReadyH.cons (o := { dst := some 75, op := Op.call { callee := Callee.value (Operand.func 23), args := #[Operand.tmp 74], argTypes := #[24] }, type := 3, pos := "law.go:54", after := #[{ on := 2, ground := Ground.data }, { on := 1, ground := Ground.chain }], guard := none }) rfl (fun K hK => ?_) ?_
          · clear hHeld
            go_simp
            go_at_call 23
            with_reducible refine (COr.out _ PD.out.v.lies).mono ?_
            rintro e wb ⟨rfl, h⟩
            replace PD := Lib.hid (PD.out.keep h)
            clear h
            refine hK.out _ _ ?_ (fun hHeld => ?_)
            · exact PD.out.ld
            clear hK K
            try simp only [Act.put, List.setIfInBounds_toArray, List.set_cons_zero, List.set_cons_succ]
            refine wpAnyH_take (i := 4) (oi := { dst := some 76, op := Op.binOp BinOp.eql 3 (Operand.tmp 73) (Operand.tmp 75) 3, type := 4, pos := "law.go:54", after := #[{ on := 1, ground := Ground.data }, { on := 3, ground := Ground.data }], guard := none }) (v := ?vb3) rfl (by kernel_rfl) (by kernel_rfl) (by kernel_rfl) (fun _ _ _ h => h) (Or.inl ⟨by rfl, ?yb3⟩) hHeld ?rb3
            case yb3 => (intro w hSw; (try dsimp only at hSw); go_simp; try with_reducible rfl)
            try simp only [Act.put, List.setIfInBounds_toArray, List.set_cons_zero, List.set_cons_succ]
            refine wpAnyH_take (i := 5) (oi := { dst := some 77, op := Op.move (Operand.tmp 76), type := 4, pos := "law.go:54", after := #[{ on := 4, ground := Ground.data }, { on := 3, ground := Ground.chain }], guard := none }) (v := ?vb4) rfl (by kernel_rfl) (by kernel_rfl) (by kernel_rfl) (fun _ _ _ h => h) (Or.inl ⟨by rfl, ?yb4⟩) hHeld ?rb4
            case yb4 => (intro w hSw; (try dsimp only at hSw); go_simp; try with_reducible rfl)
            try simp only [Act.put, List.setIfInBounds_toArray, List.set_cons_zero, List.set_cons_succ]
            refine wpAnyH_take (i := 6) (oi := { dst := some 78, op := Op.load 29 (Operand.tmp 7), type := 29, pos := "law.go:54", after := #[{ on := 5, ground := Ground.guard }], guard := some (5, true) }) (v := ?vb5) rfl (by kernel_rfl) (by kernel_rfl) (by kernel_rfl) (fun _ _ _ h => h) (Or.inl ⟨by rfl, ?yb5⟩) hHeld ?rb5
            case yb5 => (intro w hSw; (try dsimp only at hSw); go_simp; try with_reducible rfl)
            try simp only [Act.put, List.setIfInBounds_toArray, List.set_cons_zero, List.set_cons_succ]
            refine wpAnyH_take (i := 7) (oi := { dst := some 79, op := Op.move (Operand.tmp 1), type := 3, pos := "law.go:54", after := #[{ on := 5, ground := Ground.guard }], guard := some (5, true) }) (v := ?vb6) rfl (by kernel_rfl) (by kernel_rfl) (by kernel_rfl) (fun _ _ _ h => h) (Or.inl ⟨by rfl, ?yb6⟩) hHeld ?rb6
            case yb6 => (intro w hSw; (try dsimp only at hSw); go_simp; try with_reducible rfl)
            try simp only [Act.put, List.setIfInBounds_toArray, List.set_cons_zero, List.set_cons_succ]
            refine wpAnyH_take (i := 9) (oi := { dst := some 81, op := Op.load 24 (Operand.tmp 3), type := 24, pos := "law.go:54", after := #[{ on := 5, ground := Ground.guard }], guard := some (5, true) }) (v := ?vb7) rfl (by kernel_rfl) (by kernel_rfl) (by kernel_rfl) (fun _ _ _ h => h) (Or.inl ⟨by rfl, ?yb7⟩) hHeld ?rb7
            case yb7 => (intro w hSw; (try dsimp only at hSw); go_simp; try with_reducible rfl)
            try simp only [Act.put, List.setIfInBounds_toArray, List.set_cons_zero, List.set_cons_succ]
            refine wpAnyH_take (i := 10) (oi := { dst := some 82, op := Op.move (Operand.tmp 1), type := 3, pos := "law.go:54", after := #[{ on := 5, ground := Ground.guard }], guard := some (5, true) }) (v := ?vb8) rfl (by kernel_rfl) (by kernel_rfl) (by kernel_rfl) (fun _ _ _ h => h) (Or.inl ⟨by rfl, ?yb8⟩) hHeld ?rb8
            case yb8 => (intro w hSw; (try dsimp only at hSw); go_simp; try with_reducible rfl)
            try simp only [Act.put, List.setIfInBounds_toArray, List.set_cons_zero, List.set_cons_succ]
            refine wpAnyH_ready (rs := [8]) (by kernel_rfl) (by simp) ?_
            refine AllReadyH.cons (o := { dst := some 80, op := Op.call { callee := Callee.value (Operand.func 25), args := #[Operand.tmp 78, Operand.tmp 79], argTypes := #[29, 3] }, type := 22, pos := "law.go:54", after := #[{ on := 6, ground := Ground.data }, { on := 7, ground := Ground.data }, { on := 5, ground := Ground.chain }, { on := 5, ground := Ground.guard }], guard := some (5, true) }) rfl (fun K hK => ?_) ?_
            · clear hHeld
              go_simp
              go_at_call 25
              with_reducible refine (CD.out _ PD.out.a.lies).mono ?_
              rintro e wd ⟨sa, c, rfl, hS, h⟩
              have HD := Lib.hid hS
              replace PD := Lib.hid (PD.out.keep h)
              clear h
              clear hS
              refine hK.out _ _ ?_ (fun hHeld => ?_)
              · exact PD.out.ld
              clear hK K
              try simp only [Act.put, List.setIfInBounds_toArray, List.set_cons_zero, List.set_cons_succ]
              refine wpAnyH_ready (rs := [11]) (by kernel_rfl) (by simp) ?_
              refine AllReadyH.cons (o := { dst := some 83, op := Op.call { callee := Callee.value (Operand.func 26), args := #[Operand.tmp 81, Operand.tmp 82], argTypes := #[24, 3] }, type := 22, pos := "law.go:54", after := #[{ on := 9, ground := Ground.data }, { on := 10, ground := Ground.data }, { on := 8, ground := Ground.chain }, { on := 5, ground := Ground.guard }], guard := some (5, true) }) rfl (fun K hK => ?_) ?_
              · clear hHeld
                go_simp
                go_at_call 26
                with_reducible refine (CDr.out _ PD.out.v.lies).mono ?_
                rintro e we ⟨sb, c', rfl, hS, h⟩
                have HE := Lib.hid hS
                replace HD := Lib.hid (HD.out.below h)
                replace PD := Lib.hid (PD.out.keep h)
                clear h
                clear hS
                refine hK.out _ _ ?_ (fun hHeld => ?_)
                · exact PD.out.ld
                clear hK K
                try simp only [Act.put, List.setIfInBounds_toArray, List.set_cons_zero, List.set_cons_succ]
                refine wpAnyH_ready (rs := [12]) (by kernel_rfl) (by simp) ?_
                refine AllReadyH.cons (o := { dst := some 84, op := Op.call { callee := Callee.value (Operand.func 24), args := #[Operand.tmp 80, Operand.tmp 83], argTypes := #[22, 22] }, type := 4, pos := "law.go:54", after := #[{ on := 8, ground := Ground.data }, { on := 11, ground := Ground.data }, { on := 11, ground := Ground.chain }, { on := 5, ground := Ground.guard }], guard := some (5, true) }) rfl (fun K hK => ?_) ?_
                · clear hHeld
                  go_simp
                  go_at_call 24
                  with_reducible refine (CQ.out _ _ _ _ _ HD.out HE.out).mono ?_
                  rintro e wf ⟨rfl, h⟩
                  replace PD := Lib.hid (PD.out.keep h)
                  clear h
                  refine hK.out _ _ ?_ (fun hHeld => ?_)
                  · exact PD.out.ld
                  clear hK K
                  try simp only [Act.put, List.setIfInBounds_toArray, List.set_cons_zero, List.set_cons_succ]
                  refine wpAnyH_take (i := 13) (oi := { dst := some 85, op := Op.pick (Operand.tmp 77) (Operand.tmp 84) (Operand.const (Value.bool false)), type := 4, pos := "law.go:54", after := #[{ on := 5, ground := Ground.data }, { on := 12, ground := Ground.data }], guard := none }) (v := ?vb9) rfl (by kernel_rfl) (by kernel_rfl) (by kernel_rfl) (fun _ _ _ h => h) (Or.inl ⟨by rfl, ?yb9⟩) hHeld ?rb9
                  case yb9 => (intro w hSw; (try dsimp only at hSw); go_simp; try with_reducible rfl)
                  try simp only [Act.put, List.setIfInBounds_toArray, List.set_cons_zero, List.set_cons_succ]
                  refine wpAnyH_take (i := 14) (oi := { dst := some 86, op := Op.move (Operand.tmp 85), type := 4, pos := "law.go:54", after := #[{ on := 13, ground := Ground.data }, { on := 12, ground := Ground.chain }], guard := none }) (v := ?vb10) rfl (by kernel_rfl) (by kernel_rfl) (by kernel_rfl) (fun _ _ _ h => h) (Or.inl ⟨by rfl, ?yb10⟩) hHeld ?rb10
                  case yb10 => (intro w hSw; (try dsimp only at hSw); go_simp; try with_reducible rfl)
                  try simp only [Act.put, List.setIfInBounds_toArray, List.set_cons_zero, List.set_cons_succ]
                  refine wpAnyH_ready (rs := [15]) (by kernel_rfl) (by simp) ?_
                  refine AllReadyH.cons (o := { dst := some 87, op := Op.call { callee := Callee.value (Operand.func 10), args := #[], argTypes := #[] }, type := 4, pos := "law.go:54", after := #[{ on := 14, ground := Ground.chain }, { on := 14, ground := Ground.guard }], guard := some (14, true) }) rfl (fun K hK => ?_) ?_
                  · clear hHeld
                    go_simp
                    go_at_call 10
                    with_reducible refine (CL.out _).mono ?_
                    rintro e wg ⟨rfl, h⟩
                    replace PD := Lib.hid (PD.out.keep h)
                    clear h
                    refine hK.out _ _ ?_ (fun hHeld => ?_)
                    · exact PD.out.ld
                    clear hK K
                    try simp only [Act.put, List.setIfInBounds_toArray, List.set_cons_zero, List.set_cons_succ]
                    refine wpAnyH_take (i := 16) (oi := { dst := some 88, op := Op.pick (Operand.tmp 86) (Operand.tmp 87) (Operand.const (Value.bool false)), type := 4, pos := "law.go:54", after := #[{ on := 14, ground := Ground.data }, { on := 15, ground := Ground.data }], guard := none }) (v := ?vb11) rfl (by kernel_rfl) (by kernel_rfl) (by kernel_rfl) (fun _ _ _ h => h) (Or.inl ⟨by rfl, ?yb11⟩) hHeld ?rb11
                    case yb11 => (intro w hSw; (try dsimp only at hSw); go_simp; try with_reducible rfl)
                    try simp only [Act.put, List.setIfInBounds_toArray, List.set_cons_zero, List.set_cons_succ]
                    refine wpAnyH_take (i := 17) (oi := { dst := some 6, op := Op.assign (Operand.tmp 88), type := 4, pos := "law.go:54", after := #[{ on := 16, ground := Ground.data }, { on := 15, ground := Ground.chain }, { on := 0, ground := Ground.phase }, { on := 1, ground := Ground.phase }, { on := 2, ground := Ground.phase }, { on := 3, ground := Ground.phase }, { on := 4, ground := Ground.phase }, { on := 5, ground := Ground.phase }, { on := 6, ground := Ground.phase }, { on := 7, ground := Ground.phase }, { on := 8, ground := Ground.phase }, { on := 9, ground := Ground.phase }, { on := 10, ground := Ground.phase }, { on := 11, ground := Ground.phase }, { on := 12, ground := Ground.phase }, { on := 13, ground := Ground.phase }, { on := 14, ground := Ground.phase }, { on := 15, ground := Ground.phase }, { on := 16, ground := Ground.phase }], guard := none }) (v := ?vb12) rfl (by kernel_rfl) (by kernel_rfl) (by kernel_rfl) (fun _ _ _ h => h) (Or.inl ⟨by rfl, ?yb12⟩) hHeld ?rb12
                    case yb12 => (intro w hSw; (try dsimp only at hSw); go_simp; try with_reducible rfl)
                    try simp only [Act.put, List.setIfInBounds_toArray, List.set_cons_zero, List.set_cons_succ]
                    refine wpAnyH_done (by kernel_rfl) ?_ _
                    go_wp2_with fail
                    go_returns
                    exact ⟨rfl, PD.out.v.bel⟩
                  exact AllReadyH.nil
                exact AllReadyH.nil
              exact AllReadyH.nil
            exact AllReadyH.nil
          exact AllReadyH.nil
        exact AllReadyH.nil
    · have hK' : (chk s != 0) = true := by simpa using hK
      generalize chk s = K at *
      clear hK hl hn hl9
      go_enter Try.func4, Try.ntmps4
      go_wp2_with (first
        | (go_at_call 9; refine (CF.out _).mono ?_; rintro e w2 ⟨rfl, hw2⟩; have V2 := Lib.hid (V1.out.keep hw2); have l2 := V2.out.bx.loadF; clear hw2)
        | (go_at_call 13; refine (CR.out w2 V2.out.lies).mono ?_; rintro e w3 ⟨rfl, hw3⟩; have V3 := Lib.hid (V2.out.keep hw3); clear hw3)
        | (go_at_call 10; refine (CL.out w3).mono ?_; rintro e w4 ⟨rfl, hw4⟩; have V4 := Lib.hid (V3.out.keep hw4); clear hw4))
      go_returns
      exact ⟨rfl, V4.out.bel⟩
  · rw [decide_eq_false h70] at CF
    clear hn
    go_enter Try.func4, Try.ntmps4
    go_wp2_with (first
      | (go_at_call 9; refine (CF.out _).mono ?_; rintro e w2 ⟨rfl, hw2⟩; have V2 := Lib.hid (V1.out.keep hw2); clear hw2)
      | (go_at_call 10; refine (CL.out w2).mono ?_; rintro e w3 ⟨rfl, hw3⟩; have V3 := Lib.hid (V2.out.keep hw3); clear hw3))
    go_returns
    exact ⟨rfl, V3.out.bel⟩
end Go.Proofs.Ytldeflpaghbmmaa
