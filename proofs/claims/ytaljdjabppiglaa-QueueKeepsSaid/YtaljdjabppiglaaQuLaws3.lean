/-
  THE LAW QueueKeeps over the walks (its region 15 written by gen_branch.py with keeps23_conf.py by mkkeeps23.py).
-/
import Derived.Test.YtaljdjabppiglaaQuAsc
import Derived.Deep.RegionWith
import Derived.Deep.DeepCutAuto
import Derived.Deep.RegionHeld
namespace Go.Proofs.Ytaljdjabppiglaa
open Go.RowKit Go.Qu Go.Wr Go.Ad
attribute [local go_sem ↓ high] Ix_.loadF Ix_.storeF Ix_.v_cells Ix_.v_match
attribute [local go_sem] Ix_.C0 Ix_.C1 Ix_.C2 Ix_.C3 Ix_.C4 Ix_.C5 Ix_.C6 Ix_.loadF_new Ix_.storeF_zero Oper.semAt_some fold_c Ix_.Csize

theorem Tw.own {w wi wj : World} {v u v' : Value} {l m l' : List It} (h : Tw w v u l m wi) (o : OwnIt wi wj v' l') : Tw w v' u l' m wj := by
  refine ⟨owns_up23 o.1 h.bel.size, owns_below23 h.b o.2, fun g hv hu => ?_, h.bel.trans (o.2.mono h.bel.size)⟩
  have := (owns_blk23 o.1 hv).1
  have := (owns_blk23 h.b hu).2
  omega
theorem Tw.next {w wi wj : World} {v u v' u' : Value} {l m l' m' : List It} (h : Tw w v u l m wi) (o : Tw wi v' u' l' m' wj) : Tw w v' u l' m wj := h.own ⟨o.a, o.bel⟩
theorem one_sl (w : World) (y : It) : It_.Sl (w.alloc (.cells (Ix_.C y) 28)) (some ⟨w.heap.size, 0, none⟩) [y] 1 := It_.sl_lit w [y] (by show 1 ≤ maxLen; unfold maxLen; omega)
theorem _root_.Go.Qu.Kq.pop {q g : List It} {n k : Nat} (h : Kq q g n k) (a : Int) (hp : popB a q = true) : Kq (popL a q) (g ++ [popI a q]) n k := by
  have hf : fidx (isTo a) q < q.length := of_decide_eq_true hp
  unfold popL popI
  rw [if_pos hf, if_pos hf, itAt_eq hf]
  exact h.part (without_perm hf) (without_sub _)
theorem _root_.Go.Qu.Kq.nopop {q g : List It} {n k : Nat} (h : Kq q g n k) (a : Int) (hp : popB a q = false) : Kq (popL a q) g n k := by
  have hf : ¬ fidx (isTo a) q < q.length := of_decide_eq_false hp
  unfold popL
  rw [if_neg hf]
  exact h
theorem _root_.Go.Qu.Kq.filt {q g : List It} {n k : Nat} (h : Kq q g n k) (P : It → Bool) : Kq (q.filter (neg P)) (g ++ q.filter P) n k := h.part (filter_perm P q) List.filter_sublist

set_option maxRecDepth 100000 in
set_option maxHeartbeats 16000000 in
theorem queueKeeps_walk0 (L : List Oc_.Oc) (sa : Option Addr) (c0 : Nat) {W : World} (hO : Oc_.At W sa L) (_ : L.length ≤ c0) :
    Calls Try.prog 3 #[.slice sa L.length c0] W fun e w' => e = .returned (.bool true) ∧ Below W.heap.size W w' := by
  have CL := Lib.hid lives23_any
  have HO := Lib.hid hO
  obtain ⟨m, hm⟩ : ∃ m, L.length = m := ⟨_, rfl⟩
  have HM := Lib.hid hm
  rw [hm]
  clear hO hm
  by_cases h60 : m ≤ 60
  case neg =>
    have h60' : (60 : Int) < (m : Int) := by omega
    go_enter Try.func3, Try.ntmps3
    go_wp2_with (go_at_call 7; refine (CL.out _).mono ?_; rintro e w3 ⟨rfl, h⟩; have B3 := Lib.hid h; clear h)
    go_returns
    exact ⟨rfl, B3.out⟩
  have h60' : ¬ (60 : Int) < (m : Int) := by omega
  have CK : Hid (∀ s q d W1, (∀ p ∈ q, Wf p) → It_.Sl W1 s q d → q.length ≤ 1000 → Calls Try.prog 12 #[.slice s q.length d] W1 fun e w' => e = .returned (.int .i64 (chk q)) ∧ Below W1.heap.size W1 w') := fun s q d W1 h1 h2 h3 => qu_check_any s q d W1 h1 h2 h3
  go_enter Try.func3, Try.ntmps3
  go_wp2
  go_loopw [3, 4, 5, 6] (fun v u kv z wr => ∃ (i k : Nat) (q g : List It), z = .int .i64 i ∧ kv = .int .i64 k ∧ i ≤ m ∧ Hid (Kq q g i k) ∧ k ≤ i ∧ Hid (Tw W v u q g wr)) (fun _ _ _ z _ => m - (intOf z).toNat)
  case atStart => exact ⟨0, 0, [], [], rfl, rfl, Nat.zero_le _, Kq.nil, Nat.le_refl _, Tw.nil W⟩
  case round =>
    rename World => wr
    obtain ⟨i, k, q, g, rfl, rfl, hi, HK, hki, HT⟩ := hrel
    have HKI := Lib.hid hki
    have HGL : Hid (g.length ≤ 60) := by have := HK.out.sum; show g.length ≤ 60; omega
    have HQL0 := Lib.hid HK.out.len
    have hk61 : k ≤ 60 := by omega
    by_cases hlt : i < m
    · have hil : i < L.length := by have := HM.out; omega
      have hlt' : (i : Int) < (m : Int) := by omega
      have i0 : (0 : Int) ≤ (i : Int) := by omega
      obtain ⟨bb, off, hsa, hbl, h1⟩ := HO.out i hil
      subst hsa
      generalize L[i] = o at *
      have HLT := Lib.hid hlt
      have hi60 : i ≤ 60 := by omega
      have HON := Lib.hid (fun W1 (h : Below W.heap.size W W1) => h1.below h hbl)
      have ld := (HON.out wr HT.out.bel).load
      obtain ⟨x0, hx0⟩ : ∃ x0, o.it = x0 := ⟨_, rfl⟩
      rw [hx0] at ld
      obtain ⟨w1, hw1⟩ : ∃ w1, wr.alloc (.cells (Ix_.C x0) 28) = w1 := ⟨_, rfl⟩
      have hz1 := Ix_.storeF_zero wr x0
      rw [hw1] at hz1
      have X1 : Ix_.Box w1 wr.heap.size x0 := hw1 ▸ Ix_.Box.new wr x0
      have b1 : Below wr.heap.size wr w1 := hw1 ▸ (Below.refl _ _).alloc (Nat.le_refl _) _
      have e1 := X1.all
      have f1 := X1.frozen
      have k1 := (HON.out w1 (HT.out.bel.trans (b1.mono HT.out.bel.size))).k
      obtain ⟨w2, hw2⟩ : ∃ w2, w1.setCell ⟨wr.heap.size, 0, none⟩ (.int .i64 ((i : Int) + 1)) = w2 := ⟨_, rfl⟩
      have b2 : Below wr.heap.size wr w2 := hw2 ▸ b1.setCell (Nat.le_refl _) _
      have X2 := Lib.hid (show Ix_.Box w2 wr.heap.size { x0 with id := (i : Int) + 1 } from hw2 ▸ X1.set0 _)
      have HX := Lib.hid (show Wf { x0 with id := (i : Int) + 1 } ∧ ({ x0 with id := (i : Int) + 1 } : It).id = (i : Int) + 1 from ⟨by have h := h1.wf; rw [hx0] at h; exact ⟨h.t0, h.t1, h.f0, h.f1, h.b0, h.b1, h.l0, h.l1⟩, rfl⟩)
      generalize ({ x0 with id := (i : Int) + 1 } : It) = x at *
      have HT2 := Lib.hid (HT.out.keep b2)
      have o2 := HON.out w2 HT2.out.bel
      have kk2 := o2.k
      have mm2 := o2.m
      have l2 := X2.out.loadF
      have e2 := X2.out.all
      have HMO := Lib.hid (And.intro h1.m0 h1.m1)
      have hwi : wrap64 ((i : Int) + 1) = (i : Int) + 1 := IntWalk.wrap64_in _ (by omega)
      clear h1 hbl hil hlt hx0 b1 b2 X1 HT o2 hi hki
      obtain ⟨s1, d1, s2, d2, rfl, rfl, g1, g2⟩ := HT2.out.sl
      have G1 := Lib.hid g1
      clear g1 g2
      by_cases hk0 : o.kd = 0
      · have CPU := Lib.hid (fun W1 (h : Tw W (.slice s1 q.length d1) (.slice s2 g.length d2) q g W1) => qu_push_any s1 q d1 x o.mo W1 HX.out.1 (by
          obtain ⟨a1, a2, a3, a4, ea, -, ha, -⟩ := h.sl; cases ea; exact ha) (Nat.le_trans HQL0.out (by decide)))
        have HKd := Lib.hid (fun W1 (h : Tw W (.slice s1 q.length d1) (.slice s2 g.length d2) q g W1 ∧ Ix_.Box W1 wr.heap.size x) => And.intro h.2.loadF (HON.out W1 h.1.bel).m)
        have HD := Lib.hid (show Tw W (.slice s1 q.length d1) (.slice s2 g.length d2) q g w2.drew ∧ Ix_.Box w2.drew wr.heap.size x from ⟨HT2.out.keep ⟨rfl, rfl, rfl, Nat.le_refl _, fun _ _ => rfl⟩, X2.out.drew⟩)
        go_upto_region 15 with fail
        go_cut [8, 9] (fun p e wx => ∃ v', p = v' ∧ e = .int .i64 (psh q x o.mo).2 ∧ Hid (Tw W v' (.slice s2 g.length d2) (psh q x o.mo).1 g wx ∧ Ix_.Box wx wr.heap.size x) ∧ Hid (Tw W (.slice s1 q.length d1) (.slice s2 g.length d2) q g wx))
        case first =>
          refine wp_region_held_drew (S := (fun w' => (Ix_.LoadF ⟨wr.heap.size, 0, none⟩).run Try.prog w' = .ok (Ix_.v x) w' ∧ w'.cell? ⟨bb, off + i * 9 + 1, none⟩ = some (.int .i64 o.mo))) (by kernel_rfl) ?_ (fun hHeld => ?_)
          · exact HKd.out _ HD.out
          refine wpAnyH_take (i := 0) (oi := { dst := some 55, op := Op.move (Operand.tmp 3), type := 24, pos := "law.go:91", after := #[], guard := none }) (v := ?v1) rfl (by kernel_rfl) (by kernel_rfl) (by kernel_rfl) (fun _ _ _ h => h) (Or.inl ⟨by rfl, ?y1⟩) hHeld ?r1
          case y1 => (intro w hSw; (try dsimp only at hSw); go_simp; try with_reducible rfl)
          try simp only [Act.put, List.setIfInBounds_toArray, List.set_cons_zero, List.set_cons_succ]
          refine wpAnyH_take (i := 1) (oi := { dst := some 56, op := Op.load 28 (Operand.tmp 7), type := 28, pos := "law.go:91", after := #[], guard := none }) (v := ?v2) rfl (by kernel_rfl) (by kernel_rfl) (by kernel_rfl) (fun _ _ _ h => h) (Or.inl ⟨by rfl, ?y2⟩) hHeld ?r2
          case y2 => (intro w hSw; (try dsimp only at hSw); go_simp; try with_reducible rfl)
          try simp only [Act.put, List.setIfInBounds_toArray, List.set_cons_zero, List.set_cons_succ]
          refine wpAnyH_take (i := 2) (oi := { dst := some 57, op := Op.move (Operand.tmp 0), type := 22, pos := "law.go:91", after := #[], guard := none }) (v := ?v3) rfl (by kernel_rfl) (by kernel_rfl) (by kernel_rfl) (fun _ _ _ h => h) (Or.inl ⟨by rfl, ?y3⟩) hHeld ?r3
          case y3 => (intro w hSw; (try dsimp only at hSw); go_simp; try with_reducible rfl)
          try simp only [Act.put, List.setIfInBounds_toArray, List.set_cons_zero, List.set_cons_succ]
          refine wpAnyH_take (i := 3) (oi := { dst := some 58, op := Op.move (Operand.tmp 6), type := 3, pos := "law.go:91", after := #[], guard := none }) (v := ?v4) rfl (by kernel_rfl) (by kernel_rfl) (by kernel_rfl) (fun _ _ _ h => h) (Or.inl ⟨by rfl, ?y4⟩) hHeld ?r4
          case y4 => (intro w hSw; (try dsimp only at hSw); go_simp; try with_reducible rfl)
          try simp only [Act.put, List.setIfInBounds_toArray, List.set_cons_zero, List.set_cons_succ]
          refine wpAnyH_take (i := 4) (oi := { dst := some 59, op := Op.indexAddr 22 (Operand.tmp 57) (Operand.tmp 58), type := 0, pos := "law.go:91", after := #[{ on := 2, ground := Ground.data }, { on := 3, ground := Ground.data }], guard := none }) (v := ?v5) rfl (by kernel_rfl) (by kernel_rfl) (by kernel_rfl) (fun _ _ _ h => h) (Or.inl ⟨by rfl, ?y5⟩) hHeld ?r5
          case y5 => (intro w hSw; (try dsimp only at hSw); go_simp; try with_reducible rfl)
          try simp only [Act.put, List.setIfInBounds_toArray, List.set_cons_zero, List.set_cons_succ]
          refine wpAnyH_take (i := 5) (oi := { dst := some 60, op := Op.fieldAddr 30 (Operand.tmp 59) 1, type := 0, pos := "law.go:91", after := #[{ on := 4, ground := Ground.data }], guard := none }) (v := ?v6) rfl (by kernel_rfl) (by kernel_rfl) (by kernel_rfl) (fun _ _ _ h => h) (Or.inl ⟨by rfl, ?y6⟩) hHeld ?r6
          case y6 => (intro w hSw; (try dsimp only at hSw); go_simp; try with_reducible rfl)
          try simp only [Act.put, List.setIfInBounds_toArray, List.set_cons_zero, List.set_cons_succ]
          refine wpAnyH_take (i := 6) (oi := { dst := some 61, op := Op.load 3 (Operand.tmp 60), type := 3, pos := "law.go:91", after := #[{ on := 5, ground := Ground.data }], guard := none }) (v := ?v7) rfl (by kernel_rfl) (by kernel_rfl) (by kernel_rfl) (fun _ _ _ h => h) (Or.inl ⟨by rfl, ?y7⟩) hHeld ?r7
          case y7 => (intro w hSw; (try dsimp only at hSw); go_simp; try with_reducible rfl)
          try simp only [Act.put, List.setIfInBounds_toArray, List.set_cons_zero, List.set_cons_succ]
          refine wpAnyH_ready (rs := [7]) (by kernel_rfl) (by simp) ?_
          refine AllReadyH.cons (o := { dst := some 62, op := Op.call { callee := Callee.value (Operand.func 8), args := #[Operand.tmp 55, Operand.tmp 56, Operand.tmp 61], argTypes := #[24, 28, 3] }, type := 32, pos := "law.go:91", after := #[{ on := 0, ground := Ground.data }, { on := 1, ground := Ground.data }, { on := 6, ground := Ground.data }], guard := none }) rfl (fun K hK => ?_) ?_
          · clear hHeld
            go_simp
            go_at_call 8
            with_reducible refine (CPU.out _ HD.out.1).mono ?_
            rintro e wb ⟨v', rfl, hP⟩
            have HE := Lib.hid (And.intro (HD.out.1.own hP) (HD.out.2.below hP.2 HD.out.2.lt)); have HQK := Lib.hid (HD.out.1.keep hP.2)
            clear hP HD
            refine hK.out _ _ ?_ (fun hHeld => ?_)
            · exact HKd.out _ ⟨HQK.out, HE.out.2⟩
            clear hK K
            try simp only [Act.put, List.setIfInBounds_toArray, List.set_cons_zero, List.set_cons_succ]
            refine wpAnyH_take (i := 8) (oi := { dst := some 54, op := Op.move (Operand.tmp 62), type := 32, pos := "law.go:91", after := #[{ on := 7, ground := Ground.data }], guard := none }) (v := ?v8) rfl (by kernel_rfl) (by kernel_rfl) (by kernel_rfl) (fun _ _ _ h => h) (Or.inl ⟨by rfl, ?y8⟩) hHeld ?r8
            case y8 => (intro w hSw; (try dsimp only at hSw); go_simp; try with_reducible rfl)
            try simp only [Act.put, List.setIfInBounds_toArray, List.set_cons_zero, List.set_cons_succ]
            refine wpAnyH_take (i := 9) (oi := { dst := some 63, op := Op.extract (Operand.tmp 54) 0, type := 24, pos := "law.go:91", after := #[{ on := 8, ground := Ground.data }], guard := none }) (v := ?v9) rfl (by kernel_rfl) (by kernel_rfl) (by kernel_rfl) (fun _ _ _ h => h) (Or.inl ⟨by rfl, ?y9⟩) hHeld ?r9
            case y9 => (intro w hSw; (try dsimp only at hSw); go_simp; try with_reducible rfl)
            try simp only [Act.put, List.setIfInBounds_toArray, List.set_cons_zero, List.set_cons_succ]
            refine wpAnyH_take (i := 10) (oi := { dst := some 64, op := Op.extract (Operand.tmp 54) 1, type := 31, pos := "law.go:91", after := #[{ on := 8, ground := Ground.data }, { on := 11, ground := Ground.gcOnly Departure.lateStores }], guard := none }) (v := ?v10) rfl (by kernel_rfl) (by kernel_rfl) (by kernel_rfl) (fun _ _ _ h => h) (Or.inl ⟨by rfl, ?y10⟩) hHeld ?r10
            case y10 => (intro w hSw; (try dsimp only at hSw); go_simp; try with_reducible rfl)
            try simp only [Act.put, List.setIfInBounds_toArray, List.set_cons_zero, List.set_cons_succ]
            refine wpAnyH_take (i := 11) (oi := { dst := some 8, op := Op.assign (Operand.tmp 63), type := 24, pos := "law.go:91", after := #[{ on := 9, ground := Ground.data }, { on := 7, ground := Ground.chain }, { on := 0, ground := Ground.phase }, { on := 1, ground := Ground.phase }, { on := 2, ground := Ground.phase }, { on := 3, ground := Ground.phase }, { on := 4, ground := Ground.phase }, { on := 5, ground := Ground.phase }, { on := 6, ground := Ground.phase }, { on := 7, ground := Ground.phase }, { on := 8, ground := Ground.phase }, { on := 9, ground := Ground.phase }, { on := 10, ground := Ground.textOnly Departure.lateStores }], guard := none }) (v := ?v11) rfl (by kernel_rfl) (by kernel_rfl) (by kernel_rfl) (fun _ _ _ h => h) (Or.inl ⟨by rfl, ?y11⟩) hHeld ?r11
            case y11 => (intro w hSw; (try dsimp only at hSw); go_simp; try with_reducible rfl)
            try simp only [Act.put, List.setIfInBounds_toArray, List.set_cons_zero, List.set_cons_succ]
            refine wpAnyH_take (i := 12) (oi := { dst := some 9, op := Op.assign (Operand.tmp 64), type := 31, pos := "law.go:91", after := #[{ on := 10, ground := Ground.data }, { on := 11, ground := Ground.chain }, { on := 0, ground := Ground.phase }, { on := 1, ground := Ground.phase }, { on := 2, ground := Ground.phase }, { on := 3, ground := Ground.phase }, { on := 4, ground := Ground.phase }, { on := 5, ground := Ground.phase }, { on := 6, ground := Ground.phase }, { on := 7, ground := Ground.phase }, { on := 8, ground := Ground.phase }, { on := 9, ground := Ground.phase }, { on := 10, ground := Ground.phase }, { on := 11, ground := Ground.phase }], guard := none }) (v := ?v12) rfl (by kernel_rfl) (by kernel_rfl) (by kernel_rfl) (fun _ _ _ h => h) (Or.inl ⟨by rfl, ?y12⟩) hHeld ?r12
            case y12 => (intro w hSw; (try dsimp only at hSw); go_simp; try with_reducible rfl)
            try simp only [Act.put, List.setIfInBounds_toArray, List.set_cons_zero, List.set_cons_succ]
            refine wpAnyH_done (by kernel_rfl) ?_ _
            go_wp2_with fail
            go_meet
            exact ⟨v', rfl, rfl, HE, HQK⟩
          exact AllReadyH.nil
        case rest =>
          obtain ⟨v', rfl, rfl, HE, HQK⟩ := hcut
          by_cases hp : (psh q x o.mo).2 = 0
          · obtain ⟨hpq, hK2⟩ := HK.out.push HX.out.1 HX.out.2 hp
            have HK2 := Lib.hid hK2
            rw [show (psh q x o.mo).1 = q ++ [x] by rw [hpq]] at HE
            rw [hp]
            generalize q ++ [x] = q2 at *
            have HT3 := Lib.hid HE.out.1
            clear hpq hK2 hp HE
            obtain ⟨t1, e1, rfl⟩ := It_.slice_form HT3.out.a
            have g1 := It_.sl_owns HT3.out.a
            have HQL := Lib.hid HK2.out.len
            have CKx := Lib.hid (fun W1 (h : It_.Sl W1 t1 (q2) e1) => CK.out t1 (q2) e1 W1 HK2.out.wf h (Nat.le_trans HQL.out (by decide)))
            rw [HK2.out.chk] at CKx
            have CAx := Lib.hid (fun W1 (h : It_.Sl W1 t1 (q2) e1) => asc23_any t1 (q2) e1 W1 h (Nat.le_trans HQL.out (by decide)) HK2.out.asc)
            have G1 := Lib.hid g1
            clear g1
            go_wp2_with (first
              | (go_at_call 12; refine (CKx.out _ G1.out).mono ?_; rintro e wy ⟨rfl, hb⟩; have HTy := Lib.hid (HT3.out.keep hb); replace G1 := Lib.hid (G1.out.below hb); clear hb)
              | (go_at_call 13; refine (CAx.out _ G1.out).mono ?_; rintro e wz ⟨rfl, hb⟩; have HTz := Lib.hid (HTy.out.keep hb); clear hb))
            go_roundw
            case rel => exact ⟨i + 1, k + 1, q2, g, by go_num, by go_num, HLT.out, HK2, by have := HKI.out; have := HLT.out; omega, HTz⟩
            case measure => have := HLT.out; simp [intOf]; omega
          · have hp' : ((psh q x o.mo).2 == 0) = false := by rw [beq_eq_false_iff_ne]; exact hp
            have HK2 := Lib.hid HK.out.up
            have HT3 := HQK
            clear hp HE
            have g1 := It_.sl_owns HT3.out.a
            have HQL := Lib.hid HK2.out.len
            have CKx := Lib.hid (fun W1 (h : It_.Sl W1 s1 (q) d1) => CK.out s1 (q) d1 W1 HK2.out.wf h (Nat.le_trans HQL.out (by decide)))
            rw [HK2.out.chk] at CKx
            have CAx := Lib.hid (fun W1 (h : It_.Sl W1 s1 (q) d1) => asc23_any s1 (q) d1 W1 h (Nat.le_trans HQL.out (by decide)) HK2.out.asc)
            have G1 := Lib.hid g1
            clear g1
            go_wp2_with (first
              | (go_at_call 12; refine (CKx.out _ G1.out).mono ?_; rintro e wy ⟨rfl, hb⟩; have HTy := Lib.hid (HT3.out.keep hb); replace G1 := Lib.hid (G1.out.below hb); clear hb)
              | (go_at_call 13; refine (CAx.out _ G1.out).mono ?_; rintro e wz ⟨rfl, hb⟩; have HTz := Lib.hid (HTy.out.keep hb); clear hb))
            go_roundw
            case rel => exact ⟨i + 1, k, q, g, by go_num, rfl, HLT.out, HK2, by have := HKI.out; have := HLT.out; omega, HTz⟩
            case measure => have := HLT.out; simp [intOf]; omega
      by_cases hk1' : o.kd = 1
      · have CPO := Lib.hid (qu_pop_any s1 q d1 x.to w2 G1.out (Nat.le_trans HQL0.out (by decide)))
        go_wp2_with fail
        refine CPO.out.mono ?_
        rintro e w3 ⟨v', rfl, hP⟩
        obtain ⟨w4, hw4⟩ : ∃ w4, w3.alloc (.cells (Ix_.C (popI x.to q)) 28) = w4 := ⟨_, rfl⟩
        have hz4 := Ix_.storeF_zero w3 (popI x.to q)
        rw [hw4] at hz4
        have X4 := Lib.hid (show Ix_.Box w4 w3.heap.size (popI x.to q) from hw4 ▸ Ix_.Box.new w3 _)
        have l4 := X4.out.loadF
        have HT4 := Lib.hid ((HT2.out.own hP).keep (hw4 ▸ (Below.refl _ _).alloc (Nat.le_refl _) _ : Below w3.heap.size w3 w4))
        clear hP
        cases hpb : popB x.to q
        · have HK2 := Lib.hid (HK.out.up.nopop x.to hpb)
          have HT3 := HT4
          generalize popL x.to q = q2 at *
          generalize popI x.to q = y at *
          go_wp2_with fail
          obtain ⟨t1, e1, rfl⟩ := It_.slice_form HT3.out.a
          have g1 := It_.sl_owns HT3.out.a
          have HQL := Lib.hid HK2.out.len
          have CKx := Lib.hid (fun W1 (h : It_.Sl W1 t1 (q2) e1) => CK.out t1 (q2) e1 W1 HK2.out.wf h (Nat.le_trans HQL.out (by decide)))
          rw [HK2.out.chk] at CKx
          have CAx := Lib.hid (fun W1 (h : It_.Sl W1 t1 (q2) e1) => asc23_any t1 (q2) e1 W1 h (Nat.le_trans HQL.out (by decide)) HK2.out.asc)
          have G1 := Lib.hid g1
          clear g1
          go_wp2_with (first
            | (go_at_call 12; refine (CKx.out _ G1.out).mono ?_; rintro e wy ⟨rfl, hb⟩; have HTy := Lib.hid (HT3.out.keep hb); replace G1 := Lib.hid (G1.out.below hb); clear hb)
            | (go_at_call 13; refine (CAx.out _ G1.out).mono ?_; rintro e wz ⟨rfl, hb⟩; have HTz := Lib.hid (HTy.out.keep hb); clear hb))
          go_roundw
          case rel => exact ⟨i + 1, k, q2, g, by go_num, rfl, HLT.out, HK2, by have := HKI.out; have := HLT.out; omega, HTz⟩
          case measure => have := HLT.out; simp [intOf]; omega
        · have HK2 := Lib.hid (HK.out.up.pop x.to hpb)
          generalize popL x.to q = q2 at *
          generalize popI x.to q = y at *
          go_wp2_with (at_builtin; refine wpList_appTw _ rfl _ _ rfl W _ _ q2 g rfl (HT4.out.alloc _) (some ⟨w4.heap.size, 0, none⟩) 1 1 [y] rfl rfl (one_sl w4 y) (by have := HGL.out; omega) ?_)
          intro u' w5 hT5
          have HT3 := Lib.hid hT5
          clear hT5
          go_wp2_with fail
          obtain ⟨t1, e1, rfl⟩ := It_.slice_form HT3.out.a
          have g1 := It_.sl_owns HT3.out.a
          have HQL := Lib.hid HK2.out.len
          have CKx := Lib.hid (fun W1 (h : It_.Sl W1 t1 (q2) e1) => CK.out t1 (q2) e1 W1 HK2.out.wf h (Nat.le_trans HQL.out (by decide)))
          rw [HK2.out.chk] at CKx
          have CAx := Lib.hid (fun W1 (h : It_.Sl W1 t1 (q2) e1) => asc23_any t1 (q2) e1 W1 h (Nat.le_trans HQL.out (by decide)) HK2.out.asc)
          have G1 := Lib.hid g1
          clear g1
          go_wp2_with (first
            | (go_at_call 12; refine (CKx.out _ G1.out).mono ?_; rintro e wy ⟨rfl, hb⟩; have HTy := Lib.hid (HT3.out.keep hb); replace G1 := Lib.hid (G1.out.below hb); clear hb)
            | (go_at_call 13; refine (CAx.out _ G1.out).mono ?_; rintro e wz ⟨rfl, hb⟩; have HTz := Lib.hid (HTy.out.keep hb); clear hb))
          go_roundw
          case rel => exact ⟨i + 1, k, q2, g ++ [y], by go_num, rfl, HLT.out, HK2, by have := HKI.out; have := HLT.out; omega, HTz⟩
          case measure => have := HLT.out; simp [intOf]; omega
      have HK2a := Lib.hid HK.out.up
      by_cases hk2' : o.kd = 2
      · have CEX := Lib.hid (qu_expire_any s1 q d1 o.mo w2 HK.out.wf HMO.out.1 HMO.out.2 G1.out (Nat.le_trans HQL0.out (by decide)))
        have HK2 := Lib.hid (HK2a.out.filt (exps o.mo))
        have hfl := Nat.le_trans (List.length_filter_le (exps o.mo) q) HQL0.out
        generalize q.filter (neg (exps o.mo)) = q2 at *
        generalize q.filter (exps o.mo) = g3 at *
        go_wp2_with fail
        refine CEX.out.mono ?_
        rintro e w3 ⟨v', u3, rfl, hP⟩
        have HT4 := Lib.hid (HT2.out.next hP)
        obtain ⟨a1, a2, a3, a4, rfl, rfl, -, ha⟩ := hP.sl
        have GA := Lib.hid ha
        clear hP ha
        go_wp2_with (at_builtin; refine wpList_appTw _ rfl _ _ rfl W _ _ q2 g rfl HT4.out a3 g3.length a4 g3 rfl rfl GA.out (by have := HGL.out; omega) ?_)
        intro u' w5 hT5
        have HT3 := Lib.hid hT5
        clear hT5
        go_wp2_with fail
        have g1 := It_.sl_owns HT3.out.a
        have HQL := Lib.hid HK2.out.len
        have CKx := Lib.hid (fun W1 (h : It_.Sl W1 a1 (q2) a2) => CK.out a1 (q2) a2 W1 HK2.out.wf h (Nat.le_trans HQL.out (by decide)))
        rw [HK2.out.chk] at CKx
        have CAx := Lib.hid (fun W1 (h : It_.Sl W1 a1 (q2) a2) => asc23_any a1 (q2) a2 W1 h (Nat.le_trans HQL.out (by decide)) HK2.out.asc)
        have G1 := Lib.hid g1
        clear g1
        go_wp2_with (first
          | (go_at_call 12; refine (CKx.out _ G1.out).mono ?_; rintro e wy ⟨rfl, hb⟩; have HTy := Lib.hid (HT3.out.keep hb); replace G1 := Lib.hid (G1.out.below hb); clear hb)
          | (go_at_call 13; refine (CAx.out _ G1.out).mono ?_; rintro e wz ⟨rfl, hb⟩; have HTz := Lib.hid (HTy.out.keep hb); clear hb))
        go_roundw
        case rel => exact ⟨i + 1, k, q2, g ++ g3, by go_num, rfl, HLT.out, HK2, by have := HKI.out; have := HLT.out; omega, HTz⟩
        case measure => have := HLT.out; simp [intOf]; omega
      · have CPG := Lib.hid (qu_purge_any s1 q d1 x.to w2 G1.out (Nat.le_trans HQL0.out (by decide)))
        have HK2 := Lib.hid (HK2a.out.filt (isTo x.to))
        have hfl := Nat.le_trans (List.length_filter_le (isTo x.to) q) HQL0.out
        generalize q.filter (neg (isTo x.to)) = q2 at *
        generalize q.filter (isTo x.to) = g3 at *
        go_wp2_with fail
        refine CPG.out.mono ?_
        rintro e w3 ⟨v', u3, rfl, hP⟩
        have HT4 := Lib.hid (HT2.out.next hP)
        obtain ⟨a1, a2, a3, a4, rfl, rfl, -, ha⟩ := hP.sl
        have GA := Lib.hid ha
        clear hP ha
        go_wp2_with (at_builtin; refine wpList_appTw _ rfl _ _ rfl W _ _ q2 g rfl HT4.out a3 g3.length a4 g3 rfl rfl GA.out (by have := HGL.out; omega) ?_)
        intro u' w5 hT5
        have HT3 := Lib.hid hT5
        clear hT5
        go_wp2_with fail
        have g1 := It_.sl_owns HT3.out.a
        have HQL := Lib.hid HK2.out.len
        have CKx := Lib.hid (fun W1 (h : It_.Sl W1 a1 (q2) a2) => CK.out a1 (q2) a2 W1 HK2.out.wf h (Nat.le_trans HQL.out (by decide)))
        rw [HK2.out.chk] at CKx
        have CAx := Lib.hid (fun W1 (h : It_.Sl W1 a1 (q2) a2) => asc23_any a1 (q2) a2 W1 h (Nat.le_trans HQL.out (by decide)) HK2.out.asc)
        have G1 := Lib.hid g1
        clear g1
        go_wp2_with (first
          | (go_at_call 12; refine (CKx.out _ G1.out).mono ?_; rintro e wy ⟨rfl, hb⟩; have HTy := Lib.hid (HT3.out.keep hb); replace G1 := Lib.hid (G1.out.below hb); clear hb)
          | (go_at_call 13; refine (CAx.out _ G1.out).mono ?_; rintro e wz ⟨rfl, hb⟩; have HTz := Lib.hid (HTy.out.keep hb); clear hb))
        go_roundw
        case rel => exact ⟨i + 1, k, q2, g ++ g3, by go_num, rfl, HLT.out, HK2, by have := HKI.out; have := HLT.out; omega, HTz⟩
        case measure => have := HLT.out; simp [intOf]; omega
    · obtain rfl : i = m := by omega
      obtain ⟨s1, d1, s2, d2, rfl, rfl, g1, g2⟩ := HT.out.sl
      have G2 := Lib.hid g2
      have CH := Lib.hid (fun W1 (h : Tw W (.slice s1 q.length d1) (.slice s2 g.length d2) q g W1) (z : Int) => r23_has_any s1 q d1 z W1 (It_.sl_owns h.a) (Nat.le_trans HQL0.out (by decide)))
      have CG := Lib.hid (fun W1 (h : Tw W (.slice s1 q.length d1) (.slice s2 g.length d2) q g W1) (j : Nat) (hj : j ≤ g.length) (z : Int) => show Calls Try.prog 14 #[.slice s2 j d2, .int .i64 z] W1 fun e w' => e = .returned (.bool (hasId (g.take j) z)) ∧ W1 = w' by
        have h2 := r23_has_any s2 (g.take j) d2 z W1 (sl_take23 (It_.sl_owns h.b) j) (by have := HGL.out; rw [List.length_take]; omega)
        rw [show (g.take j).length = j by rw [List.length_take]; omega] at h2
        exact h2)
      have hsum := HK.out.sum
      have hkeq : (k : Int) = (q.length : Int) + (g.length : Int) := by omega
      have hq64 : q.length ≤ 64 := HQL0.out
      have hg60 : g.length ≤ 60 := HGL.out
      have hw : wrap64 ((q.length : Int) + (g.length : Int)) = (q.length : Int) + (g.length : Int) := IntWalk.wrap64_in _ (by omega)
      have hle := G2.out.le
      have hnil := G2.out.nil
      clear g1 g2 hi hlt hki
      go_wp2
      go_loopw [17] (fun z wr => ∃ j : Nat, z = .int .i64 j ∧ j ≤ g.length ∧ Hid (Tw W (.slice s1 q.length d1) (.slice s2 g.length d2) q g wr)) (fun z _ => g.length - (intOf z).toNat)
      case atStart => exact ⟨0, rfl, Nat.zero_le _, HT⟩
      case round =>
        clear HT
        rename World => wq
        obtain ⟨j, rfl, hj, HR⟩ := hrel
        by_cases hjl : j < g.length
        · have hjl' : (j : Int) < (g.length : Int) := by omega
          have j0 : (0 : Int) ≤ (j : Int) := by omega
          obtain ⟨b2, o2, hsb, -, -⟩ := (It_.sl_owns HR.out.b).lies j hjl
          have hA1 : hasId q g[j].id = false := hasId_no.2 fun hm => HK.out.apart _ hm (List.mem_map_of_mem (List.getElem_mem hjl))
          have hA2 : hasId (g.take j) g[j].id = false := hasId_no.2 fun hm => by
            have hnd := HK.out.gnd
            unfold idsI at hm hnd
            rw [← List.take_append_drop j g, List.map_append, List.nodup_append] at hnd
            exact hnd.2.2 _ hm g[j].id (List.mem_map_of_mem (by rw [List.drop_eq_getElem_cons hjl]; exact List.mem_cons_self ..)) rfl
          have q0 : ∀ (p : Of (Tw W (.slice s1 q.length d1) (.slice s2 g.length d2) q g)), p.w.cell? ⟨b2, o2 + j * 7, none⟩ = some (.int .i64 g[j].id) := fun p => by
            obtain ⟨b3, o3, e3, -, h3, -⟩ := (It_.sl_owns p.ok.b).lies j hjl
            rw [hsb] at e3; cases e3; exact h3
          have C1 := Lib.hid (fun W1 h => CH.out W1 h g[j].id)
          have C2 := Lib.hid (fun W1 h => CG.out W1 h j hj g[j].id)
          rw [hA1] at C1
          rw [hA2] at C2
          have hd1 := fun W1 => head23 s2 g.length d2 j (by omega) hnil W1
          have HJL := Lib.hid hjl
          have hj60 : j ≤ 60 := by omega
          subst hsb
          generalize g[j].id = z at *
          have _ne : Nonempty (Of (Tw W (.slice s1 q.length d1) (.slice (some ⟨b2, o2, none⟩) g.length d2) q g)) := ⟨⟨_, HR.out⟩⟩
          clear hA1 hA2 hjl hj hw hkeq
          go_wp2
          refine wp_region_of (Tw W (.slice s1 q.length d1) (.slice (some ⟨b2, o2, none⟩) g.length d2) q g) (by kernel_rfl) (Region.lexB_of_fast (by kernel_rfl)) (HR.out.keep ⟨rfl, rfl, rfl, Nat.le_refl _, fun _ _ => rfl⟩) ?_
          repeat (go_big_quiet_step (first
            | (go_at_call 14; with_reducible exact Calls.of_same (C1.out _ (Of.ok _)))
            | (go_at_call 14; with_reducible exact Calls.of_same (C2.out _ (Of.ok _)))))
          refine wpQuiet_nil ?_
          rintro _ ⟨p, rfl⟩
          have HR2 := Lib.hid p.ok
          generalize p.w = w7 at *
          clear q0 _ne C1 C2
          go_wp2
          go_roundw
          case rel => exact ⟨j + 1, by go_num, HJL.out, HR2⟩
          case measure => have := HJL.out; simp [intOf]; omega
        · have hge : ¬ (j : Int) < (g.length : Int) := by omega
          clear hjl hj
          go_wp2_with (go_at_call 7; refine (CL.out _).mono ?_; rintro e w9 ⟨rfl, hb⟩; have HR9 := Lib.hid (HR.out.keep hb); clear hb)
          go_returns
          exact ⟨rfl, HR9.out.bel⟩
end Go.Proofs.Ytaljdjabppiglaa
