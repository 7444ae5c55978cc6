/-
  WALKS of the reference of layer 20: Put beyond the window; Flush.
-/
import Derived.Test.YteffmfloopkmoaaRoRefE
import Derived.Deep.DeepCutAuto
import Derived.Deep.RegionHeld
import Derived.Deep.MidRow
namespace Go.Proofs.Yteffmfloopkmoaa
open Go.RowKit Go.Ro Go.Sq Go.Wr
attribute [local go_sem ↓ high] Rw_.loadF Rw_.storeF Rw_.v_cells Rw_.v_match
attribute [local go_sem] Rw_.C0 Rw_.C1 Rw_.C2 Rw_.loadF_new Rw_.storeF_zero Oper.semAt_some

/-- Behind the advance: what came in, the result's cell, the advanced buffer in its cell, what it holds, what was released. -/
structure Mst (w : World) (x : Rw) (A1 : Bf) (A2 : List ByteArray) (g : Nat) (x5 : Rw) (sa5 : Option Addr) (c5 : Nat) (wi : World) : Prop where
  two : Two w x zr wi
  bg : Rw_.Box wi g x5
  gl : w.heap.size + 2 ≤ g
  ls : Lies wi x5 A1
  own : wi.ownsRow (w.heap.size + 2) 9 1 (.slice sa5 A2.length c5) A2.length (Ss_.vs A2)
theorem owns_mono20 {w : World} {base base' size n : Nat} {e : TypeId} {v : Value} {xs : List Value} (h : w.ownsRow base e size v n xs) (hb : base' ≤ base) : w.ownsRow base' e size v n xs := by
  obtain ⟨h0, h1 | ⟨g, cap, cur, h1, h2, h3⟩⟩ := h
  · exact ⟨h0, .inl h1⟩
  · exact ⟨h0, .inr ⟨g, cap, cur, h1, Nat.le_trans hb h2, h3⟩⟩
theorem own_row20 {w : World} {base size n B : Nat} {e : TypeId} {v : Value} {xs : List Value} {c : Array Value} (h : w.ownsRow base e size v n xs) (hB : v.ownBlock ≠ some B) : (w.setRow B c).ownsRow base e size v n xs := by
  obtain ⟨h0, h1 | ⟨g, cap, cur, h1, h2, h3, h4⟩⟩ := h
  · exact ⟨h0, .inl h1⟩
  · refine ⟨h0, .inr ⟨g, cap, cur, h1, h2, ?_, h4⟩⟩
    have hg : g ≠ B := fun e' => hB (by rw [h1, ← e']; rfl)
    have e2 : (w.setRow B c).heap[g]? = w.heap[g]? := by
      simp only [World.setRow, Array.getElem?_modify]; rw [if_neg (fun e' => hg e'.symm)]
    exact e2.trans h3
theorem mst_new {w w4 w5 : World} {x x5 : Rw} {A1 : Bf} {A2 : List ByteArray} {sa5 : Option Addr} {c5 : Nat} (T : Two w x zr w4) (hl : Lies w5 x5 A1)
    (ho : w5.ownsRow w4.heap.size 9 1 (.slice sa5 A2.length c5) A2.length (Ss_.vs A2)) (hb : Below w4.heap.size w4 w5) (_ : Adv20 w4 x5 sa5) : Hid (Mst w x A1 A2 w5.heap.size x5 sa5 c5 (w5.alloc (.cells (Rw_.C x5) 25))) := by
  have b : Below w5.heap.size w5 (w5.alloc (.cells (Rw_.C x5) 25)) := (Below.refl _ _).alloc (Nat.le_refl _) _
  have hz := T.size
  have hz2 := hb.size
  exact ⟨(T.below hb).below b, Rw_.Box.new w5 x5, by omega, hl.below b, owns_mono20 (owns_below20 ho b) hz⟩
theorem mst_set {w w4 w5 : World} {x x5 z : Rw} {A1 : Bf} {A2 : List ByteArray} {sa5 : Option Addr} {c5 g : Nat} (T : Two w x zr w4) (hA : Rw_.Box w5 g z) (hg : g < w4.heap.size) (hg2 : w.heap.size + 2 ≤ g) (hl : Lies w5 x5 A1)
    (ho : w5.ownsRow w4.heap.size 9 1 (.slice sa5 A2.length c5) A2.length (Ss_.vs A2)) (hb : Below w4.heap.size w4 w5) (hp : Adv20 w4 x5 sa5) : Hid (Mst w x A1 A2 g x5 sa5 c5 (w5.setRow g (Rw_.C x5))) := by
  have T5 := T.below hb
  refine ⟨⟨(Rw_.setRow_other (by omega) _).trans T5.bx, (Rw_.setRow_other (by omega) _).trans T5.rs, below_row T5.bel (by omega) _⟩, hA.setRow x5, hg2, lies_row hl (fun bb off e => by have := hp.2 bb off e; omega), owns_mono20 (own_row20 ho (fun e => by have := (ho.lt g e).1; omega)) T.size⟩

set_option linter.unusedSimpArgs false in
set_option linter.unusedVariables false in
set_option maxRecDepth 100000 in
set_option maxHeartbeats 8000000 in
theorem r_put_moved (x : Rw) (b : Bf) (q : Int) (d : ByteArray) (w : World) (hL : Lies w x b) (hb : Ok b) (ho : ¬ old b q d = true) (hz : ¬ dist b.st q < b.sz) :
    Calls Try.prog 18 #[Rw_.v x, .int .i64 q, .string d] w fun e w' => RPutPost ((drn (ins (adv b (add q (1 - b.sz))).1 q d)).1, 2, (adv b (add q (1 - b.sz))).2 ++ (drn (ins (adv b (add q (1 - b.sz))).1 q d)).2) w e w' := by
  have hl : b.hs.length ≤ 1000 := by have := hb.len; omega
  obtain ⟨w1, hw1⟩ : ∃ w1, w.alloc (.cells (Rw_.C x) 25) = w1 := ⟨_, rfl⟩
  obtain ⟨w2, hw2⟩ : ∃ w2, w1.alloc (.cells (Rw_.C zr) 25) = w2 := ⟨_, rfl⟩
  have hw2' : w1.alloc (.cells #[.int .i64 0, .int .i64 0, .slice none 0 0] 25) = w2 := hw2
  have z1 : w1.heap.size = w.heap.size + 1 := by rw [← hw1]; simp
  have T2 := Lib.hid (Two.new hw1 hw2)
  have l2 := T2.out.bx.loadF
  have e2 := T2.out.bx.all
  have hn := not20
  have hst := hL.st
  have hsz := hL.sz
  have CV := Lib.hid (fun w => refValid_any q w)
  have CD := Lib.hid (fun w => refDistance_any b.st q w)
  have CA := Lib.hid (fun w => refAdd_any q (1 - b.sz) w)
  have CH := Lib.hid (r_has_any x b q w2 (hL.below T2.out.bel) hl)
  have hof := ho
  rw [old_ref b hb] at hof
  obtain ⟨hh, hqv, hq2, hd2⟩ := not_old ho
  have hv : vl q = true := (vl_iff q).2 hqv
  have hA : has b q = false := by
    cases hA : has b q
    · rfl
    · rw [hA] at hof; simp at hof
  rw [hv] at CV
  rw [hA] at CH
  have HSZ := hb.sz
  have hws : wrap64 (1 - b.sz) = 1 - b.sz := IntWalk.wrap64_in _ (by omega)
  have hwi : IntKind.i64.wrap (1 - b.sz) = 1 - b.sz := IntWalk.i64_in _ (by omega)
  have HADV : Hid (∀ W, Below w.heap.size w W → Calls Try.prog 39 #[Rw_.v x, .int .i64 (add q (1 - b.sz))] W fun e w' => DrnPost (Adv20 W) (adv b (add q (1 - b.sz))) W e w') := fun W hW => r_advance_any x b _ W (hL.below hW) hb.asc hl
  have HPA := adv_pre hb.pre (add_vl q (1 - b.sz))
  have HAL : (adv b (add q (1 - b.sz))).1.hs.length ≤ 63 := by
    show (b.hs.drop (n0 b (add q (1 - b.sz)))).length ≤ 63
    have := hb.len
    rw [List.length_drop]; omega
  have HIN : Hid (∀ y W, Lies W y (adv b (add q (1 - b.sz))).1 → Calls Try.prog 38 #[Rw_.v y, .int .i64 q, .string d] W fun e w' => BfPost (ins (adv b (add q (1 - b.sz))).1 q d) W e w') := fun y W h => r_insert_any y _ q d W h HPA.asc (by omega)
  have HDN : Hid (∀ y W, Lies W y (ins (adv b (add q (1 - b.sz))).1 q d) → Calls Try.prog 37 #[Rw_.v y] W fun e w' => DrnPost (fun x' _ => x'.sa = y.sa ∨ ∀ bb off, x'.sa = some ⟨bb, off, none⟩ → W.heap.size ≤ bb) (drn (ins (adv b (add q (1 - b.sz))).1 q d)) W e w') := fun y W h => r_drain_any y _ W h HPA.st (by rw [ins_len]; omega)
  have HLN : Hid ((adv b (add q (1 - b.sz))).2.length ≤ 1000 ∧ (drn (ins (adv b (add q (1 - b.sz))).1 q d)).2.length ≤ 1000) := by
    refine ⟨?_, ?_⟩
    · show ((b.hs.take (n0 b (add q (1 - b.sz)))).map (·.d)).length ≤ 1000
      rw [List.length_map, List.length_take]; omega
    · unfold drn
      rw [List.length_map, List.length_take, ins_len]; omega
  have h2 : ¬ 2048 ≤ dist b.st q := by omega
  have hnd : ¬ (2048 : Int) < (d.size : Int) := by omega
  have hds : d.size ≤ 2048 := by omega
  have mixed : Try.prog.follows Departure.mixedOrders = true := by kernel_rfl
  clear hL hb hl ho hof hh hqv hq2 hd2 hv hA HSZ HPA HAL
  generalize dist b.st q = D at *
  generalize add q (1 - b.sz) = S at *
  obtain ⟨A1, A2, hA⟩ : ∃ A1 A2, adv b S = (A1, A2) := ⟨_, _, rfl⟩
  rw [hA] at HADV HIN HDN HLN ⊢
  dsimp only at HADV HIN HDN HLN ⊢
  clear hA
  obtain ⟨D1, D2, hD⟩ : ∃ D1 D2, drn (ins A1 q d) = (D1, D2) := ⟨_, _, rfl⟩
  rw [hD] at HDN HLN ⊢
  dsimp only at HDN HLN ⊢
  clear hD
  go_enter Try.func18, Try.ntmps18
  go_wp2_with (first
    | (go_at_call 25; refine (CV.out _).mono ?_; rintro e w' ⟨rfl, rfl⟩)
    | (go_at_call 10; refine (CD.out _).mono ?_; rintro e w' ⟨rfl, rfl⟩)
    | (go_at_call 36; refine CH.out.mono ?_; rintro e w3 ⟨rfl, hw3⟩; have T3 := Lib.hid (T2.out.below hw3); have l3 := T3.out.bx.loadF; have e3 := T3.out.bx.all; clear hw3))
  go_quiet (first | (go_at_call 10; exact Calls.quiet_of_same ((CD.out _).mono fun _ _ q => ⟨q.1, q.2.symm⟩)))
  rename_i nq
  have T4 : Hid (Two w x zr (w3.drewN nq)) := ⟨T3.out.bx, T3.out.rs, below_drewN20 T3.out.bel _⟩
  generalize w3.drewN nq = wq at *
  have TD1 : Hid (Two w x zr wq.drew) := Lib.hid T4.out.drew
  have TD2 : Hid (Two w x zr (wq.alloc (.cells (Rw_.C zr) 25)).drew) := Lib.hid (T4.out.below ((Below.refl _ _).alloc (Nat.le_refl _) _)).drew
  have HLIM : Hid (∀ w', Two w x zr w' → (Rw_.LoadF ⟨w.heap.size, 0, none⟩).run Try.prog w' = .ok (Rw_.v x) w' ∧ w'.cell? ⟨w.heap.size, 1, none⟩ = some (.int .i64 b.sz) ∧ Two w x zr w') := fun w' h => ⟨h.bx.loadF, by rw [h.bx.all 1, ← hsz]; rfl, h⟩
  clear l3 e3 CH CV
  go_upto_region 6 with fail
  go_cut [11, 12] (fun p v wx => ∃ g x5 sa5 c5, p = .pointer (some ⟨g, 0, none⟩) ∧ v = .slice sa5 A2.length c5 ∧ Hid (Mst w x A1 A2 g x5 sa5 c5 wx))
  case first =>
    refine wp_region_held_drew (S := (fun w' => (Rw_.LoadF ⟨w.heap.size, 0, none⟩).run Try.prog w' = .ok (Rw_.v x) w' ∧ w'.cell? ⟨w.heap.size, 1, none⟩ = some (.int .i64 b.sz) ∧ Two w x zr w')) (by kernel_rfl) ?_ (fun hHeld => ?_)
    · exact HLIM.out _ TD1.out
    refine wpAnyH_take (i := 0) (oi := { dst := some 54, op := Op.load 25 (Operand.tmp 3), type := 25, pos := "ref.go:96", after := #[], guard := none }) (v := ?v1) rfl (by kernel_rfl) (by kernel_rfl) (by kernel_rfl) (fun _ _ _ h => h) (Or.inl ⟨by rfl, ?y1⟩) hHeld ?r1
    case y1 => (intro w hSw; (try dsimp only at hSw); go_simp; try with_reducible rfl)
    try simp only [Act.put, List.setIfInBounds_toArray, List.set_cons_zero, List.set_cons_succ]
    refine wpAnyH_take (i := 1) (oi := { dst := some 55, op := Op.move (Operand.tmp 1), type := 3, pos := "ref.go:96", after := #[], guard := none }) (v := ?v2) rfl (by kernel_rfl) (by kernel_rfl) (by kernel_rfl) (fun _ _ _ h => h) (Or.inl ⟨by rfl, ?y2⟩) hHeld ?r2
    case y2 => (intro w hSw; (try dsimp only at hSw); go_simp; try with_reducible rfl)
    try simp only [Act.put, List.setIfInBounds_toArray, List.set_cons_zero, List.set_cons_succ]
    refine wpAnyH_take (i := 2) (oi := { dst := some 56, op := Op.fieldAddr 25 (Operand.tmp 3) 1, type := 0, pos := "ref.go:96", after := #[], guard := none }) (v := ?v3) rfl (by kernel_rfl) (by kernel_rfl) (by kernel_rfl) (fun _ _ _ h => h) (Or.inl ⟨by rfl, ?y3⟩) hHeld ?r3
    case y3 => (intro w hSw; (try dsimp only at hSw); go_simp; try with_reducible rfl)
    try simp only [Act.put, List.setIfInBounds_toArray, List.set_cons_zero, List.set_cons_succ]
    refine wpAnyH_take (i := 3) (oi := { dst := some 57, op := Op.load 3 (Operand.tmp 56), type := 3, pos := "ref.go:96", after := #[{ on := 2, ground := Ground.data }], guard := none }) (v := ?v4) rfl (by kernel_rfl) (by kernel_rfl) (by kernel_rfl) (fun _ _ _ h => h) (Or.inl ⟨by rfl, ?y4⟩) hHeld ?r4
    case y4 => (intro w hSw; (try dsimp only at hSw); go_simp; try with_reducible rfl)
    try simp only [Act.put, List.setIfInBounds_toArray, List.set_cons_zero, List.set_cons_succ]
    refine wpAnyH_take (i := 4) (oi := { dst := some 58, op := Op.binOp BinOp.sub 3 (Operand.const (Value.int IntKind.i64 1)) (Operand.tmp 57) 3, type := 3, pos := "ref.go:96", after := #[{ on := 3, ground := Ground.data }], guard := none }) (v := ?v5) rfl (by kernel_rfl) (by kernel_rfl) (by kernel_rfl) (fun _ _ _ h => h) (Or.inl ⟨by rfl, ?y5⟩) hHeld ?r5
    case y5 => (intro w hSw; (try dsimp only at hSw); go_simp; try with_reducible rfl)
    try simp only [Act.put, List.setIfInBounds_toArray, List.set_cons_zero, List.set_cons_succ]
    refine wpAnyH_ready (rs := [5, 10]) (by kernel_rfl) (by simp) ?_
    refine AllReadyH.cons (o := { dst := some 59, op := Op.call { callee := Callee.value (Operand.func 40), args := #[Operand.tmp 55, Operand.tmp 58], argTypes := #[3, 3] }, type := 3, pos := "ref.go:96", after := #[{ on := 1, ground := Ground.data }, { on := 4, ground := Ground.data }], guard := none }) rfl (fun K hK => ?_) ?_
    · clear hHeld
      go_simp
      go_at_call 40
      refine (CA.out _).mono ?_
      rintro e w' ⟨rfl, rfl⟩
      refine hK.out _ _ ?_ (fun hHeld => ?_)
      · first | exact HLIM.out _ TD1.out | exact HLIM.out _ TD2.out | exact HLIM.out _ T5.out | exact HLIM.out _ (T5.out.below ((Below.refl _ _).alloc (Nat.le_refl _) _)) | exact HLIM.out _ HM2.out.two | exact HLIM.out _ HM1.out.two
      clear hK K
      try simp only [Act.put, List.setIfInBounds_toArray, List.set_cons_zero, List.set_cons_succ]
      refine wpAnyH_ready (rs := [6, 10]) (by kernel_rfl) (by simp) ?_
      refine AllReadyH.cons (o := { dst := some 60, op := Op.call { callee := Callee.value (Operand.func 39), args := #[Operand.tmp 54, Operand.tmp 59], argTypes := #[25, 3] }, type := 44, pos := "ref.go:96", after := #[{ on := 0, ground := Ground.data }, { on := 5, ground := Ground.data }, { on := 5, ground := Ground.chain }], guard := none }) rfl (fun K hK => ?_) ?_
      · clear hHeld
        go_simp
        go_at_call 39
        first | refine (HADV.out _ TD1.out.bel).mono ?_ | refine (HADV.out _ TD2.out.bel).mono ?_
        rintro e w5 ⟨x5, sa5, c5, rfl, hl5, ho5, hb5, hp5⟩
        have T5 : Hid (Two w x zr w5) := (by first | exact ⟨TD1.out.below hb5⟩ | exact ⟨TD2.out.below hb5⟩ | exact TD1.out.below hb5 | exact TD2.out.below hb5)
        have HM2 : Hid (Mst w x A1 A2 w5.heap.size x5 sa5 c5 (w5.alloc (.cells (Rw_.C x5) 25))) := (by first | exact mst_new TD1.out hl5 ho5 hb5 hp5 | exact mst_new TD2.out hl5 ho5 hb5 hp5)
        try (have A5 : Hid (Rw_.Box w5 wq.heap.size zr) := (show Rw_.Box (wq.alloc (.cells (Rw_.C zr) 25)).drew wq.heap.size zr from Rw_.Box.new wq zr).below hb5 (by simp))
        try (have HM1 : Hid (Mst w x A1 A2 wq.heap.size x5 sa5 c5 (w5.setRow wq.heap.size (Rw_.C x5))) := mst_set TD2.out A5.out (by simp) TD1.out.size hl5 ho5 hb5 hp5)
        try (have sA := A5.out.storeF x5)
        clear hl5 ho5 hb5 hp5
        refine hK.out _ _ ?_ (fun hHeld => ?_)
        · first | exact HLIM.out _ TD1.out | exact HLIM.out _ TD2.out | exact HLIM.out _ T5.out | exact HLIM.out _ (T5.out.below ((Below.refl _ _).alloc (Nat.le_refl _) _)) | exact HLIM.out _ HM2.out.two | exact HLIM.out _ HM1.out.two
        clear hK K
        try simp only [Act.put, List.setIfInBounds_toArray, List.set_cons_zero, List.set_cons_succ]
        refine wpAnyH_take (i := 7) (oi := { dst := some 53, op := Op.move (Operand.tmp 60), type := 44, pos := "ref.go:96", after := #[{ on := 6, ground := Ground.data }], guard := none }) (v := ?v6) rfl (by kernel_rfl) (by kernel_rfl) (by kernel_rfl) (fun _ _ _ h => h) (Or.inl ⟨by rfl, ?y6⟩) hHeld ?r6
        case y6 => (intro w hSw; (try dsimp only at hSw); go_simp; try with_reducible rfl)
        try simp only [Act.put, List.setIfInBounds_toArray, List.set_cons_zero, List.set_cons_succ]
        refine wpAnyH_take (i := 8) (oi := { dst := some 61, op := Op.extract (Operand.tmp 53) 0, type := 25, pos := "ref.go:96", after := #[{ on := 7, ground := Ground.data }], guard := none }) (v := ?v7) rfl (by kernel_rfl) (by kernel_rfl) (by kernel_rfl) (fun _ _ _ h => h) (Or.inl ⟨by rfl, ?y7⟩) hHeld ?r7
        case y7 => (intro w hSw; (try dsimp only at hSw); go_simp; try with_reducible rfl)
        try simp only [Act.put, List.setIfInBounds_toArray, List.set_cons_zero, List.set_cons_succ]
        refine wpAnyH_take (i := 9) (oi := { dst := some 62, op := Op.extract (Operand.tmp 53) 1, type := 35, pos := "ref.go:96", after := #[{ on := 7, ground := Ground.data }, { on := 11, ground := Ground.gcOnly Departure.lateStores }], guard := none }) (v := ?v8) rfl (by kernel_rfl) (by kernel_rfl) (by kernel_rfl) (fun _ _ _ h => h) (Or.inl ⟨by rfl, ?y8⟩) hHeld ?r8
        case y8 => (intro w hSw; (try dsimp only at hSw); go_simp; try with_reducible rfl)
        try simp only [Act.put, List.setIfInBounds_toArray, List.set_cons_zero, List.set_cons_succ]
        refine wpAnyH_ready (rs := [10]) (by kernel_rfl) (by simp) ?_
        refine AllReadyH.cons (o := { dst := some 11, op := Op.alloc 25, type := 0, pos := "ref.go:96", after := #[], guard := none }) rfl (fun K hK => ?_) ?_
        · clear hHeld
          go_simp
          refine hK.out _ _ ?_ (fun hHeld => ?_)
          · first | exact HLIM.out _ TD1.out | exact HLIM.out _ TD2.out | exact HLIM.out _ T5.out | exact HLIM.out _ (T5.out.below ((Below.refl _ _).alloc (Nat.le_refl _) _)) | exact HLIM.out _ HM2.out.two | exact HLIM.out _ HM1.out.two
          clear hK K
          try simp only [Act.put, List.setIfInBounds_toArray, List.set_cons_zero, List.set_cons_succ]
          refine wpAnyH_ready (rs := [11]) (by kernel_rfl) (by simp) ?_
          refine AllReadyH.cons (o := { dst := none, op := Op.store 25 (Operand.tmp 11) (Operand.tmp 61), type := 0, pos := "ref.go:96", after := #[{ on := 10, ground := Ground.data }, { on := 8, ground := Ground.data }, { on := 6, ground := Ground.chain }, { on := 0, ground := Ground.phase }, { on := 1, ground := Ground.phase }, { on := 2, ground := Ground.phase }, { on := 3, ground := Ground.phase }, { on := 4, ground := Ground.phase }, { on := 5, ground := Ground.phase }, { on := 6, ground := Ground.phase }, { on := 7, ground := Ground.phase }, { on := 8, ground := Ground.phase }, { on := 9, ground := Ground.textOnly Departure.lateStores }, { on := 10, ground := Ground.phase }], guard := none }) rfl (fun K hK => ?_) ?_
          · clear hHeld
            go_simp
            refine hK.out _ _ ?_ (fun hHeld => ?_)
            · first | exact HLIM.out _ TD1.out | exact HLIM.out _ TD2.out | exact HLIM.out _ T5.out | exact HLIM.out _ (T5.out.below ((Below.refl _ _).alloc (Nat.le_refl _) _)) | exact HLIM.out _ HM2.out.two | exact HLIM.out _ HM1.out.two
            clear hK K
            try simp only [Act.put, List.setIfInBounds_toArray, List.set_cons_zero, List.set_cons_succ]
            refine wpAnyH_take (i := 12) (oi := { dst := some 12, op := Op.assign (Operand.tmp 62), type := 35, pos := "ref.go:96", after := #[{ on := 9, ground := Ground.data }, { on := 11, ground := Ground.chain }, { on := 0, ground := Ground.phase }, { on := 1, ground := Ground.phase }, { on := 2, ground := Ground.phase }, { on := 3, ground := Ground.phase }, { on := 4, ground := Ground.phase }, { on := 5, ground := Ground.phase }, { on := 6, ground := Ground.phase }, { on := 7, ground := Ground.phase }, { on := 8, ground := Ground.phase }, { on := 9, ground := Ground.phase }, { on := 10, ground := Ground.phase }, { on := 11, ground := Ground.phase }], guard := none }) (v := ?v9) rfl (by kernel_rfl) (by kernel_rfl) (by kernel_rfl) (fun _ _ _ h => h) (Or.inl ⟨by rfl, ?y9⟩) hHeld ?r9
            case y9 => (intro w hSw; (try dsimp only at hSw); go_simp; try with_reducible rfl)
            try simp only [Act.put, List.setIfInBounds_toArray, List.set_cons_zero, List.set_cons_succ]
            refine wpAnyH_done (by kernel_rfl) ?_ _
            go_wp2_with fail
            go_meet
            first
              | exact ⟨_, x5, sa5, c5, rfl, rfl, HM1⟩
              | exact ⟨_, x5, sa5, c5, rfl, rfl, HM2⟩
          exact AllReadyH.nil
        exact AllReadyH.nil
      refine AllReadyH.cons (o := { dst := some 11, op := Op.alloc 25, type := 0, pos := "ref.go:96", after := #[], guard := none }) rfl (fun K hK => ?_) ?_
      · clear hHeld
        go_simp
        refine hK.out _ _ ?_ (fun hHeld => ?_)
        · first | exact HLIM.out _ TD1.out | exact HLIM.out _ TD2.out | exact HLIM.out _ T5.out | exact HLIM.out _ (T5.out.below ((Below.refl _ _).alloc (Nat.le_refl _) _)) | exact HLIM.out _ HM2.out.two | exact HLIM.out _ HM1.out.two
        clear hK K
        try simp only [Act.put, List.setIfInBounds_toArray, List.set_cons_zero, List.set_cons_succ]
        refine wpAnyH_ready (rs := [6]) (by kernel_rfl) (by simp) ?_
        refine AllReadyH.cons (o := { dst := some 60, op := Op.call { callee := Callee.value (Operand.func 39), args := #[Operand.tmp 54, Operand.tmp 59], argTypes := #[25, 3] }, type := 44, pos := "ref.go:96", after := #[{ on := 0, ground := Ground.data }, { on := 5, ground := Ground.data }, { on := 5, ground := Ground.chain }], guard := none }) rfl (fun K hK => ?_) ?_
        · clear hHeld
          go_simp
          go_at_call 39
          first | refine (HADV.out _ TD1.out.bel).mono ?_ | refine (HADV.out _ TD2.out.bel).mono ?_
          rintro e w5 ⟨x5, sa5, c5, rfl, hl5, ho5, hb5, hp5⟩
          have T5 : Hid (Two w x zr w5) := (by first | exact ⟨TD1.out.below hb5⟩ | exact ⟨TD2.out.below hb5⟩ | exact TD1.out.below hb5 | exact TD2.out.below hb5)
          have HM2 : Hid (Mst w x A1 A2 w5.heap.size x5 sa5 c5 (w5.alloc (.cells (Rw_.C x5) 25))) := (by first | exact mst_new TD1.out hl5 ho5 hb5 hp5 | exact mst_new TD2.out hl5 ho5 hb5 hp5)
          try (have A5 : Hid (Rw_.Box w5 wq.heap.size zr) := (show Rw_.Box (wq.alloc (.cells (Rw_.C zr) 25)).drew wq.heap.size zr from Rw_.Box.new wq zr).below hb5 (by simp))
          try (have HM1 : Hid (Mst w x A1 A2 wq.heap.size x5 sa5 c5 (w5.setRow wq.heap.size (Rw_.C x5))) := mst_set TD2.out A5.out (by simp) TD1.out.size hl5 ho5 hb5 hp5)
          try (have sA := A5.out.storeF x5)
          clear hl5 ho5 hb5 hp5
          refine hK.out _ _ ?_ (fun hHeld => ?_)
          · first | exact HLIM.out _ TD1.out | exact HLIM.out _ TD2.out | exact HLIM.out _ T5.out | exact HLIM.out _ (T5.out.below ((Below.refl _ _).alloc (Nat.le_refl _) _)) | exact HLIM.out _ HM2.out.two | exact HLIM.out _ HM1.out.two
          clear hK K
          try simp only [Act.put, List.setIfInBounds_toArray, List.set_cons_zero, List.set_cons_succ]
          refine wpAnyH_take (i := 7) (oi := { dst := some 53, op := Op.move (Operand.tmp 60), type := 44, pos := "ref.go:96", after := #[{ on := 6, ground := Ground.data }], guard := none }) (v := ?v10) rfl (by kernel_rfl) (by kernel_rfl) (by kernel_rfl) (fun _ _ _ h => h) (Or.inl ⟨by rfl, ?y10⟩) hHeld ?r10
          case y10 => (intro w hSw; (try dsimp only at hSw); go_simp; try with_reducible rfl)
          try simp only [Act.put, List.setIfInBounds_toArray, List.set_cons_zero, List.set_cons_succ]
          refine wpAnyH_take (i := 8) (oi := { dst := some 61, op := Op.extract (Operand.tmp 53) 0, type := 25, pos := "ref.go:96", after := #[{ on := 7, ground := Ground.data }], guard := none }) (v := ?v11) rfl (by kernel_rfl) (by kernel_rfl) (by kernel_rfl) (fun _ _ _ h => h) (Or.inl ⟨by rfl, ?y11⟩) hHeld ?r11
          case y11 => (intro w hSw; (try dsimp only at hSw); go_simp; try with_reducible rfl)
          try simp only [Act.put, List.setIfInBounds_toArray, List.set_cons_zero, List.set_cons_succ]
          refine wpAnyH_take (i := 9) (oi := { dst := some 62, op := Op.extract (Operand.tmp 53) 1, type := 35, pos := "ref.go:96", after := #[{ on := 7, ground := Ground.data }, { on := 11, ground := Ground.gcOnly Departure.lateStores }], guard := none }) (v := ?v12) rfl (by kernel_rfl) (by kernel_rfl) (by kernel_rfl) (fun _ _ _ h => h) (Or.inl ⟨by rfl, ?y12⟩) hHeld ?r12
          case y12 => (intro w hSw; (try dsimp only at hSw); go_simp; try with_reducible rfl)
          try simp only [Act.put, List.setIfInBounds_toArray, List.set_cons_zero, List.set_cons_succ]
          refine wpAnyH_ready (rs := [11]) (by kernel_rfl) (by simp) ?_
          refine AllReadyH.cons (o := { dst := none, op := Op.store 25 (Operand.tmp 11) (Operand.tmp 61), type := 0, pos := "ref.go:96", after := #[{ on := 10, ground := Ground.data }, { on := 8, ground := Ground.data }, { on := 6, ground := Ground.chain }, { on := 0, ground := Ground.phase }, { on := 1, ground := Ground.phase }, { on := 2, ground := Ground.phase }, { on := 3, ground := Ground.phase }, { on := 4, ground := Ground.phase }, { on := 5, ground := Ground.phase }, { on := 6, ground := Ground.phase }, { on := 7, ground := Ground.phase }, { on := 8, ground := Ground.phase }, { on := 9, ground := Ground.textOnly Departure.lateStores }, { on := 10, ground := Ground.phase }], guard := none }) rfl (fun K hK => ?_) ?_
          · clear hHeld
            go_simp
            refine hK.out _ _ ?_ (fun hHeld => ?_)
            · first | exact HLIM.out _ TD1.out | exact HLIM.out _ TD2.out | exact HLIM.out _ T5.out | exact HLIM.out _ (T5.out.below ((Below.refl _ _).alloc (Nat.le_refl _) _)) | exact HLIM.out _ HM2.out.two | exact HLIM.out _ HM1.out.two
            clear hK K
            try simp only [Act.put, List.setIfInBounds_toArray, List.set_cons_zero, List.set_cons_succ]
            refine wpAnyH_take (i := 12) (oi := { dst := some 12, op := Op.assign (Operand.tmp 62), type := 35, pos := "ref.go:96", after := #[{ on := 9, ground := Ground.data }, { on := 11, ground := Ground.chain }, { on := 0, ground := Ground.phase }, { on := 1, ground := Ground.phase }, { on := 2, ground := Ground.phase }, { on := 3, ground := Ground.phase }, { on := 4, ground := Ground.phase }, { on := 5, ground := Ground.phase }, { on := 6, ground := Ground.phase }, { on := 7, ground := Ground.phase }, { on := 8, ground := Ground.phase }, { on := 9, ground := Ground.phase }, { on := 10, ground := Ground.phase }, { on := 11, ground := Ground.phase }], guard := none }) (v := ?v13) rfl (by kernel_rfl) (by kernel_rfl) (by kernel_rfl) (fun _ _ _ h => h) (Or.inl ⟨by rfl, ?y13⟩) hHeld ?r13
            case y13 => (intro w hSw; (try dsimp only at hSw); go_simp; try with_reducible rfl)
            try simp only [Act.put, List.setIfInBounds_toArray, List.set_cons_zero, List.set_cons_succ]
            refine wpAnyH_done (by kernel_rfl) ?_ _
            go_wp2_with fail
            go_meet
            first
              | exact ⟨_, x5, sa5, c5, rfl, rfl, HM1⟩
              | exact ⟨_, x5, sa5, c5, rfl, rfl, HM2⟩
          exact AllReadyH.nil
        exact AllReadyH.nil
      exact AllReadyH.nil
    refine AllReadyH.cons (o := { dst := some 11, op := Op.alloc 25, type := 0, pos := "ref.go:96", after := #[], guard := none }) rfl (fun K hK => ?_) ?_
    · clear hHeld
      go_simp
      refine hK.out _ _ ?_ (fun hHeld => ?_)
      · first | exact HLIM.out _ TD1.out | exact HLIM.out _ TD2.out | exact HLIM.out _ T5.out | exact HLIM.out _ (T5.out.below ((Below.refl _ _).alloc (Nat.le_refl _) _)) | exact HLIM.out _ HM2.out.two | exact HLIM.out _ HM1.out.two
      clear hK K
      try simp only [Act.put, List.setIfInBounds_toArray, List.set_cons_zero, List.set_cons_succ]
      refine wpAnyH_ready (rs := [5]) (by kernel_rfl) (by simp) ?_
      refine AllReadyH.cons (o := { dst := some 59, op := Op.call { callee := Callee.value (Operand.func 40), args := #[Operand.tmp 55, Operand.tmp 58], argTypes := #[3, 3] }, type := 3, pos := "ref.go:96", after := #[{ on := 1, ground := Ground.data }, { on := 4, ground := Ground.data }], guard := none }) rfl (fun K hK => ?_) ?_
      · clear hHeld
        go_simp
        go_at_call 40
        refine (CA.out _).mono ?_
        rintro e w' ⟨rfl, rfl⟩
        refine hK.out _ _ ?_ (fun hHeld => ?_)
        · first | exact HLIM.out _ TD1.out | exact HLIM.out _ TD2.out | exact HLIM.out _ T5.out | exact HLIM.out _ (T5.out.below ((Below.refl _ _).alloc (Nat.le_refl _) _)) | exact HLIM.out _ HM2.out.two | exact HLIM.out _ HM1.out.two
        clear hK K
        try simp only [Act.put, List.setIfInBounds_toArray, List.set_cons_zero, List.set_cons_succ]
        refine wpAnyH_ready (rs := [6]) (by kernel_rfl) (by simp) ?_
        refine AllReadyH.cons (o := { dst := some 60, op := Op.call { callee := Callee.value (Operand.func 39), args := #[Operand.tmp 54, Operand.tmp 59], argTypes := #[25, 3] }, type := 44, pos := "ref.go:96", after := #[{ on := 0, ground := Ground.data }, { on := 5, ground := Ground.data }, { on := 5, ground := Ground.chain }], guard := none }) rfl (fun K hK => ?_) ?_
        · clear hHeld
          go_simp
          go_at_call 39
          first | refine (HADV.out _ TD1.out.bel).mono ?_ | refine (HADV.out _ TD2.out.bel).mono ?_
          rintro e w5 ⟨x5, sa5, c5, rfl, hl5, ho5, hb5, hp5⟩
          have T5 : Hid (Two w x zr w5) := (by first | exact ⟨TD1.out.below hb5⟩ | exact ⟨TD2.out.below hb5⟩ | exact TD1.out.below hb5 | exact TD2.out.below hb5)
          have HM2 : Hid (Mst w x A1 A2 w5.heap.size x5 sa5 c5 (w5.alloc (.cells (Rw_.C x5) 25))) := (by first | exact mst_new TD1.out hl5 ho5 hb5 hp5 | exact mst_new TD2.out hl5 ho5 hb5 hp5)
          try (have A5 : Hid (Rw_.Box w5 wq.heap.size zr) := (show Rw_.Box (wq.alloc (.cells (Rw_.C zr) 25)).drew wq.heap.size zr from Rw_.Box.new wq zr).below hb5 (by simp))
          try (have HM1 : Hid (Mst w x A1 A2 wq.heap.size x5 sa5 c5 (w5.setRow wq.heap.size (Rw_.C x5))) := mst_set TD2.out A5.out (by simp) TD1.out.size hl5 ho5 hb5 hp5)
          try (have sA := A5.out.storeF x5)
          clear hl5 ho5 hb5 hp5
          refine hK.out _ _ ?_ (fun hHeld => ?_)
          · first | exact HLIM.out _ TD1.out | exact HLIM.out _ TD2.out | exact HLIM.out _ T5.out | exact HLIM.out _ (T5.out.below ((Below.refl _ _).alloc (Nat.le_refl _) _)) | exact HLIM.out _ HM2.out.two | exact HLIM.out _ HM1.out.two
          clear hK K
          try simp only [Act.put, List.setIfInBounds_toArray, List.set_cons_zero, List.set_cons_succ]
          refine wpAnyH_take (i := 7) (oi := { dst := some 53, op := Op.move (Operand.tmp 60), type := 44, pos := "ref.go:96", after := #[{ on := 6, ground := Ground.data }], guard := none }) (v := ?v14) rfl (by kernel_rfl) (by kernel_rfl) (by kernel_rfl) (fun _ _ _ h => h) (Or.inl ⟨by rfl, ?y14⟩) hHeld ?r14
          case y14 => (intro w hSw; (try dsimp only at hSw); go_simp; try with_reducible rfl)
          try simp only [Act.put, List.setIfInBounds_toArray, List.set_cons_zero, List.set_cons_succ]
          refine wpAnyH_take (i := 8) (oi := { dst := some 61, op := Op.extract (Operand.tmp 53) 0, type := 25, pos := "ref.go:96", after := #[{ on := 7, ground := Ground.data }], guard := none }) (v := ?v15) rfl (by kernel_rfl) (by kernel_rfl) (by kernel_rfl) (fun _ _ _ h => h) (Or.inl ⟨by rfl, ?y15⟩) hHeld ?r15
          case y15 => (intro w hSw; (try dsimp only at hSw); go_simp; try with_reducible rfl)
          try simp only [Act.put, List.setIfInBounds_toArray, List.set_cons_zero, List.set_cons_succ]
          refine wpAnyH_take (i := 9) (oi := { dst := some 62, op := Op.extract (Operand.tmp 53) 1, type := 35, pos := "ref.go:96", after := #[{ on := 7, ground := Ground.data }, { on := 11, ground := Ground.gcOnly Departure.lateStores }], guard := none }) (v := ?v16) rfl (by kernel_rfl) (by kernel_rfl) (by kernel_rfl) (fun _ _ _ h => h) (Or.inl ⟨by rfl, ?y16⟩) hHeld ?r16
          case y16 => (intro w hSw; (try dsimp only at hSw); go_simp; try with_reducible rfl)
          try simp only [Act.put, List.setIfInBounds_toArray, List.set_cons_zero, List.set_cons_succ]
          refine wpAnyH_ready (rs := [11]) (by kernel_rfl) (by simp) ?_
          refine AllReadyH.cons (o := { dst := none, op := Op.store 25 (Operand.tmp 11) (Operand.tmp 61), type := 0, pos := "ref.go:96", after := #[{ on := 10, ground := Ground.data }, { on := 8, ground := Ground.data }, { on := 6, ground := Ground.chain }, { on := 0, ground := Ground.phase }, { on := 1, ground := Ground.phase }, { on := 2, ground := Ground.phase }, { on := 3, ground := Ground.phase }, { on := 4, ground := Ground.phase }, { on := 5, ground := Ground.phase }, { on := 6, ground := Ground.phase }, { on := 7, ground := Ground.phase }, { on := 8, ground := Ground.phase }, { on := 9, ground := Ground.textOnly Departure.lateStores }, { on := 10, ground := Ground.phase }], guard := none }) rfl (fun K hK => ?_) ?_
          · clear hHeld
            go_simp
            refine hK.out _ _ ?_ (fun hHeld => ?_)
            · first | exact HLIM.out _ TD1.out | exact HLIM.out _ TD2.out | exact HLIM.out _ T5.out | exact HLIM.out _ (T5.out.below ((Below.refl _ _).alloc (Nat.le_refl _) _)) | exact HLIM.out _ HM2.out.two | exact HLIM.out _ HM1.out.two
            clear hK K
            try simp only [Act.put, List.setIfInBounds_toArray, List.set_cons_zero, List.set_cons_succ]
            refine wpAnyH_take (i := 12) (oi := { dst := some 12, op := Op.assign (Operand.tmp 62), type := 35, pos := "ref.go:96", after := #[{ on := 9, ground := Ground.data }, { on := 11, ground := Ground.chain }, { on := 0, ground := Ground.phase }, { on := 1, ground := Ground.phase }, { on := 2, ground := Ground.phase }, { on := 3, ground := Ground.phase }, { on := 4, ground := Ground.phase }, { on := 5, ground := Ground.phase }, { on := 6, ground := Ground.phase }, { on := 7, ground := Ground.phase }, { on := 8, ground := Ground.phase }, { on := 9, ground := Ground.phase }, { on := 10, ground := Ground.phase }, { on := 11, ground := Ground.phase }], guard := none }) (v := ?v17) rfl (by kernel_rfl) (by kernel_rfl) (by kernel_rfl) (fun _ _ _ h => h) (Or.inl ⟨by rfl, ?y17⟩) hHeld ?r17
            case y17 => (intro w hSw; (try dsimp only at hSw); go_simp; try with_reducible rfl)
            try simp only [Act.put, List.setIfInBounds_toArray, List.set_cons_zero, List.set_cons_succ]
            refine wpAnyH_done (by kernel_rfl) ?_ _
            go_wp2_with fail
            go_meet
            first
              | exact ⟨_, x5, sa5, c5, rfl, rfl, HM1⟩
              | exact ⟨_, x5, sa5, c5, rfl, rfl, HM2⟩
          exact AllReadyH.nil
        exact AllReadyH.nil
      exact AllReadyH.nil
    exact AllReadyH.nil
  case rest =>
    obtain ⟨g, x5, sa5, c5, rfl, rfl, HM⟩ := hcut
    have l5 := HM.out.bg.loadF
    go_wp2_with (first
      | (go_at_call 38; refine (HIN.out x5 _ HM.out.ls).mono ?_; rintro e w6 ⟨x6, rfl, hl6, hb6, hf6⟩; have T6 := Lib.hid (HM.out.two.below hb6); have O6 := Lib.hid (owns_below20 HM.out.own hb6); have L6 := Lib.hid (And.intro hl6 (And.intro hf6 hb6.size)); clear hl6 hb6 hf6)
      | (go_at_call 37; refine (HDN.out x6 w6 L6.out.1).mono ?_; rintro e w7 ⟨x7, sa7, c7, rfl, hl7, ho7, hb7, hp7⟩; have HAP : Hid (∀ bb off, x7.sa = some ⟨bb, off, none⟩ → (Value.slice sa5 A2.length c5).ownBlock ≠ some bb ∧ w.heap.size + 2 ≤ bb) := (fun bb off e => by
          have h0 := HM.out.two.size
          have h00 := L6.out.2.2
          rcases hp7 with h | h
          · rw [h] at e
            have h1 := L6.out.2.1 bb off e
            exact ⟨fun e2 => by have := (HM.out.own.lt bb e2).2; omega, by omega⟩
          · have h1 := h bb off e
            exact ⟨fun e2 => by have := (O6.out.lt bb e2).2; omega, by omega⟩); obtain ⟨w8, hw8⟩ : ∃ w8, w7.alloc (.cells (Rw_.C x7) 25) = w8 := ⟨_, rfl⟩; have hz8 := Rw_.storeF_zero w7 x7; rw [hw8] at hz8; have b8 : Below w7.heap.size w7 w8 := hw8 ▸ (Below.refl _ _).alloc (Nat.le_refl _) _; have X8 := Lib.hid (show Rw_.Box w8 w7.heap.size x7 from hw8 ▸ Rw_.Box.new w7 x7); have hb78 := hb7.trans (b8.mono hb7.size); have T8 := Lib.hid (T6.out.below hb78); have O8 := Lib.hid (owns_below20 O6.out hb78); have S8 := Lib.hid (And.intro (hl7.below b8) ((Ss_.sl_owns ho7).below b8)); have Z8 := Lib.hid (And.intro hb7.size b8.size); clear hl7 ho7 hb7 hp7 b8 hw8 hb78))
    have HFN : Hid (∀ (v9 : Option Addr) (c9 : Nat) (w9 : World), w9.ownsRow (w.heap.size + 2) 9 1 (.slice v9 (A2.length + D2.length) c9) (A2.length + D2.length) (Ss_.vs (A2 ++ D2)) → Below (w.heap.size + 2) w8.drew w9 → (∀ k, (Value.slice sa5 A2.length c5).ownBlock ≠ some k → k < w8.heap.size → w9.heap[k]? = w8.heap[k]?) →
        (Rw_.LoadF ⟨w7.heap.size, 0, none⟩).run Try.prog w9 = .ok (Rw_.v x7) w9 ∧ (Rw_.StoreF ⟨w.heap.size + 1, 0, none⟩ (Rw_.v x7)).run Try.prog w9 = .ok () (w9.setRow (w.heap.size + 1) (Rw_.C x7)) ∧ Rw_.Box (w9.setRow (w.heap.size + 1) (Rw_.C x7)) (w.heap.size + 1) x7 ∧
        RPutPost (D1, 2, A2 ++ D2) w (.returned (.tuple #[Rw_.v x7, .int .i64 2, .slice v9 (A2.length + D2.length) c9])) (w9.setRow (w.heap.size + 1) (Rw_.C x7))) := fun v9 c9 w9 h1 h2 h3 => by
      have T9 := T8.out.drew.keep h2 (Nat.le_refl _)
      have hX9 : Rw_.Box w9 w7.heap.size x7 := (h3 w7.heap.size (fun e => by have := (O6.out.lt _ e).2; have := Z8.out.1; omega) X8.out.lt).trans X8.out
      have hL9 : Lies w9 x7 D1 := lies_keep20 S8.out.1 h2.size (fun bb off e hlt => h3 bb (HAP.out bb off e).1 hlt)
      have hS9 : Ss_.Sl w9 v9 (A2 ++ D2) c9 := Ss_.sl_owns (by rw [List.length_append]; exact h1)
      refine ⟨hX9.loadF, T9.rs.storeF x7, (T9.setY x7).rs, x7, v9, c9, by rw [List.length_append], lies_row hL9 (fun bb off e => by have := (HAP.out bb off e).2; omega), ss_row hS9 (fun bb off e => ?_), (T9.setY x7).bel⟩
      subst e
      have := (h1.lt bb rfl).1
      omega
    have O8d : Hid (w8.drew.ownsRow (w.heap.size + 2) 9 1 (.slice sa5 A2.length c5) A2.length (Ss_.vs A2)) := O8.out
    have S8d : Hid (Ss_.Sl w8.drew sa7 D2 c7) := Lib.hid S8.out.2.drew
    have HSP := Lib.hid (And.intro (show A2.length + D2.length ≤ 3000 by have := HLN.out; omega) (show w.heap.size + 2 ≤ w8.heap.size from T8.out.size))
    have l8 := X8.out.loadF
    have l8' : (Rw_.LoadF ⟨w7.heap.size, 0, none⟩).run Try.prog w8.drew = .ok (Rw_.v x7) w8.drew := (show Rw_.Box w8.drew w7.heap.size x7 from X8.out).loadF
    go_wp2
    go_region_law_o (refine step_appSs _ rfl _ _ rfl (w.heap.size + 2) _ A2.length A2 (by simp [Act.eval, Act.put]) O8d.out _ D2.length _ D2 (by simp [Act.eval, Act.put]) rfl S8d.out HSP.out.1 HSP.out.2 ?_; intro v9 c9 w9 h1 h2 h3; obtain ⟨l9, s9, X9, F9⟩ := HFN.out v9 c9 w9 h1 h2 h3; have X9 := Lib.hid X9; have F9 := Lib.hid F9; clear h1 h2 h3)
    all_goals
      go_wp2
      exact ret_rw3 Try.results18 rfl rfl rfl X9.out rfl F9.out

theorem r_put_any (x : Rw) (b : Bf) (q : Int) (d : ByteArray) (w : World) (hL : Lies w x b) (hb : Ok b) (hd : d.size ≤ 5000) :
    Calls Try.prog 18 #[Rw_.v x, .int .i64 q, .string d] w fun e w' => RPutPost (put b q d) w e w' := by
  rw [put_ref b hb]
  unfold putR
  by_cases ho : old b q d = true
  · rw [if_pos ho]
    exact r_put_old x b q d w hL hb hd ho
  · rw [if_neg ho]
    by_cases hz : dist b.st q < b.sz
    · rw [if_pos hz]
      exact r_put_kept x b q d w hL hb ho hz
    · rw [if_neg hz]
      exact r_put_moved x b q d w hL hb ho hz
end Go.Proofs.Yteffmfloopkmoaa
