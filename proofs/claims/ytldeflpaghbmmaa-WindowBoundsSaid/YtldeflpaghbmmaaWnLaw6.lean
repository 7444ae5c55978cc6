/-
  THE LAW WindowBounds over the walks (its region 11 written by gen_branch.py with bounds_conf.py by mkbounds22.py).
-/
import Derived.Test.YtldeflpaghbmmaaWnBd
import Derived.Test.YtldeflpaghbmmaaWnLives2
import Derived.Test.YtldeflpaghbmmaaWnRef1
import Derived.Test.YtldeflpaghbmmaaWnChk2
import Derived.Deep.RegionWith
import Derived.Deep.DeepCutAuto
import Derived.Deep.RegionHeld
import Derived.Deep.MidRow
namespace Go.Proofs.Ytldeflpaghbmmaa
open Go.RowKit Go.Wn Go.Sq Go.Wr
attribute [local go_sem ↓ high] Ww_.loadF Ww_.storeF Ww_.v_cells Ww_.v_match
attribute [local go_sem] Ww_.C0 Ww_.C1 Ww_.C2 Ww_.C3 Ww_.loadF_new Ww_.storeF_zero Oper.semAt_some

theorem row41 (w : World) (A : Array Value) (t : TypeId) (hA : ∀ j : Nat, j < 41 → A[j]? = some (.bool false)) : ∀ j : Nat, j < 41 → (w.alloc (.cells A t)).cell? ⟨w.heap.size, j, none⟩ = some (.bool false) ∧ (w.alloc (.cells A t)).frozen? ⟨w.heap.size, j, none⟩ = false := by
  intro j hj
  have h : (w.alloc (.cells A t)).heap[w.heap.size]? = some (.cells A t (0, 0)) := by
    show (w.heap.push _)[w.heap.size]? = _
    rw [Array.getElem?_push, if_pos rfl]
  exact ⟨(cell_of_row _ _ j _ _ _ h).trans (hA j hj), by unfold World.frozen?; rw [h]; simp⟩
theorem falses41 : ∀ j : Nat, j < 41 → (#[.bool false, .bool false, .bool false, .bool false, .bool false, .bool false, .bool false, .bool false, .bool false, .bool false, .bool false, .bool false, .bool false, .bool false, .bool false, .bool false, .bool false, .bool false, .bool false, .bool false, .bool false, .bool false, .bool false, .bool false, .bool false, .bool false, .bool false, .bool false, .bool false, .bool false, .bool false, .bool false, .bool false, .bool false, .bool false, .bool false, .bool false, .bool false, .bool false, .bool false, .bool false] : Array Value)[j]? = some (.bool false) := by
  intro j hj
  match j, hj with
  | 0, _ => rfl
  | 1, _ => rfl
  | 2, _ => rfl
  | 3, _ => rfl
  | 4, _ => rfl
  | 5, _ => rfl
  | 6, _ => rfl
  | 7, _ => rfl
  | 8, _ => rfl
  | 9, _ => rfl
  | 10, _ => rfl
  | 11, _ => rfl
  | 12, _ => rfl
  | 13, _ => rfl
  | 14, _ => rfl
  | 15, _ => rfl
  | 16, _ => rfl
  | 17, _ => rfl
  | 18, _ => rfl
  | 19, _ => rfl
  | 20, _ => rfl
  | 21, _ => rfl
  | 22, _ => rfl
  | 23, _ => rfl
  | 24, _ => rfl
  | 25, _ => rfl
  | 26, _ => rfl
  | 27, _ => rfl
  | 28, _ => rfl
  | 29, _ => rfl
  | 30, _ => rfl
  | 31, _ => rfl
  | 32, _ => rfl
  | 33, _ => rfl
  | 34, _ => rfl
  | 35, _ => rfl
  | 36, _ => rfl
  | 37, _ => rfl
  | 38, _ => rfl
  | 39, _ => rfl
  | 40, _ => rfl
  | j + 41, hj => omega
/-- What is open while identifiers are taken away. -/
def lef (f : Int → Bool) (G : List Int) (j : Nat) (k : Int) : Bool := f k && !decide (k ∈ G.take j)
theorem lef_zero (f : Int → Bool) (G : List Int) (k : Int) : lef f G 0 k = f k := by unfold lef; simp
theorem lef_all {f F : Int → Bool} {G : List Int} (h : ∀ k, F k = true ↔ f k = true ∧ k ∉ G) (k : Int) : lef f G G.length k = F k := by
  unfold lef
  rw [List.take_length, Bool.eq_iff_iff, h k]
  simp
theorem lef_at {f : Int → Bool} {G : List Int} {j : Nat} (hn : G.Nodup) (h : j < G.length) (hf : f G[j] = true) : lef f G j G[j] = true := by
  unfold lef
  rw [hf]
  have : G[j] ∉ G.take j := by
    intro hm
    obtain ⟨a, ha, e⟩ := List.mem_iff_getElem.1 hm
    rw [List.length_take] at ha
    rw [List.getElem_take] at e
    exact List.pairwise_iff_getElem.1 hn a j (by omega) h (by omega) e
  simp [this]
theorem lef_succ {f : Int → Bool} {G : List Int} {j : Nat} (h : j < G.length) (k : Int) : lef f G (j + 1) k = if k = G[j] then false else lef f G j k := by
  have e : k ∈ G.take (j + 1) ↔ k ∈ G.take j ∨ k = G[j] := by
    simp only [List.take_add_one, List.getElem?_eq_getElem h, Option.toList_some, List.mem_append, List.mem_singleton]
  unfold lef
  by_cases h1 : k = G[j]
  · rw [if_pos h1, decide_eq_true (e.2 (.inr h1))]; simp
  · rw [if_neg h1]
    have : (k ∈ G.take (j + 1)) = (k ∈ G.take j) := propext ⟨fun h2 => (e.1 h2).resolve_right h1, fun h2 => e.2 (.inl h2)⟩
    simp only [this]

set_option maxRecDepth 100000 in
set_option maxHeartbeats 16000000 in
theorem windowBounds_walk0 (q : Int) (_ : (Lit.int .i64 q).wf = true) (L : List Oo_.Ot) (sa : Option Addr) (c0 : Nat) {W : World} (hO : Oo_.At W sa L) (_ : L.length ≤ c0) :
    Calls Try.prog 7 #[.int .i64 q, .slice sa L.length c0] W fun e w' => e = .returned (.bool true) ∧ Below W.heap.size W w' := by
  have CL := Lib.hid lives22_any
  have HO := Lib.hid hO
  obtain ⟨m, hm⟩ : ∃ m, L.length = m := ⟨_, rfl⟩
  have HM := Lib.hid hm
  rw [hm]
  clear hO hm
  by_cases h40 : m ≤ 40
  · have h40' : ¬ ((40 : Int) < (m : Int)) := by omega
    have CN := Lib.hid (fun w => wn_new_any q w)
    go_enter Try.func7, Try.ntmps7
    go_wp2_with (go_at_call 15; refine (CN.out _).mono ?_)
    rintro e w1 rfl h1
    obtain ⟨w2, hw2⟩ : ∃ w2, w1.alloc (.cells (Ww_.C ⟨md q, 0, none, 0, 0, false⟩) 29) = w2 := ⟨_, rfl⟩
    have hz2 := Ww_.storeF_zero w1 ⟨md q, 0, none, 0, 0, false⟩
    rw [hw2] at hz2
    obtain ⟨w3, hw3⟩ : ∃ w3, w2.alloc (.cells #[.bool false, .bool false, .bool false, .bool false, .bool false, .bool false, .bool false, .bool false, .bool false, .bool false, .bool false, .bool false, .bool false, .bool false, .bool false, .bool false, .bool false, .bool false, .bool false, .bool false, .bool false, .bool false, .bool false, .bool false, .bool false, .bool false, .bool false, .bool false, .bool false, .bool false, .bool false, .bool false, .bool false, .bool false, .bool false, .bool false, .bool false, .bool false, .bool false, .bool false, .bool false] 66) = w3 := ⟨_, rfl⟩
    have b2 : Below w1.heap.size w1 w2 := hw2 ▸ (Below.refl _ _).alloc (Nat.le_refl _) _
    have b3 : Below w2.heap.size w2 w3 := hw3 ▸ (Below.refl _ _).alloc (Nat.le_refl _) _
    have z2 : w2.heap.size = w1.heap.size + 1 := by rw [← hw2]; simp
    have X2 : Ww_.Box w2 w1.heap.size ⟨md q, 0, none, 0, 0, false⟩ := hw2 ▸ Ww_.Box.new w1 _
    have HI0 := Lib.hid (Inv.new q)
    have HB0 : Hid (Bd W w1.heap.size w2.heap.size ⟨md q, 0, none, 0, 0, false⟩ ⟨md q, 0, [], false⟩ (opn ⟨md q, 0, [], false⟩) w3) :=
      ⟨X2.below b3 X2.lt, ⟨rfl, rfl, rfl, rfl, Sn_.Sl.none _⟩, fun j hj => hw3 ▸ row41 w2 _ _ falses41 j hj, (h1.trans (b2.mono h1.size)).trans (b3.mono (Nat.le_trans h1.size b2.size)), h1.size, Nat.le_trans h1.size b2.size, by rw [← hw3]; simp, by omega, fun bb off e => by cases e⟩
    clear h1 b2 b3 z2 X2
    go_wp2_with fail
    clear hz2 hw2 hw3
    generalize w1.heap.size = B at *
    generalize w2.heap.size = g at *
    go_loopw [7, 23] (fun v z wr => ∃ (i n : Nat) (x : Wn) (s : St), z = .int .i64 i ∧ v = .int .i64 n ∧ i ≤ m ∧ n ≤ i ∧ Hid (Inv s n) ∧ Hid (Bd W B g x s (opn s) wr)) (fun _ z _ => m - (intOf z).toNat)
    case atStart => exact ⟨0, 0, _, _, rfl, rfl, Nat.zero_le _, Nat.le_refl _, HI0, HB0⟩
    case round =>
      clear HI0 HB0 CN
      rename World => wr
      obtain ⟨i, n, x, s, rfl, rfl, hi, hn, HI, HB⟩ := hrel
      by_cases hlt : i < m
      case neg =>
        go_wp2_with (go_at_call 10; refine (CL.out _).mono ?_; rintro e w6 ⟨rfl, h⟩; have B6 := Lib.hid (HB.out.bel.trans (h.mono HB.out.bel.size)); clear h)
        go_returns
        exact ⟨rfl, B6.out⟩
      have hil : i < L.length := by have := HM.out; omega
      obtain ⟨bb, off, hsa, hbl, hc, hA⟩ := HO.out i hil
      subst hsa
      generalize L[i].1 = o at *
      generalize L[i].2 = Q at *
      have HLD := Lib.hid (fun w (h : Bd W B g x s (opn s) w) => show (Ww_.LoadF ⟨B, 0, none⟩).run Try.prog w = .ok (Ww_.v x) w ∧ w.cell? ⟨bb, off + i * 6, none⟩ = some (.int .i64 o.kd) ∧ w.cell? ⟨bb, off + i * 6 + 1, none⟩ = some (.int .i64 o.nn) ∧ w.cell? ⟨bb, off + i * 6 + 2, none⟩ = some (.int .i64 o.st) ∧ w.cell? ⟨bb, off + i * 6 + 3, none⟩ = some (.int .u64 o.m) ∧ w.cell? ⟨bb, off + i * 6 + 4, none⟩ = some (.slice o.sa o.n o.c) ∧ w.cell? ⟨bb, off + i * 6 + 5, none⟩ = some (.int .i64 o.lim) from
        ⟨h.bx.loadF, (h.bel.cell hbl).trans (hc 0 (by decide)), (h.bel.cell hbl).trans (hc 1 (by decide)), (h.bel.cell hbl).trans (hc 2 (by decide)), (h.bel.cell hbl).trans (hc 3 (by decide)), (h.bel.cell hbl).trans (hc 4 (by decide)), (h.bel.cell hbl).trans (hc 5 (by decide))⟩)
      have HAO := Lib.hid (fun w (h : Bd W B g x s (opn s) w) => hA.below h.bel)
      obtain ⟨l1, d0, d1, d2, d3, d4, d5⟩ := HLD.out _ HB.out
      have hon : o.n = Q.length := hA.n
      have hlt' : (i : Int) < (m : Int) := by omega
      have i0 : (0 : Int) ≤ (i : Int) := by omega
      have HLT := Lib.hid hlt
      clear hc hA hbl hil hi
      by_cases h100 : o.n ≤ 100
      case neg =>
        have h100' : (100 : Int) < (o.n : Int) := by omega
        clear hlt hon
        go_wp2_with (go_at_call 10; refine (CL.out _).mono ?_; rintro e w6 ⟨rfl, h⟩; have B6 := Lib.hid (HB.out.bel.trans (h.mono HB.out.bel.size)); clear h)
        go_returns
        exact ⟨rfl, B6.out⟩
      have h100' : ¬ (100 : Int) < (o.n : Int) := by omega
      have CS : Hid (∀ w, Lies w x s → Wa_.Ao w o.a Q → Calls Try.prog 36 #[Ww_.v x, .agg #[.int .i64 o.kd, .int .i64 o.nn, .int .i64 o.st, .int .u64 o.m, .slice o.sa o.n o.c, .int .i64 o.lim], .int .i64 n] w fun e w' => ∃ x' sa g c put t, e = .returned (.tuple #[Ww_.v x', .slice sa g.length c, .bool put]) ∧ StepPost s n x w x' sa g c put t w') :=
        fun w h h' => step22_any x s o Q n w h h' (by omega) HI.out
      clear hon
      replace HB := Lib.hid (HB.out.keep (w' := wr.drew) ⟨rfl, rfl, rfl, Nat.le_refl _, fun _ _ => rfl⟩)
      clear hlt
      go_upto_region 11 with fail
      go_cut [9, 10, 11] (fun p v u wx => ∃ (gt : Nat) (y : Wn) (t : St) (sg : Option Addr) (G : List Int) (c : Nat) (put : Bool), p = .pointer (some ⟨gt, 0, none⟩) ∧ v = .slice sg G.length c ∧ u = .bool put ∧ Hid (After s n t G put) ∧ Hid (Iw W B g x s (opn s) gt y t sg G c wx))
      case first =>
        refine wp_region_held_drew (S := (fun w' => (Ww_.LoadF ⟨B, 0, none⟩).run Try.prog w' = .ok (Ww_.v x) w' ∧ w'.cell? ⟨bb, off + i * 6, none⟩ = some (.int .i64 o.kd) ∧ w'.cell? ⟨bb, off + i * 6 + 1, none⟩ = some (.int .i64 o.nn) ∧ w'.cell? ⟨bb, off + i * 6 + 2, none⟩ = some (.int .i64 o.st) ∧ w'.cell? ⟨bb, off + i * 6 + 3, none⟩ = some (.int .u64 o.m) ∧ w'.cell? ⟨bb, off + i * 6 + 4, none⟩ = some (.slice o.sa o.n o.c) ∧ w'.cell? ⟨bb, off + i * 6 + 5, none⟩ = some (.int .i64 o.lim))) (by kernel_rfl) ?_ (fun hHeld => ?_)
        · exact HLD.out _ HB.out
        refine wpAnyH_take (i := 0) (oi := { dst := some 36, op := Op.load 29 (Operand.tmp 5), type := 29, pos := "law.go:149", after := #[], guard := none }) (v := ?v1) rfl (by kernel_rfl) (by kernel_rfl) (by kernel_rfl) (fun _ _ _ h => h) (Or.inl ⟨by rfl, ?y1⟩) hHeld ?r1
        case y1 => (intro w hSw; (try dsimp only at hSw); go_simp; try with_reducible rfl)
        try simp only [Act.put, List.setIfInBounds_toArray, List.set_cons_zero, List.set_cons_succ]
        refine wpAnyH_take (i := 1) (oi := { dst := some 37, op := Op.move (Operand.tmp 1), type := 65, pos := "law.go:149", after := #[], guard := none }) (v := ?v2) rfl (by kernel_rfl) (by kernel_rfl) (by kernel_rfl) (fun _ _ _ h => h) (Or.inl ⟨by rfl, ?y2⟩) hHeld ?r2
        case y2 => (intro w hSw; (try dsimp only at hSw); go_simp; try with_reducible rfl)
        try simp only [Act.put, List.setIfInBounds_toArray, List.set_cons_zero, List.set_cons_succ]
        refine wpAnyH_take (i := 2) (oi := { dst := some 38, op := Op.move (Operand.tmp 8), type := 3, pos := "law.go:149", after := #[], guard := none }) (v := ?v3) rfl (by kernel_rfl) (by kernel_rfl) (by kernel_rfl) (fun _ _ _ h => h) (Or.inl ⟨by rfl, ?y3⟩) hHeld ?r3
        case y3 => (intro w hSw; (try dsimp only at hSw); go_simp; try with_reducible rfl)
        try simp only [Act.put, List.setIfInBounds_toArray, List.set_cons_zero, List.set_cons_succ]
        refine wpAnyH_take (i := 3) (oi := { dst := some 39, op := Op.indexAddr 65 (Operand.tmp 37) (Operand.tmp 38), type := 0, pos := "law.go:149", after := #[{ on := 1, ground := Ground.data }, { on := 2, ground := Ground.data }], guard := none }) (v := ?v4) rfl (by kernel_rfl) (by kernel_rfl) (by kernel_rfl) (fun _ _ _ h => h) (Or.inl ⟨by rfl, ?y4⟩) hHeld ?r4
        case y4 => (intro w hSw; (try dsimp only at hSw); go_simp; try with_reducible rfl)
        try simp only [Act.put, List.setIfInBounds_toArray, List.set_cons_zero, List.set_cons_succ]
        refine wpAnyH_take (i := 4) (oi := { dst := some 40, op := Op.load 68 (Operand.tmp 39), type := 68, pos := "law.go:149", after := #[{ on := 3, ground := Ground.data }], guard := none }) (v := ?v5) rfl (by kernel_rfl) (by kernel_rfl) (by kernel_rfl) (fun _ _ _ h => h) (Or.inl ⟨by rfl, ?y5⟩) hHeld ?r5
        case y5 => (intro w hSw; (try dsimp only at hSw); go_simp; try with_reducible rfl)
        try simp only [Act.put, List.setIfInBounds_toArray, List.set_cons_zero, List.set_cons_succ]
        refine wpAnyH_take (i := 5) (oi := { dst := some 41, op := Op.move (Operand.tmp 7), type := 3, pos := "law.go:149", after := #[], guard := none }) (v := ?v6) rfl (by kernel_rfl) (by kernel_rfl) (by kernel_rfl) (fun _ _ _ h => h) (Or.inl ⟨by rfl, ?y6⟩) hHeld ?r6
        case y6 => (intro w hSw; (try dsimp only at hSw); go_simp; try with_reducible rfl)
        try simp only [Act.put, List.setIfInBounds_toArray, List.set_cons_zero, List.set_cons_succ]
        refine wpAnyH_ready (rs := [6, 11]) (by kernel_rfl) (by simp) ?_
        refine AllReadyH.cons (o := { dst := some 42, op := Op.call { callee := Callee.value (Operand.func 36), args := #[Operand.tmp 36, Operand.tmp 40, Operand.tmp 41], argTypes := #[29, 68, 3] }, type := 69, pos := "law.go:149", after := #[{ on := 0, ground := Ground.data }, { on := 4, ground := Ground.data }, { on := 5, ground := Ground.data }], guard := none }) rfl (fun K hK => ?_) ?_
        · clear hHeld
          go_simp
          go_at_call 36
          first
            | with_reducible refine (CS.out _ HB.out.lies (HAO.out _ HB.out)).mono ?_
            | with_reducible refine (CS.out _ HA.out.b.lies (HAO.out _ HA.out.b)).mono ?_
          rintro e wb ⟨y, sg, G, c, put, t, rfl, hP⟩
          have HAF := Lib.hid hP.af
          first
            | (have HC := Lib.hid (HB.out.call hP); clear HB)
            | (have HR := Lib.hid (HA.out.call hP); clear HA)
          clear hP
          refine hK.out _ _ ?_ (fun hHeld => ?_)
          · first | exact HLD.out _ HB.out | exact HLD.out _ HA.out.b | exact HLD.out _ HC.out.b | exact HLD.out _ HR.out.am.b | exact HLD.out _ HD.out.b
          clear hK K
          try simp only [Act.put, List.setIfInBounds_toArray, List.set_cons_zero, List.set_cons_succ]
          refine wpAnyH_take (i := 7) (oi := { dst := some 35, op := Op.move (Operand.tmp 42), type := 69, pos := "law.go:149", after := #[{ on := 6, ground := Ground.data }], guard := none }) (v := ?v7) rfl (by kernel_rfl) (by kernel_rfl) (by kernel_rfl) (fun _ _ _ h => h) (Or.inl ⟨by rfl, ?y7⟩) hHeld ?r7
          case y7 => (intro w hSw; (try dsimp only at hSw); go_simp; try with_reducible rfl)
          try simp only [Act.put, List.setIfInBounds_toArray, List.set_cons_zero, List.set_cons_succ]
          refine wpAnyH_take (i := 8) (oi := { dst := some 43, op := Op.extract (Operand.tmp 35) 0, type := 29, pos := "law.go:149", after := #[{ on := 7, ground := Ground.data }], guard := none }) (v := ?v8) rfl (by kernel_rfl) (by kernel_rfl) (by kernel_rfl) (fun _ _ _ h => h) (Or.inl ⟨by rfl, ?y8⟩) hHeld ?r8
          case y8 => (intro w hSw; (try dsimp only at hSw); go_simp; try with_reducible rfl)
          try simp only [Act.put, List.setIfInBounds_toArray, List.set_cons_zero, List.set_cons_succ]
          refine wpAnyH_take (i := 9) (oi := { dst := some 44, op := Op.extract (Operand.tmp 35) 1, type := 48, pos := "law.go:149", after := #[{ on := 7, ground := Ground.data }, { on := 12, ground := Ground.gcOnly Departure.lateStores }], guard := none }) (v := ?v9) rfl (by kernel_rfl) (by kernel_rfl) (by kernel_rfl) (fun _ _ _ h => h) (Or.inl ⟨by rfl, ?y9⟩) hHeld ?r9
          case y9 => (intro w hSw; (try dsimp only at hSw); go_simp; try with_reducible rfl)
          try simp only [Act.put, List.setIfInBounds_toArray, List.set_cons_zero, List.set_cons_succ]
          refine wpAnyH_take (i := 10) (oi := { dst := some 45, op := Op.extract (Operand.tmp 35) 2, type := 4, pos := "law.go:149", after := #[{ on := 7, ground := Ground.data }, { on := 13, ground := Ground.gcOnly Departure.lateStores }], guard := none }) (v := ?v10) rfl (by kernel_rfl) (by kernel_rfl) (by kernel_rfl) (fun _ _ _ h => h) (Or.inl ⟨by rfl, ?y10⟩) hHeld ?r10
          case y10 => (intro w hSw; (try dsimp only at hSw); go_simp; try with_reducible rfl)
          try simp only [Act.put, List.setIfInBounds_toArray, List.set_cons_zero, List.set_cons_succ]
          refine wpAnyH_ready (rs := [11]) (by kernel_rfl) (by simp) ?_
          refine AllReadyH.cons (o := { dst := some 9, op := Op.alloc 29, type := 0, pos := "law.go:149", after := #[], guard := none }) rfl (fun K hK => ?_) ?_
          · clear hHeld
            first
              | (obtain ⟨gt, w7, e1, e2, hs⟩ := HB.out.new; go_simp; (try simp only [e1, e2]); have HA := Lib.hid hs; clear HB)
              | (obtain ⟨gt, w7, e1, e2, hs⟩ := HC.out.new; go_simp; (try simp only [e1, e2]); have HR := Lib.hid hs; clear HC)
            clear hs e1 e2
            refine hK.out _ _ ?_ (fun hHeld => ?_)
            · first | exact HLD.out _ HB.out | exact HLD.out _ HA.out.b | exact HLD.out _ HC.out.b | exact HLD.out _ HR.out.am.b | exact HLD.out _ HD.out.b
            clear hK K
            try simp only [Act.put, List.setIfInBounds_toArray, List.set_cons_zero, List.set_cons_succ]
            refine wpAnyH_ready (rs := [12]) (by kernel_rfl) (by simp) ?_
            refine AllReadyH.cons (o := { dst := none, op := Op.store 29 (Operand.tmp 9) (Operand.tmp 43), type := 0, pos := "law.go:149", after := #[{ on := 11, ground := Ground.data }, { on := 8, ground := Ground.data }, { on := 6, ground := Ground.chain }, { on := 0, ground := Ground.phase }, { on := 1, ground := Ground.phase }, { on := 2, ground := Ground.phase }, { on := 3, ground := Ground.phase }, { on := 4, ground := Ground.phase }, { on := 5, ground := Ground.phase }, { on := 6, ground := Ground.phase }, { on := 7, ground := Ground.phase }, { on := 8, ground := Ground.phase }, { on := 9, ground := Ground.textOnly Departure.lateStores }, { on := 10, ground := Ground.textOnly Departure.lateStores }, { on := 11, ground := Ground.phase }], guard := none }) rfl (fun K hK => ?_) ?_
            · clear hHeld
              obtain ⟨w8, e1, hs⟩ := HR.out.store
              go_simp
              have HD := Lib.hid hs
              clear hs e1 HR
              refine hK.out _ _ ?_ (fun hHeld => ?_)
              · first | exact HLD.out _ HB.out | exact HLD.out _ HA.out.b | exact HLD.out _ HC.out.b | exact HLD.out _ HR.out.am.b | exact HLD.out _ HD.out.b
              clear hK K
              try simp only [Act.put, List.setIfInBounds_toArray, List.set_cons_zero, List.set_cons_succ]
              refine wpAnyH_take (i := 13) (oi := { dst := some 10, op := Op.assign (Operand.tmp 44), type := 48, pos := "law.go:149", after := #[{ on := 9, ground := Ground.data }, { on := 12, ground := Ground.chain }, { on := 0, ground := Ground.phase }, { on := 1, ground := Ground.phase }, { on := 2, ground := Ground.phase }, { on := 3, ground := Ground.phase }, { on := 4, ground := Ground.phase }, { on := 5, ground := Ground.phase }, { on := 6, ground := Ground.phase }, { on := 7, ground := Ground.phase }, { on := 8, ground := Ground.phase }, { on := 9, ground := Ground.phase }, { on := 10, ground := Ground.textOnly Departure.lateStores }, { on := 11, ground := Ground.phase }, { on := 12, ground := Ground.phase }], guard := none }) (v := ?v11) rfl (by kernel_rfl) (by kernel_rfl) (by kernel_rfl) (fun _ _ _ h => h) (Or.inl ⟨by rfl, ?y11⟩) hHeld ?r11
              case y11 => (intro w hSw; (try dsimp only at hSw); go_simp; try with_reducible rfl)
              try simp only [Act.put, List.setIfInBounds_toArray, List.set_cons_zero, List.set_cons_succ]
              refine wpAnyH_take (i := 14) (oi := { dst := some 11, op := Op.assign (Operand.tmp 45), type := 4, pos := "law.go:149", after := #[{ on := 10, ground := Ground.data }, { on := 13, ground := Ground.chain }, { on := 0, ground := Ground.phase }, { on := 1, ground := Ground.phase }, { on := 2, ground := Ground.phase }, { on := 3, ground := Ground.phase }, { on := 4, ground := Ground.phase }, { on := 5, ground := Ground.phase }, { on := 6, ground := Ground.phase }, { on := 7, ground := Ground.phase }, { on := 8, ground := Ground.phase }, { on := 9, ground := Ground.phase }, { on := 10, ground := Ground.phase }, { on := 11, ground := Ground.phase }, { on := 12, ground := Ground.phase }, { on := 13, ground := Ground.phase }], guard := none }) (v := ?v12) rfl (by kernel_rfl) (by kernel_rfl) (by kernel_rfl) (fun _ _ _ h => h) (Or.inl ⟨by rfl, ?y12⟩) hHeld ?r12
              case y12 => (intro w hSw; (try dsimp only at hSw); go_simp; try with_reducible rfl)
              try simp only [Act.put, List.setIfInBounds_toArray, List.set_cons_zero, List.set_cons_succ]
              refine wpAnyH_done (by kernel_rfl) ?_ _
              go_wp2_with fail
              go_meet
              exact ⟨gt, y, t, sg, G, c, put, rfl, rfl, rfl, HAF, HD⟩
            exact AllReadyH.nil
          exact AllReadyH.nil
        refine AllReadyH.cons (o := { dst := some 9, op := Op.alloc 29, type := 0, pos := "law.go:149", after := #[], guard := none }) rfl (fun K hK => ?_) ?_
        · clear hHeld
          first
            | (obtain ⟨gt, w7, e1, e2, hs⟩ := HB.out.new; go_simp; (try simp only [e1, e2]); have HA := Lib.hid hs; clear HB)
            | (obtain ⟨gt, w7, e1, e2, hs⟩ := HC.out.new; go_simp; (try simp only [e1, e2]); have HR := Lib.hid hs; clear HC)
          clear hs e1 e2
          refine hK.out _ _ ?_ (fun hHeld => ?_)
          · first | exact HLD.out _ HB.out | exact HLD.out _ HA.out.b | exact HLD.out _ HC.out.b | exact HLD.out _ HR.out.am.b | exact HLD.out _ HD.out.b
          clear hK K
          try simp only [Act.put, List.setIfInBounds_toArray, List.set_cons_zero, List.set_cons_succ]
          refine wpAnyH_ready (rs := [6]) (by kernel_rfl) (by simp) ?_
          refine AllReadyH.cons (o := { dst := some 42, op := Op.call { callee := Callee.value (Operand.func 36), args := #[Operand.tmp 36, Operand.tmp 40, Operand.tmp 41], argTypes := #[29, 68, 3] }, type := 69, pos := "law.go:149", after := #[{ on := 0, ground := Ground.data }, { on := 4, ground := Ground.data }, { on := 5, ground := Ground.data }], guard := none }) rfl (fun K hK => ?_) ?_
          · clear hHeld
            go_simp
            go_at_call 36
            first
              | with_reducible refine (CS.out _ HB.out.lies (HAO.out _ HB.out)).mono ?_
              | with_reducible refine (CS.out _ HA.out.b.lies (HAO.out _ HA.out.b)).mono ?_
            rintro e wb ⟨y, sg, G, c, put, t, rfl, hP⟩
            have HAF := Lib.hid hP.af
            first
              | (have HC := Lib.hid (HB.out.call hP); clear HB)
              | (have HR := Lib.hid (HA.out.call hP); clear HA)
            clear hP
            refine hK.out _ _ ?_ (fun hHeld => ?_)
            · first | exact HLD.out _ HB.out | exact HLD.out _ HA.out.b | exact HLD.out _ HC.out.b | exact HLD.out _ HR.out.am.b | exact HLD.out _ HD.out.b
            clear hK K
            try simp only [Act.put, List.setIfInBounds_toArray, List.set_cons_zero, List.set_cons_succ]
            refine wpAnyH_take (i := 7) (oi := { dst := some 35, op := Op.move (Operand.tmp 42), type := 69, pos := "law.go:149", after := #[{ on := 6, ground := Ground.data }], guard := none }) (v := ?v13) rfl (by kernel_rfl) (by kernel_rfl) (by kernel_rfl) (fun _ _ _ h => h) (Or.inl ⟨by rfl, ?y13⟩) hHeld ?r13
            case y13 => (intro w hSw; (try dsimp only at hSw); go_simp; try with_reducible rfl)
            try simp only [Act.put, List.setIfInBounds_toArray, List.set_cons_zero, List.set_cons_succ]
            refine wpAnyH_take (i := 8) (oi := { dst := some 43, op := Op.extract (Operand.tmp 35) 0, type := 29, pos := "law.go:149", after := #[{ on := 7, ground := Ground.data }], guard := none }) (v := ?v14) rfl (by kernel_rfl) (by kernel_rfl) (by kernel_rfl) (fun _ _ _ h => h) (Or.inl ⟨by rfl, ?y14⟩) hHeld ?r14
            case y14 => (intro w hSw; (try dsimp only at hSw); go_simp; try with_reducible rfl)
            try simp only [Act.put, List.setIfInBounds_toArray, List.set_cons_zero, List.set_cons_succ]
            refine wpAnyH_take (i := 9) (oi := { dst := some 44, op := Op.extract (Operand.tmp 35) 1, type := 48, pos := "law.go:149", after := #[{ on := 7, ground := Ground.data }, { on := 12, ground := Ground.gcOnly Departure.lateStores }], guard := none }) (v := ?v15) rfl (by kernel_rfl) (by kernel_rfl) (by kernel_rfl) (fun _ _ _ h => h) (Or.inl ⟨by rfl, ?y15⟩) hHeld ?r15
            case y15 => (intro w hSw; (try dsimp only at hSw); go_simp; try with_reducible rfl)
            try simp only [Act.put, List.setIfInBounds_toArray, List.set_cons_zero, List.set_cons_succ]
            refine wpAnyH_take (i := 10) (oi := { dst := some 45, op := Op.extract (Operand.tmp 35) 2, type := 4, pos := "law.go:149", after := #[{ on := 7, ground := Ground.data }, { on := 13, ground := Ground.gcOnly Departure.lateStores }], guard := none }) (v := ?v16) rfl (by kernel_rfl) (by kernel_rfl) (by kernel_rfl) (fun _ _ _ h => h) (Or.inl ⟨by rfl, ?y16⟩) hHeld ?r16
            case y16 => (intro w hSw; (try dsimp only at hSw); go_simp; try with_reducible rfl)
            try simp only [Act.put, List.setIfInBounds_toArray, List.set_cons_zero, List.set_cons_succ]
            refine wpAnyH_ready (rs := [12]) (by kernel_rfl) (by simp) ?_
            refine AllReadyH.cons (o := { dst := none, op := Op.store 29 (Operand.tmp 9) (Operand.tmp 43), type := 0, pos := "law.go:149", after := #[{ on := 11, ground := Ground.data }, { on := 8, ground := Ground.data }, { on := 6, ground := Ground.chain }, { on := 0, ground := Ground.phase }, { on := 1, ground := Ground.phase }, { on := 2, ground := Ground.phase }, { on := 3, ground := Ground.phase }, { on := 4, ground := Ground.phase }, { on := 5, ground := Ground.phase }, { on := 6, ground := Ground.phase }, { on := 7, ground := Ground.phase }, { on := 8, ground := Ground.phase }, { on := 9, ground := Ground.textOnly Departure.lateStores }, { on := 10, ground := Ground.textOnly Departure.lateStores }, { on := 11, ground := Ground.phase }], guard := none }) rfl (fun K hK => ?_) ?_
            · clear hHeld
              obtain ⟨w8, e1, hs⟩ := HR.out.store
              go_simp
              have HD := Lib.hid hs
              clear hs e1 HR
              refine hK.out _ _ ?_ (fun hHeld => ?_)
              · first | exact HLD.out _ HB.out | exact HLD.out _ HA.out.b | exact HLD.out _ HC.out.b | exact HLD.out _ HR.out.am.b | exact HLD.out _ HD.out.b
              clear hK K
              try simp only [Act.put, List.setIfInBounds_toArray, List.set_cons_zero, List.set_cons_succ]
              refine wpAnyH_take (i := 13) (oi := { dst := some 10, op := Op.assign (Operand.tmp 44), type := 48, pos := "law.go:149", after := #[{ on := 9, ground := Ground.data }, { on := 12, ground := Ground.chain }, { on := 0, ground := Ground.phase }, { on := 1, ground := Ground.phase }, { on := 2, ground := Ground.phase }, { on := 3, ground := Ground.phase }, { on := 4, ground := Ground.phase }, { on := 5, ground := Ground.phase }, { on := 6, ground := Ground.phase }, { on := 7, ground := Ground.phase }, { on := 8, ground := Ground.phase }, { on := 9, ground := Ground.phase }, { on := 10, ground := Ground.textOnly Departure.lateStores }, { on := 11, ground := Ground.phase }, { on := 12, ground := Ground.phase }], guard := none }) (v := ?v17) rfl (by kernel_rfl) (by kernel_rfl) (by kernel_rfl) (fun _ _ _ h => h) (Or.inl ⟨by rfl, ?y17⟩) hHeld ?r17
              case y17 => (intro w hSw; (try dsimp only at hSw); go_simp; try with_reducible rfl)
              try simp only [Act.put, List.setIfInBounds_toArray, List.set_cons_zero, List.set_cons_succ]
              refine wpAnyH_take (i := 14) (oi := { dst := some 11, op := Op.assign (Operand.tmp 45), type := 4, pos := "law.go:149", after := #[{ on := 10, ground := Ground.data }, { on := 13, ground := Ground.chain }, { on := 0, ground := Ground.phase }, { on := 1, ground := Ground.phase }, { on := 2, ground := Ground.phase }, { on := 3, ground := Ground.phase }, { on := 4, ground := Ground.phase }, { on := 5, ground := Ground.phase }, { on := 6, ground := Ground.phase }, { on := 7, ground := Ground.phase }, { on := 8, ground := Ground.phase }, { on := 9, ground := Ground.phase }, { on := 10, ground := Ground.phase }, { on := 11, ground := Ground.phase }, { on := 12, ground := Ground.phase }, { on := 13, ground := Ground.phase }], guard := none }) (v := ?v18) rfl (by kernel_rfl) (by kernel_rfl) (by kernel_rfl) (fun _ _ _ h => h) (Or.inl ⟨by rfl, ?y18⟩) hHeld ?r18
              case y18 => (intro w hSw; (try dsimp only at hSw); go_simp; try with_reducible rfl)
              try simp only [Act.put, List.setIfInBounds_toArray, List.set_cons_zero, List.set_cons_succ]
              refine wpAnyH_done (by kernel_rfl) ?_ _
              go_wp2_with fail
              go_meet
              exact ⟨gt, y, t, sg, G, c, put, rfl, rfl, rfl, HAF, HD⟩
            exact AllReadyH.nil
          exact AllReadyH.nil
        exact AllReadyH.nil
      case rest =>
        obtain ⟨gt, y, t, sg, G, c, put, rfl, rfl, rfl, HAF, HI1⟩ := hcut
        have HGL := Lib.hid HAF.out.gl
        have hn41 : n < 41 := by omega
        have fz := (HI1.out.b.nt n hn41).2
        have cz := (HI1.out.b.nt n hn41).1
        have hn41' : (n : Int) < 41 := by omega
        have n0 : (0 : Int) ≤ (n : Int) := by omega
        clear HB HLD HAO CS l1 d0 d1 d2 d3 d4 d5
        cases put
        · obtain ⟨N, hN⟩ : ∃ N, n = N := ⟨_, rfl⟩
          have HGI : Hid (∀ k ∈ G, 0 ≤ k ∧ k < (N : Int) ∧ opn s k = true) := hN ▸ HAF.out.gin
          have HIT : Hid (Inv t N) := hN ▸ HAF.out.inv
          have HOP : Hid (∀ k, lef (opn s) G G.length k = opn t k) := fun k => lef_all (fun k => by have := HAF.out.o k; simpa using this) k
          have HNI : Hid (N ≤ i + 1) := by show N ≤ i + 1; omega
          have HND := Lib.hid HAF.out.nd
          have R0 : Hid (Iw W B g x s (lef (opn s) G 0) gt y t sg G c wc) := HI1.out.congr (fun j _ => lef_zero _ _ _)
          generalize opn s = f1 at *
          subst hN
          clear HAF HI1 fz cz hn hn41 hn41' n0 h100 h100' HI HO
          go_wp2_with fail
          obtain ⟨N, hN⟩ : ∃ N, N = n := ⟨_, rfl⟩
          subst hN
          obtain ⟨wd, hwd⟩ : ∃ wd, wd = wc := ⟨_, rfl⟩
          subst hwd
          -- in sight: N : Nat, HGL, HGI, HIT, HOP, HNI, HND, R0 : Hid (Iw W B g x s (lef f1 G 0) gt y t sg G c wd)
          have HN41 : Hid (N ≤ 40) := by have := HNI.out; have := HLT.out; show N ≤ 40; omega
          go_loopw [53] (fun z wr => ∃ j : Nat, z = .int .i64 j ∧ j ≤ G.length ∧ Hid (Iw W B g x s (lef f1 G j) gt y t sg G c wr)) (fun z _ => G.length - (intOf z).toNat)
          case atStart => exact ⟨0, rfl, Nat.zero_le _, R0⟩
          case round =>
            clear R0
            rename World => wq
            obtain ⟨j, rfl, hj, RJ⟩ := hrel
            by_cases hjl : j < G.length
            · have hjl' : (j : Int) < (G.length : Int) := by omega
              have j0 : (0 : Int) ≤ (j : Int) := by omega
              obtain ⟨gb, go, hsg, hgl, k0⟩ := RJ.out.il.lies j hjl
              obtain ⟨q0, q1, q2⟩ := HGI.out G[j] (List.getElem_mem hjl)
              have hat := lef_at HND.out hjl q2
              have HSU := Lib.hid (fun k => lef_succ (f := f1) hjl k)
              have HJL := Lib.hid hjl
              generalize G[j] = qe at *
              obtain ⟨e, he⟩ : ∃ e : Nat, qe = (e : Int) := ⟨qe.toNat, by omega⟩
              subst he
              have he41 : e < 41 := by have := HN41.out; omega
              have he41' : (e : Int) < 41 := by omega
              have ce := (RJ.out.b.nt e he41).1
              have fe := (RJ.out.b.nt e he41).2
              rw [hat] at ce
              have R1 : Hid (Iw W B g x s (lef f1 G (j + 1)) gt y t sg G c (wq.setCell ⟨g, e, none⟩ (.bool false))) := (RJ.out.mark e false).congr (fun k _ => by rw [HSU.out]; rfl)
              have hj64 : j ≤ 64 := by have := HGL.out; omega
              subst hsg
              clear hat HSU hj q2 hgl RJ hjl
              go_wp2_with fail
              go_roundw
              case rel => exact ⟨j + 1, by go_num, HJL.out, R1⟩
              case measure => have := HJL.out; simp [intOf]; omega
            · obtain rfl : j = G.length := by omega
              have RT : Hid (Iw W B g x s (opn t) gt y t sg G c wq) := RJ.out.congr (fun k _ => (HOP.out k).symm)
              clear RJ HOP HGI HND hjl hj
              generalize G.length = n2 at *
              go_wp2_with fail
              obtain ⟨as1, as2, as3⟩ := HIT.out.asks
              have hck := HIT.out.ok
              have hyn : (y.n : Int) = (t.l.length : Int) := by rw [RT.out.lt.n]
              have hys : y.sz = t.sz := RT.out.lt.sz
              have hlen : t.l.length ≤ 1000 := Nat.le_trans HIT.out.len (by decide)
              have hwid : wid t.sz ≤ 9223372036854775807 := by have := (chk_iff.1 hck).1.2; unfold wid; split <;> omega
              have CST : Hid (∀ w, Iw W B g x s (opn t) gt y t sg G c w → Calls Try.prog 20 #[Ww_.v y] w fun e w' => e = .returned (.int .i64 (bgn t)) ∧ Below w.heap.size w w') := fun w h => wn_start_any y t w h.lt
              have CD : Hid (∀ w, Calls Try.prog 37 #[.int .i64 (bgn t), .int .i64 y.nx] w fun e w' => e = .returned (.int .i64 (used t)) ∧ w = w') := fun w => by
                have h := r22_dist_any (bgn t) y.nx w
                rw [show dist (bgn t) y.nx = used t by rw [RT.out.lt.nx]; rfl] at h
                exact h
              have CCK := Lib.hid (fun w (h : Lies w y t) => wn_check_any y t w h hlen)
              rw [hck] at CCK
              have CRM := Lib.hid (fun w (h : Lies w y t) => wn_room_any y t w h hwid)
              have CWT := Lib.hid (fun (k : Int) w (h : Iw W B g x s (opn t) gt y t sg G c w) => waiting22_any y t k w h.lt hlen)
              have HCN := Lib.hid (fun k => cnt_opn HIT.out k)
              have hl1 : ¬ used t < (y.n : Int) := by omega
              have hr1 : ¬ room t < 0 := by omega
              have hm1 : ¬ (if (1 : Int) < y.sz then y.sz else 1) < used t := by rw [hys]; unfold wid at as1; omega
              have hm2 : ¬ (max y.sz 1) < used t := by rw [hys]; unfold wid at as1; omega
              generalize used t = D at *
              generalize bgn t = S0 at *
              generalize room t = R at *
              clear as1 as2 as3 hck hyn hys hlen hwid
              have q0 : ∀ (q : Of (Iw W B g x s (opn t) gt y t sg G c)) (j : Nat), q.w.cell? ⟨gt, j, none⟩ = (Ww_.C y)[j]? := fun q j => q.ok.bt.all j
              have q1 : ∀ (q : Of (Iw W B g x s (opn t) gt y t sg G c)), (Ww_.LoadF ⟨gt, 0, none⟩).run Try.prog q.w = .ok (Ww_.v y) q.w := fun q => q.ok.bt.loadF
              have _ne : Nonempty (Of (Iw W B g x s (opn t) gt y t sg G c)) := ⟨⟨_, RT.out⟩⟩
              refine wp_region_of (Iw W B g x s (opn t) gt y t sg G c) (by kernel_rfl) (Region.lexB_of_fast (by kernel_rfl)) (RT.out.kp _ _ ⟨rfl, rfl, rfl, Nat.le_refl _, fun _ _ => rfl⟩) ?_
              repeat (go_big_quiet_step (first
                | (go_at_call 37; with_reducible exact Calls.of_same (CD.out _))
                | (go_at_call 20; exact Calls.of_below Iw.kp (CST.out _ (Of.ok _)))))
              refine wpQuiet_nil ?_
              rintro _ ⟨q, rfl⟩
              have R2 := Lib.hid q.ok
              generalize q.w = w11 at *
              clear q0 q1 _ne RT CST CD
              obtain ⟨lT, eT⟩ := And.intro R2.out.bt.loadF R2.out.bt.all
              go_wp2_with (first
                | (go_at_call 11; refine (CCK.out _ R2.out.lt).mono ?_; rintro e w12 ⟨rfl, h⟩; replace R2 := Lib.hid (R2.out.keep h); have lT2 := R2.out.bt.loadF; have eT2 := R2.out.bt.all; clear h)
                | (go_at_call 22; refine (CRM.out _ R2.out.lt).mono ?_; rintro e w13 ⟨rfl, h⟩; replace R2 := Lib.hid (R2.out.keep h); have lT3 := R2.out.bt.loadF; have eT3 := R2.out.bt.all; clear h))
              clear lT lT2 lT3 eT eT2 eT3 hl1 hm1 hm2 hr1
              go_loopw [14] (fun z wr => ∃ k : Nat, z = .int .i64 k ∧ k ≤ N ∧ Hid (Iw W B g x s (opn t) gt y t sg G c wr)) (fun z _ => N - (intOf z).toNat)
              case atStart => exact ⟨0, rfl, Nat.zero_le _, R2⟩
              case round =>
                clear R2
                rename World => wv
                obtain ⟨k, rfl, hk, RK⟩ := hrel
                by_cases hkN : k < N
                · have hkN' : (k : Int) < (N : Int) := by omega
                  have k0 : (0 : Int) ≤ (k : Int) := by omega
                  have k41 : (k : Int) < 41 := by have := HN41.out; omega
                  have HKN := Lib.hid hkN
                  obtain ⟨cv, CW, hcv⟩ : ∃ cv : Int, Hid (∀ w, Iw W B g x s (opn t) gt y t sg G c w → Calls Try.prog 38 #[Ww_.v y, .int .i64 k] w fun e w' => e = .returned (.int .i64 cv) ∧ Below w.heap.size w w') ∧ (cv == 1) = opn t k :=
                    ⟨(cnt t k : Int), CWT.out k, by rw [← HCN.out k]; rfl⟩
                  have q0 : ∀ (q : Of (Iw W B g x s (opn t) gt y t sg G c)), q.w.cell? ⟨g, k, none⟩ = some (.bool (opn t k)) := fun q => (q.ok.b.nt k (by have := HN41.out; omega)).1
                  have q1 : ∀ (q : Of (Iw W B g x s (opn t) gt y t sg G c)), (Ww_.LoadF ⟨gt, 0, none⟩).run Try.prog q.w = .ok (Ww_.v y) q.w := fun q => q.ok.bt.loadF
                  have _ne : Nonempty (Of (Iw W B g x s (opn t) gt y t sg G c)) := ⟨⟨_, RK.out⟩⟩
                  generalize opn t (k : Int) = bk at *
                  clear hk hkN
                  go_wp2_with fail
                  refine wp_region_of (Iw W B g x s (opn t) gt y t sg G c) (by kernel_rfl) (Region.lexB_of_fast (by kernel_rfl)) (RK.out.kp _ _ ⟨rfl, rfl, rfl, Nat.le_refl _, fun _ _ => rfl⟩) ?_
                  repeat (go_big_quiet_step (first
                    | (go_at_call 38; exact Calls.of_below Iw.kp (CW.out _ (Of.ok _)))))
                  refine wpQuiet_nil ?_
                  rintro _ ⟨q, rfl⟩
                  have RL := Lib.hid q.ok
                  generalize q.w = w14 at *
                  clear q0 q1 _ne RK CW
                  go_wp2_with fail
                  go_roundw
                  case rel => exact ⟨k + 1, by go_num, HKN.out, RL⟩
                  case measure => have := HKN.out; simp [intOf]; omega
                · obtain rfl : k = N := by omega
                  obtain ⟨sB, hB⟩ := RK.out.fin
                  have RB := Lib.hid hB
                  have lY := RK.out.bt.loadF
                  clear hB RK hk hkN CWT HCN CRM CCK
                  go_wp2_with fail
                  go_roundw
                  case rel => exact ⟨i + 1, k, y, t, by go_num, rfl, HLT.out, HNI.out, HIT, RB⟩
                  case measure => have := HLT.out; simp [intOf]; omega
        · have HGI : Hid (∀ k ∈ G, 0 ≤ k ∧ k < ((n + 1 : Nat) : Int) ∧ setF (opn s) n true k = true) := fun k hk => by
            obtain ⟨h1, h2, h3⟩ := HAF.out.gin k hk
            exact ⟨h1, by omega, by unfold setF; rw [if_neg (by omega)]; exact h3⟩
          have HIT : Hid (Inv t (n + 1)) := HAF.out.inv
          have HOP : Hid (∀ k, lef (setF (opn s) n true) G G.length k = opn t k) := fun k => lef_all (fun k => by
            rw [HAF.out.o k]
            unfold setF
            by_cases e : k = (n : Int)
            · rw [if_pos e]
              exact ⟨fun _ => ⟨rfl, fun hk => by have := (HAF.out.gin k hk).2.1; omega⟩, fun _ => .inr ⟨rfl, e⟩⟩
            · rw [if_neg e]
              exact ⟨fun h => h.elim id (fun h => absurd h.2 e), fun h => .inl h⟩) k
          have HNI : Hid (n + 1 ≤ i + 1) := by show n + 1 ≤ i + 1; omega
          have HND := Lib.hid HAF.out.nd
          have R0 : Hid (Iw W B g x s (lef (setF (opn s) n true) G 0) gt y t sg G c (wc.setCell ⟨g, n, none⟩ (.bool true))) := (HI1.out.mark n true).congr (fun j _ => lef_zero _ _ _)
          generalize setF (opn s) n true = f1 at *
          clear HAF HI1 h100 h100' HI HO
          go_wp2_with fail
          obtain ⟨N, hN⟩ : ∃ N : Nat, n + 1 = N := ⟨_, rfl⟩
          rw [show ((n : Int) + 1) = (N : Int) by omega]
          rw [hN] at HIT HNI HGI
          generalize wc.setCell ⟨g, n, none⟩ (.bool true) = wd at *
          clear fz cz hn hn41 hn41' n0 hN
          -- in sight: N : Nat, HGL, HGI, HIT, HOP, HNI, HND, R0 : Hid (Iw W B g x s (lef f1 G 0) gt y t sg G c wd)
          have HN41 : Hid (N ≤ 40) := by have := HNI.out; have := HLT.out; show N ≤ 40; omega
          go_loopw [53] (fun z wr => ∃ j : Nat, z = .int .i64 j ∧ j ≤ G.length ∧ Hid (Iw W B g x s (lef f1 G j) gt y t sg G c wr)) (fun z _ => G.length - (intOf z).toNat)
          case atStart => exact ⟨0, rfl, Nat.zero_le _, R0⟩
          case round =>
            clear R0
            rename World => wq
            obtain ⟨j, rfl, hj, RJ⟩ := hrel
            by_cases hjl : j < G.length
            · have hjl' : (j : Int) < (G.length : Int) := by omega
              have j0 : (0 : Int) ≤ (j : Int) := by omega
              obtain ⟨gb, go, hsg, hgl, k0⟩ := RJ.out.il.lies j hjl
              obtain ⟨q0, q1, q2⟩ := HGI.out G[j] (List.getElem_mem hjl)
              have hat := lef_at HND.out hjl q2
              have HSU := Lib.hid (fun k => lef_succ (f := f1) hjl k)
              have HJL := Lib.hid hjl
              generalize G[j] = qe at *
              obtain ⟨e, he⟩ : ∃ e : Nat, qe = (e : Int) := ⟨qe.toNat, by omega⟩
              subst he
              have he41 : e < 41 := by have := HN41.out; omega
              have he41' : (e : Int) < 41 := by omega
              have ce := (RJ.out.b.nt e he41).1
              have fe := (RJ.out.b.nt e he41).2
              rw [hat] at ce
              have R1 : Hid (Iw W B g x s (lef f1 G (j + 1)) gt y t sg G c (wq.setCell ⟨g, e, none⟩ (.bool false))) := (RJ.out.mark e false).congr (fun k _ => by rw [HSU.out]; rfl)
              have hj64 : j ≤ 64 := by have := HGL.out; omega
              subst hsg
              clear hat HSU hj q2 hgl RJ hjl
              go_wp2_with fail
              go_roundw
              case rel => exact ⟨j + 1, by go_num, HJL.out, R1⟩
              case measure => have := HJL.out; simp [intOf]; omega
            · obtain rfl : j = G.length := by omega
              have RT : Hid (Iw W B g x s (opn t) gt y t sg G c wq) := RJ.out.congr (fun k _ => (HOP.out k).symm)
              clear RJ HOP HGI HND hjl hj
              generalize G.length = n2 at *
              go_wp2_with fail
              obtain ⟨as1, as2, as3⟩ := HIT.out.asks
              have hck := HIT.out.ok
              have hyn : (y.n : Int) = (t.l.length : Int) := by rw [RT.out.lt.n]
              have hys : y.sz = t.sz := RT.out.lt.sz
              have hlen : t.l.length ≤ 1000 := Nat.le_trans HIT.out.len (by decide)
              have hwid : wid t.sz ≤ 9223372036854775807 := by have := (chk_iff.1 hck).1.2; unfold wid; split <;> omega
              have CST : Hid (∀ w, Iw W B g x s (opn t) gt y t sg G c w → Calls Try.prog 20 #[Ww_.v y] w fun e w' => e = .returned (.int .i64 (bgn t)) ∧ Below w.heap.size w w') := fun w h => wn_start_any y t w h.lt
              have CD : Hid (∀ w, Calls Try.prog 37 #[.int .i64 (bgn t), .int .i64 y.nx] w fun e w' => e = .returned (.int .i64 (used t)) ∧ w = w') := fun w => by
                have h := r22_dist_any (bgn t) y.nx w
                rw [show dist (bgn t) y.nx = used t by rw [RT.out.lt.nx]; rfl] at h
                exact h
              have CCK := Lib.hid (fun w (h : Lies w y t) => wn_check_any y t w h hlen)
              rw [hck] at CCK
              have CRM := Lib.hid (fun w (h : Lies w y t) => wn_room_any y t w h hwid)
              have CWT := Lib.hid (fun (k : Int) w (h : Iw W B g x s (opn t) gt y t sg G c w) => waiting22_any y t k w h.lt hlen)
              have HCN := Lib.hid (fun k => cnt_opn HIT.out k)
              have hl1 : ¬ used t < (y.n : Int) := by omega
              have hr1 : ¬ room t < 0 := by omega
              have hm1 : ¬ (if (1 : Int) < y.sz then y.sz else 1) < used t := by rw [hys]; unfold wid at as1; omega
              have hm2 : ¬ (max y.sz 1) < used t := by rw [hys]; unfold wid at as1; omega
              generalize used t = D at *
              generalize bgn t = S0 at *
              generalize room t = R at *
              clear as1 as2 as3 hck hyn hys hlen hwid
              have q0 : ∀ (q : Of (Iw W B g x s (opn t) gt y t sg G c)) (j : Nat), q.w.cell? ⟨gt, j, none⟩ = (Ww_.C y)[j]? := fun q j => q.ok.bt.all j
              have q1 : ∀ (q : Of (Iw W B g x s (opn t) gt y t sg G c)), (Ww_.LoadF ⟨gt, 0, none⟩).run Try.prog q.w = .ok (Ww_.v y) q.w := fun q => q.ok.bt.loadF
              have _ne : Nonempty (Of (Iw W B g x s (opn t) gt y t sg G c)) := ⟨⟨_, RT.out⟩⟩
              refine wp_region_of (Iw W B g x s (opn t) gt y t sg G c) (by kernel_rfl) (Region.lexB_of_fast (by kernel_rfl)) (RT.out.kp _ _ ⟨rfl, rfl, rfl, Nat.le_refl _, fun _ _ => rfl⟩) ?_
              repeat (go_big_quiet_step (first
                | (go_at_call 37; with_reducible exact Calls.of_same (CD.out _))
                | (go_at_call 20; exact Calls.of_below Iw.kp (CST.out _ (Of.ok _)))))
              refine wpQuiet_nil ?_
              rintro _ ⟨q, rfl⟩
              have R2 := Lib.hid q.ok
              generalize q.w = w11 at *
              clear q0 q1 _ne RT CST CD
              obtain ⟨lT, eT⟩ := And.intro R2.out.bt.loadF R2.out.bt.all
              go_wp2_with (first
                | (go_at_call 11; refine (CCK.out _ R2.out.lt).mono ?_; rintro e w12 ⟨rfl, h⟩; replace R2 := Lib.hid (R2.out.keep h); have lT2 := R2.out.bt.loadF; have eT2 := R2.out.bt.all; clear h)
                | (go_at_call 22; refine (CRM.out _ R2.out.lt).mono ?_; rintro e w13 ⟨rfl, h⟩; replace R2 := Lib.hid (R2.out.keep h); have lT3 := R2.out.bt.loadF; have eT3 := R2.out.bt.all; clear h))
              clear lT lT2 lT3 eT eT2 eT3 hl1 hm1 hm2 hr1
              go_loopw [14] (fun z wr => ∃ k : Nat, z = .int .i64 k ∧ k ≤ N ∧ Hid (Iw W B g x s (opn t) gt y t sg G c wr)) (fun z _ => N - (intOf z).toNat)
              case atStart => exact ⟨0, rfl, Nat.zero_le _, R2⟩
              case round =>
                clear R2
                rename World => wv
                obtain ⟨k, rfl, hk, RK⟩ := hrel
                by_cases hkN : k < N
                · have hkN' : (k : Int) < (N : Int) := by omega
                  have k0 : (0 : Int) ≤ (k : Int) := by omega
                  have k41 : (k : Int) < 41 := by have := HN41.out; omega
                  have HKN := Lib.hid hkN
                  obtain ⟨cv, CW, hcv⟩ : ∃ cv : Int, Hid (∀ w, Iw W B g x s (opn t) gt y t sg G c w → Calls Try.prog 38 #[Ww_.v y, .int .i64 k] w fun e w' => e = .returned (.int .i64 cv) ∧ Below w.heap.size w w') ∧ (cv == 1) = opn t k :=
                    ⟨(cnt t k : Int), CWT.out k, by rw [← HCN.out k]; rfl⟩
                  have q0 : ∀ (q : Of (Iw W B g x s (opn t) gt y t sg G c)), q.w.cell? ⟨g, k, none⟩ = some (.bool (opn t k)) := fun q => (q.ok.b.nt k (by have := HN41.out; omega)).1
                  have q1 : ∀ (q : Of (Iw W B g x s (opn t) gt y t sg G c)), (Ww_.LoadF ⟨gt, 0, none⟩).run Try.prog q.w = .ok (Ww_.v y) q.w := fun q => q.ok.bt.loadF
                  have _ne : Nonempty (Of (Iw W B g x s (opn t) gt y t sg G c)) := ⟨⟨_, RK.out⟩⟩
                  generalize opn t (k : Int) = bk at *
                  clear hk hkN
                  go_wp2_with fail
                  refine wp_region_of (Iw W B g x s (opn t) gt y t sg G c) (by kernel_rfl) (Region.lexB_of_fast (by kernel_rfl)) (RK.out.kp _ _ ⟨rfl, rfl, rfl, Nat.le_refl _, fun _ _ => rfl⟩) ?_
                  repeat (go_big_quiet_step (first
                    | (go_at_call 38; exact Calls.of_below Iw.kp (CW.out _ (Of.ok _)))))
                  refine wpQuiet_nil ?_
                  rintro _ ⟨q, rfl⟩
                  have RL := Lib.hid q.ok
                  generalize q.w = w14 at *
                  clear q0 q1 _ne RK CW
                  go_wp2_with fail
                  go_roundw
                  case rel => exact ⟨k + 1, by go_num, HKN.out, RL⟩
                  case measure => have := HKN.out; simp [intOf]; omega
                · obtain rfl : k = N := by omega
                  obtain ⟨sB, hB⟩ := RK.out.fin
                  have RB := Lib.hid hB
                  have lY := RK.out.bt.loadF
                  clear hB RK hk hkN CWT HCN CRM CCK
                  go_wp2_with fail
                  go_roundw
                  case rel => exact ⟨i + 1, k, y, t, by go_num, rfl, HLT.out, HNI.out, HIT, RB⟩
                  case measure => have := HLT.out; simp [intOf]; omega
  · have h40' : (40 : Int) < (m : Int) := by omega
    go_enter Try.func7, Try.ntmps7
    go_wp2_with (go_at_call 10; refine (CL.out _).mono ?_; rintro e w3 ⟨rfl, h⟩; have B3 := Lib.hid h; clear h)
    go_returns
    exact ⟨rfl, B3.out⟩
end Go.Proofs.Ytldeflpaghbmmaa
