/-
  WALKS of the reference of layer 20: advance.
-/
import Derived.Test.YteffmfloopkmoaaRoRefB
namespace Go.Proofs.Yteffmfloopkmoaa
open Go.RowKit Go.Ro Go.Sq Go.Wr
attribute [local go_sem ↓ high] Rw_.loadF Rw_.storeF Rw_.v_cells Rw_.v_match
attribute [local go_sem] Rw_.C0 Rw_.C1 Rw_.C2 Rw_.loadF_new Rw_.storeF_zero Oper.semAt_some

/-- The two rows lie apart. -/
def Sep20 (x' : Rw) (sa : Option Addr) : Prop := ∀ bb off, x'.sa = some ⟨bb, off, none⟩ → ∀ b2 o2, sa = some ⟨b2, o2, none⟩ → b2 ≠ bb
def Adv20 (w : World) (x' : Rw) (sa : Option Addr) : Prop := Sep20 x' sa ∧ ∀ bb off, x'.sa = some ⟨bb, off, none⟩ → w.heap.size ≤ bb
/-- Behind i packets: what came in, the result's cell, the buffer that is made, the two rows. -/
structure Ast (w : World) (b : Bf) (s : Int) (x : Rw) (N i : Nat) (v : Value) (y : Rw) (wi : World) : Prop where
  two : Two w x zr wi
  out : Rw_.Box wi (w.heap.size + 2) y
  yst : y.st = s
  ysz : y.sz = b.sz
  yn : y.n = ((b.hs.take i).drop N).length
  rows : ∃ B2, w.heap.size + 3 ≤ B2 ∧ B2 ≤ wi.heap.size ∧ wi.ownsRow (w.heap.size + 3) 9 1 v (min i N) (Ss_.vs ((b.hs.take (min i N)).map (·.d))) ∧ (∀ g, v.ownBlock = some g → g < B2) ∧
    wi.ownsRow B2 51 2 (.slice y.sa y.n y.c) y.n (Hd_.flat ((b.hs.take i).drop N))
  none : i ≤ N → y.sa = Option.none ∧ y.n = 0 ∧ y.c = 0
theorem Ast.keep {w : World} {b : Bf} {s : Int} {x : Rw} {N i : Nat} {v : Value} {y : Rw} {wi wj : World} (h : Ast w b s x N i v y wi) (hb : Below wi.heap.size wi wj) : Ast w b s x N i v y wj := by
  obtain ⟨B2, h1, h2, h3, h4, h5⟩ := h.rows
  exact ⟨h.two.below hb, h.out.below hb h.out.lt, h.yst, h.ysz, h.yn, ⟨B2, h1, Nat.le_trans h2 hb.size, owns_below20 h3 hb, h4, owns_below20 h5 hb⟩, h.none⟩
theorem Ast.drewN {w : World} {b : Bf} {s : Int} {x : Rw} {N i : Nat} {v : Value} {y : Rw} {wi : World} (h : Ast w b s x N i v y wi) (n : Nat) : Ast w b s x N i v y (wi.drewN n) :=
  h.keep ⟨rfl, rfl, rfl, Nat.le_refl _, fun _ _ => rfl⟩
theorem Ast.drew {w : World} {b : Bf} {s : Int} {x : Rw} {N i : Nat} {v : Value} {y : Rw} {wi : World} (h : Ast w b s x N i v y wi) : Ast w b s x N i v y wi.drew :=
  h.keep ⟨rfl, rfl, rfl, Nat.le_refl _, fun _ _ => rfl⟩

theorem alloc_ge20 {w : World} {B : Nat} (h : B ≤ w.heap.size) (o : Obj) : B ≤ (w.alloc o).heap.size := by
  have : (w.alloc o).heap.size = w.heap.size + 1 := by simp
  omega

set_option maxRecDepth 100000 in
set_option maxHeartbeats 4000000 in
theorem r_advance_any (x : Rw) (b : Bf) (s : Int) (w : World) (hL : Lies w x b) (ha : Asc b.st b.hs) (hl : b.hs.length ≤ 1000) :
    Calls Try.prog 39 #[Rw_.v x, .int .i64 s] w fun e w' => DrnPost (Adv20 w) (adv b s) w e w' := by
  obtain ⟨w1, hw1⟩ : ∃ w1, w.alloc (.cells (Rw_.C x) 25) = w1 := ⟨_, rfl⟩
  obtain ⟨w2, hw2⟩ : ∃ w2, w1.alloc (.cells (Rw_.C zr) 25) = w2 := ⟨_, rfl⟩
  obtain ⟨w3, hw3⟩ : ∃ w3, w2.alloc (.cells (Rw_.C ⟨s, b.sz, none, 0, 0⟩) 25) = w3 := ⟨_, rfl⟩
  have hw2' : w1.alloc (.cells #[.int .i64 0, .int .i64 0, .slice none 0 0] 25) = w2 := hw2
  have z1 : w1.heap.size = w.heap.size + 1 := by rw [← hw1]; simp
  have z2 : w2.heap.size = w.heap.size + 2 := by rw [← hw2]; simp [z1]
  have T2 := Two.new hw1 hw2
  have e2 := T2.bx.all
  have b3 : Below w2.heap.size w2 w3 := hw3 ▸ (Below.refl _ _).alloc (Nat.le_refl _) _
  have st3 : (Rw_.StoreF ⟨w.heap.size + 2, 0, none⟩ (.agg #[.int .i64 s, .int .i64 b.sz, .slice none 0 0])).run Try.prog (w2.alloc (.cells #[.int .i64 0, .int .i64 0, .slice none 0 0] 25)) = .ok () w3 := by
    rw [← hw3, ← z2]; exact Rw_.storeF_new w2 zr ⟨s, b.sz, none, 0, 0⟩
  have hADV : Hid (adv b s = (⟨s, b.sz, b.hs.drop (n0 b s)⟩, (b.hs.take (n0 b s)).map (·.d))) := rfl
  obtain ⟨n, hn⟩ : ∃ n, b.hs.length = n := ⟨_, rfl⟩
  have hxn : x.n = n := hL.n.trans hn
  have hst := hL.st
  have hsz := hL.sz
  have hn1 : n ≤ 1000 := by omega
  have HN := Lib.hid hn
  have HL := Lib.hid hL
  have HNL : Hid (n0 b s ≤ n) := hn ▸ nb_le _ _ _
  have HLT0 : Hid (∀ i (h : i < b.hs.length), i < n0 b s → dist b.st b.hs[i].q < dist b.st s) := fun i h hi => nb_lt _ _ _ i h hi
  have HGE0 : Hid (∀ i (h : i < b.hs.length), n0 b s ≤ i → dist b.st s ≤ dist b.st b.hs[i].q) := fun i h hi => nb_ge _ _ _ ha i h hi
  have CS := Lib.hid (fun w => refDistance_any b.st s w)
  generalize n0 b s = N at *
  have A3 : Hid (Ast w b s x N 0 (.slice none 0 0) ⟨s, b.sz, none, 0, 0⟩ w3) :=
    ⟨T2.below b3, by rw [← hw3, ← z2]; exact Rw_.Box.new w2 _, rfl, rfl, by simp, ⟨w3.heap.size, by rw [← hw3]; simp [z2], Nat.le_refl _, by rw [Nat.zero_min]; exact World.ownsRow_nil _ _ _ _, (fun _ e => nomatch e), by rw [List.take_zero, List.drop_nil]; exact World.ownsRow_nil _ _ _ _⟩, fun _ => ⟨rfl, rfl, rfl⟩⟩
  clear hL hn hl ha T2 b3
  go_enter Try.func39, Try.ntmps39
  go_wp2
  go_loopw [7, 8] (fun v s8 wr => ∃ (i : Nat) (v0 : Option Addr) (c : Nat) (y : Rw), v = .slice v0 (min i N) c ∧ s8 = .int .i64 i ∧ i ≤ n ∧ Hid (Ast w b s x N i v y wr)) (fun _ s8 _ => n - (intOf s8).toNat)
  case atStart => exact ⟨0, none, 0, ⟨s, b.sz, none, 0, 0⟩, by rw [Nat.zero_min], rfl, Nat.zero_le _, A3⟩
  case round =>
    rename World => wr
    obtain ⟨i, v0, c0, y, rfl, rfl, hi, AW⟩ := hrel
    have e1 := AW.out.two.bx.all
    have e6 := AW.out.out.all
    by_cases hlt : i < n
    · have hil : i < b.hs.length := by have := HN.out; omega
      obtain ⟨bb, off, hsa, -, k0, k1⟩ := (HL.out.sl.below AW.out.two.bel).lies i hil
      have HTD : Hid (i < N → (b.hs.take (min (i + 1) N)).map (·.d) = (b.hs.take (min i N)).map (·.d) ++ [b.hs[i].d]) := fun h => by
        rw [Nat.min_eq_left (by omega), Nat.min_eq_left (by omega), List.take_succ_eq_append_getElem hil, List.map_append]; rfl
      have HTH : Hid (N ≤ i → (b.hs.take (i + 1)).drop N = (b.hs.take i).drop N ++ [b.hs[i]]) := fun h => by
        rw [List.take_succ_eq_append_getElem hil, List.drop_append_of_le_length (by rw [List.length_take]; omega)]
      have HD1 := Lib.hid (HLT0.out i hil)
      have HD2 := Lib.hid (HGE0.out i hil)
      generalize b.hs[i] = z at *
      have CZ := Lib.hid (fun w => refDistance_any b.st z.q w)
      generalize dist b.st z.q = D1 at *
      generalize dist b.st s = D2 at *
      have HLT := Lib.hid hlt
      clear hil
      by_cases hgo : i < N
      · have hdd := HD1.out hgo
        have HGO := Lib.hid hgo
        clear hgo
        go_wp2
        go_quiet (first
          | (go_at_call 10; with_reducible exact Calls.quiet_of_same ((CZ.out _).mono fun _ _ q => ⟨q.1, q.2.symm⟩))
          | (go_at_call 10; with_reducible exact Calls.quiet_of_same ((CS.out _).mono fun _ _ q => ⟨q.1, q.2.symm⟩)))
        rename_i nq
        have A4 := Lib.hid (AW.out.drewN nq)
        have HSI := Lib.hid (fun (W : World) => Ss_.sl_lit W [z.d] (show 1 ≤ maxLen by unfold maxLen; decide))
        have HMN := Lib.hid (And.intro (show min i N = i by have := HGO.out; omega) (show min (i + 1) N = i + 1 by have := HGO.out; omega))
        have HLE : Hid (i + 1 ≤ 3000) := by show i + 1 ≤ 3000; omega
        have HY := Lib.hid (AW.out.none (Nat.le_of_lt HGO.out))
        have HF : Hid (∀ (v4 : Option Addr) (c4 : Nat) (w4 : World), w4.ownsRow (w.heap.size + 3) 9 1 (.slice v4 (i + 1) c4) (i + 1) (Ss_.vs ((b.hs.take i).map (·.d) ++ [z.d])) → Below (w.heap.size + 3) (wr.drewN nq) w4 → Ast w b s x N (i + 1) (.slice v4 (i + 1) c4) y w4) := fun v4 c4 w4 h1 h2 => by
          have ht := HTD.out HGO.out
          rw [HMN.out.1, HMN.out.2] at ht
          refine ⟨A4.out.two.keep h2 (by omega), A4.out.out.below h2 (by omega), A4.out.yst, A4.out.ysz, ?_, ⟨w4.heap.size, ?_, Nat.le_refl _, ?_, fun g hg => (h1.lt g hg).2, ?_⟩, fun _ => HY.out⟩
          · rw [HY.out.2.1, List.drop_of_length_le (by rw [List.length_take]; have := HGO.out; omega)]; rfl
          · obtain ⟨B2, q1, q2, -⟩ := A4.out.rows
            have := h2.size; omega
          · rw [HMN.out.2, ht]; exact h1
          · rw [HY.out.1, HY.out.2.1, HY.out.2.2, List.drop_of_length_le (by rw [List.length_take]; have := HGO.out; omega)]; exact World.ownsRow_nil _ _ _ _
        have HOW : Hid ((wr.drewN nq).ownsRow (w.heap.size + 3) 9 1 (.slice v0 i c0) i (Ss_.vs ((b.hs.take i).map (·.d))) ∧ w.heap.size + 3 ≤ (wr.drewN nq).heap.size) := by
          obtain ⟨B2, q1, q2, q3, -⟩ := A4.out.rows
          rw [HMN.out.1] at q3
          exact ⟨q3, Nat.le_trans q1 q2⟩
        have hmn := HMN.out.1
        rw [hmn]
        clear hmn
        go_wp2_with (at_builtin; refine wpList_appSs _ rfl _ _ rfl (w.heap.size + 3) _ i ((b.hs.take i).map (·.d)) rfl (HOW.out.1.alloc _) _ 1 _ [z.d] rfl rfl (HSI.out _) HLE.out (by have := HOW.out.2; simp at this ⊢; omega) ?_; intro v4 c4 w4 h1 h2 _; have F4 := Lib.hid (HF.out v4 c4 w4 h1 (((Below.refl _ _).alloc HOW.out.2 _).trans h2)); clear h1 h2)
        go_roundw
        case rel => exact ⟨i + 1, v4, c4, y, by rw [HMN.out.2], by go_num, hlt, F4⟩
        case measure => simp [intOf]; omega
      · have hdd : ¬ D1 < D2 := by have := HD2.out (by omega); omega
        have HGO := Lib.hid (show N ≤ i by omega)
        have mixed : Try.prog.follows Departure.mixedOrders = true := by kernel_rfl
        clear hgo
        go_wp2
        go_quiet (first
          | (go_at_call 10; with_reducible exact Calls.quiet_of_same ((CZ.out _).mono fun _ _ q => ⟨q.1, q.2.symm⟩))
          | (go_at_call 10; with_reducible exact Calls.quiet_of_same ((CS.out _).mono fun _ _ q => ⟨q.1, q.2.symm⟩)))
        rename_i nq
        have A4 := Lib.hid (AW.out.drewN nq)
        have HLE : Hid (y.n + 1 ≤ 3000) := by
          have h1 := AW.out.yn
          rw [List.length_drop, List.length_take] at h1
          show y.n + 1 ≤ 3000
          omega
        have A5 := Lib.hid (AW.out.drewN (nq + 1))
        obtain ⟨B2, hq1, hq2, hq3, hq4, hq5⟩ := A5.out.rows
        have HR := Lib.hid (And.intro hq1 (And.intro hq2 (And.intro hq3 (And.intro hq4 hq5))))
        have HSI := Lib.hid (Hd_.sl_lit (wr.drewN (nq + 1)) [z] (show 1 ≤ maxLen by unfold maxLen; decide))
        clear hq1 hq2 hq3 hq4 hq5
        go_wp2
        have HF : Hid (∀ (v5 : Option Addr) (c5 : Nat) (w5 : World), w5.ownsRow B2 51 2 (.slice v5 (y.n + 1) c5) (y.n + 1) (Hd_.flat ((b.hs.take i).drop N ++ [z])) → Below B2 (wr.drewN (nq + 1)) w5 →
            Rw_.Box w5 (w.heap.size + 2) y ∧ Ast w b s x N (i + 1) (.slice v0 (min i N) c0) ⟨y.st, y.sz, v5, y.n + 1, c5⟩ (w5.setCell ⟨w.heap.size + 2, 2, none⟩ (.slice v5 (y.n + 1) c5))) := fun v5 c5 w5 h1 h2 => by
          have hb := HR.out.1
          have hX := A5.out.out.below h2 (by omega)
          have ht := HTH.out HGO.out
          have hm : min (i + 1) N = min i N := by have := HGO.out; omega
          have T5 := A5.out.two.keep h2 (by omega)
          have hk : ∀ g, (Value.slice v0 (min i N) c0).ownBlock = some g → w5.heap[g]? = (wr.drewN (nq + 1)).heap[g]? := fun g hg => h2.block g (HR.out.2.2.2.1 g hg)
          refine ⟨hX, ⟨T5.bx.other (by simp) _, T5.rs.other (by simp) _, T5.bel.setCell (by simp) _⟩, hX.set2 v5 (y.n + 1) c5, A5.out.yst, A5.out.ysz, ?_, ⟨B2, hb, ?_, ?_, ?_, ?_⟩, fun h => by have := HGO.out; omega⟩
          · show y.n + 1 = ((b.hs.take (i + 1)).drop N).length
            rw [ht, List.length_append, ← A5.out.yn]; rfl
          · have := h2.size; have := HR.out.2.1; simp; omega
          · rw [hm]
            refine ownsRow_setCell_below ?_ (by show w.heap.size + 2 < w.heap.size + 3; omega) _
            obtain ⟨q0, q1⟩ := HR.out.2.2.1
            refine ⟨q0, q1.imp id ?_⟩
            rintro ⟨g, cap, cur, e1, e2, e3, e4⟩
            exact ⟨g, cap, cur, e1, e2, (hk g (by rw [e1]; rfl)).trans e3, e4⟩
          · exact HR.out.2.2.2.1
          · rw [ht]
            exact ownsRow_setCell_below h1 (by show w.heap.size + 2 < B2; omega) _
        have e7 : ∀ j : Nat, ((wr.drewN (nq + 1)).alloc (.cells #[.int .i64 z.q, .string z.d] 51)).cell? ⟨w.heap.size + 2, j, none⟩ = (Rw_.C y)[j]? := (A5.out.out.allocC _).all
        have HMM := Lib.hid (show min (i + 1) N = min i N by have := HGO.out; omega)
        go_region_law_o (refine step_appHd _ rfl _ _ rfl B2 _ y.n ((b.hs.take i).drop N) (by simp [Act.eval]) (HR.out.2.2.2.2.alloc _) _ 1 _ [z] (by simp [Act.eval]) rfl HSI.out HLE.out (alloc_ge20 HR.out.2.1 _) ?_; intro v5 c5 w5 h1 h2; have F5 := Lib.hid (HF.out v5 c5 w5 h1 (((Below.refl _ _).alloc HR.out.2.1 _).trans h2)); have e9 := F5.out.1.all; have f9 := F5.out.1.frozen 2; clear h1 h2)
        all_goals
          go_wp2
          go_roundw
          case rel => exact ⟨i + 1, v0, c0, _, by rw [HMM.out], by go_num, hlt, Lib.hid F5.out.2⟩
          case measure => simp [intOf]; omega
    · obtain rfl : i = n := by omega
      have HMN := Lib.hid (show min i N = N by have := HNL.out; omega)
      have HEND : Hid (∀ wi, Ast w b s x N i (.slice v0 (min i N) c0) y wi → DrnPost (Adv20 w) (adv b s) w (.returned (.tuple #[Rw_.v y, .slice v0 N c0])) (wi.setRow (w.heap.size + 1) (Rw_.C y)) ∧ Rw_.Box (wi.setRow (w.heap.size + 1) (Rw_.C y)) (w.heap.size + 1) y ∧ (Rw_.StoreF ⟨w.heap.size + 1, 0, none⟩ (Rw_.v y)).run Try.prog wi = .ok () (wi.setRow (w.heap.size + 1) (Rw_.C y))) := fun wi A => by
        obtain ⟨B2, q1, q2, q3, q4, q5⟩ := A.rows
        refine ⟨?_, (A.two.setY y).rs, A.two.rs.storeF y⟩
        rw [hADV.out]
        rw [HMN.out] at q3
        have hlen := vs_owns_len q3
        have hall : b.hs.take i = b.hs := by rw [← HN.out, List.take_length]
        rw [hall] at q5
        have hyn := A.yn
        rw [hall] at hyn
        rw [hyn] at q5
        refine ⟨y, v0, c0, by rw [hlen], lies_row ⟨A.yst, A.ysz, hyn, Hd_.sl_owns q5⟩ (fun bb off e => ?_), ?_, (A.two.setY y).bel, fun bb off e b2 o2 e2 => ?_, fun bb off e => ?_⟩
        · have e1 : (Value.slice y.sa (b.hs.drop N).length y.c).ownBlock = some bb := by rw [e]; rfl
          have := (q5.lt bb e1).1
          omega
        · show (wi.setRow (w.heap.size + 1) (Rw_.C y)).ownsRow w.heap.size 9 1 (.slice v0 ((b.hs.take N).map (·.d)).length c0) ((b.hs.take N).map (·.d)).length (Ss_.vs ((b.hs.take N).map (·.d)))
          rw [hlen]
          obtain ⟨g0, g1⟩ := ownsRow_setRow20 (B := w.heap.size + 1) (c := Rw_.C y) q3 (by omega)
          refine ⟨g0, g1.imp id ?_⟩
          rintro ⟨g, cap, cur, r1, r2, r3⟩
          exact ⟨g, cap, cur, r1, by omega, r3⟩
        · have e1 : (Value.slice y.sa (b.hs.drop N).length y.c).ownBlock = some bb := by rw [e]; rfl
          have h1 := (q5.lt bb e1).1
          have h2 := q4 b2 (by rw [e2]; rfl)
          omega
        · have e1 : (Value.slice y.sa (b.hs.drop N).length y.c).ownBlock = some bb := by rw [e]; rfl
          have h1 := (q5.lt bb e1).1
          omega
      have l9 := AW.out.out.loadF
      have s9 := (HEND.out wr AW.out).2.2
      have E9 := Lib.hid (HEND.out wr AW.out)
      have hmn := HMN.out
      rw [hmn]
      clear hmn
      go_wp2
      exact ret_rw2 Try.results39 rfl rfl E9.out.2.1 rfl E9.out.1
end Go.Proofs.Yteffmfloopkmoaa
