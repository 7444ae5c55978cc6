/-
  WALKS of the reference of layer 20: Move, Flush.
-/
import Derived.Test.YteffmfloopkmoaaRoRefC
import Derived.Test.YteffmfloopkmoaaRoFl
namespace Go.Proofs.Yteffmfloopkmoaa
open Go.RowKit Go.Ro Go.Sq Go.Wr
attribute [local go_sem ↓ high] Rw_.loadF Rw_.storeF Rw_.v_cells Rw_.v_match
attribute [local go_sem] Rw_.C0 Rw_.C1 Rw_.C2 Rw_.loadF_new Rw_.storeF_zero Oper.semAt_some

/-- A buffer and what is released, handed back (the reference's, which may hand back what came in). -/
def RPost (p : Bf × List ByteArray) (w : World) (e : Ending) (w' : World) : Prop :=
  ∃ x' sa c, e = .returned (.tuple #[Rw_.v x', .slice sa p.2.length c]) ∧ Lies w' x' p.1 ∧ Ss_.Sl w' sa p.2 c ∧ Below w.heap.size w w'

theorem lies_keep20 {w w' : World} {x : Rw} {b : Bf} (h : Lies w x b) (hs : w.heap.size ≤ w'.heap.size) (hb : ∀ bb off, x.sa = some ⟨bb, off, none⟩ → bb < w.heap.size → w'.heap[bb]? = w.heap[bb]?) : Lies w' x b := by
  refine ⟨h.st, h.sz, h.n, ⟨fun i hi => ?_, h.sl.le, h.sl.nil⟩⟩
  obtain ⟨bb, off, e, hl, h0, h1⟩ := h.sl.lies i hi
  exact ⟨bb, off, e, Nat.lt_of_lt_of_le hl hs, (World.cell?_of_block (w := w) (hb bb off e hl)).trans h0, (World.cell?_of_block (w := w) (hb bb off e hl)).trans h1⟩
theorem inn_t {s z q : Int} (h1 : vl q = true) (h2 : dist s q < z) : inn s z q = true := by unfold inn; rw [h1, decide_eq_true h2]; rfl
theorem inn_f {s z q : Int} (h : vl q = false ∨ ¬ dist s q < z) : inn s z q = false := by
  unfold inn
  rcases h with h | h
  · rw [h]; rfl
  · rw [decide_eq_false h, Bool.and_false]

set_option maxRecDepth 100000 in
set_option maxHeartbeats 4000000 in
theorem r_move_any (x : Rw) (b : Bf) (s : Int) (w : World) (hL : Lies w x b) (hb : Ok b) :
    Calls Try.prog 20 #[Rw_.v x, .int .i64 s] w fun e w' => RPost (Ro.move b s) w e w' := by
  have hl : b.hs.length ≤ 1000 := by have := hb.len; omega
  obtain ⟨w1, hw1⟩ : ∃ w1, w.alloc (.cells (Rw_.C x) 25) = w1 := ⟨_, rfl⟩
  obtain ⟨w2, hw2⟩ : ∃ w2, w1.alloc (.cells (Rw_.C zr) 25) = w2 := ⟨_, rfl⟩
  have hw2' : w1.alloc (.cells #[.int .i64 0, .int .i64 0, .slice none 0 0] 25) = w2 := hw2
  have z1 : w1.heap.size = w.heap.size + 1 := by rw [← hw1]; simp
  have T2 := Lib.hid (Two.new hw1 hw2)
  have l2 := T2.out.bx.loadF
  have e2 := T2.out.bx.all
  have hn := not20
  have hst := hL.st
  have CV := Lib.hid (fun w => refValid_any s w)
  have CD := Lib.hid (fun w => refDistance_any b.st s w)
  have HM1 : Hid (inn b.st 2048 s = true → Ro.move b s = rel b s) := fun h => if_pos h
  have HM2 : Hid (inn b.st 2048 s = false → Ro.move b s = (b, [])) := fun h => if_neg (by rw [h]; decide)
  have HOLD : Hid (∀ w3, Two w x zr w3 → RPost (b, []) w (.returned (.tuple #[Rw_.v x, .slice none 0 0])) (w3.setRow (w.heap.size + 1) (Rw_.C x)) ∧ Rw_.Box (w3.setRow (w.heap.size + 1) (Rw_.C x)) (w.heap.size + 1) x ∧ (Rw_.StoreF ⟨w.heap.size + 1, 0, none⟩ (Rw_.v x)).run Try.prog w3 = .ok () (w3.setRow (w.heap.size + 1) (Rw_.C x))) := fun w3 T =>
    ⟨⟨x, none, 0, rfl, lies_row2 (hL.below T.bel) (fun bb off hp e => by
      obtain ⟨b', o', e', hlt, -⟩ := hL.sl.lies 0 hp
      rw [e] at e'; cases e'; omega), Ss_.Sl.none _, (T.setY x).bel⟩, (T.setY x).rs, T.rs.storeF x⟩
  have HADV : Hid (vl s = true → ∀ W, Below w.heap.size w W → Calls Try.prog 39 #[Rw_.v x, .int .i64 s] W fun e w' => DrnPost (Adv20 W) (adv b s) W e w') := fun _ W hW => r_advance_any x b s W (hL.below hW) hb.asc hl
  have HDR : Hid (vl s = true → ∀ y W, Lies W y (adv b s).1 → Calls Try.prog 37 #[Rw_.v y] W fun e w' => DrnPost (fun x' _ => x'.sa = y.sa ∨ ∀ bb off, x'.sa = some ⟨bb, off, none⟩ → W.heap.size ≤ bb) (drn (adv b s).1) W e w') := fun hv y W hW => r_drain_any y (adv b s).1 W hW ((vl_iff s).1 hv) (by show (b.hs.drop (n0 b s)).length ≤ 1000; rw [List.length_drop]; omega)
  have HREL : Hid (rel b s = ((drn (adv b s).1).1, (adv b s).2 ++ (drn (adv b s).1).2)) := rel_adv b s
  have HLN : Hid ((adv b s).2.length ≤ 1000 ∧ (drn (adv b s).1).2.length ≤ 1000) := by
    refine ⟨?_, ?_⟩
    · show ((b.hs.take (n0 b s)).map (·.d)).length ≤ 1000
      rw [List.length_map, List.length_take]; omega
    · show (((b.hs.drop (n0 b s)).take (dr s (b.hs.drop (n0 b s)))).map (·.d)).length ≤ 1000
      rw [List.length_map, List.length_take, List.length_drop]; omega
  have hD := dist_in b.st s
  clear hL hb hl
  cases hv : vl s
  · rw [HM2.out (inn_f (.inl hv))]
    rw [hv] at CV
    have s9 := (HOLD.out w2 T2.out).2.2
    have E9 := Lib.hid (HOLD.out w2 T2.out)
    go_enter Try.func20, Try.ntmps20
    go_wp2_with (go_at_call 25; refine (CV.out _).mono ?_; rintro e w' ⟨rfl, rfl⟩)
    exact ret_rw2 Try.results20 rfl rfl E9.out.2.1 rfl E9.out.1
  rw [hv] at CV
  by_cases h2 : dist b.st s < 2048
  case neg =>
    rw [HM2.out (inn_f (.inr h2))]
    have h2' : 2048 ≤ dist b.st s := by omega
    have s9 := (HOLD.out w2 T2.out).2.2
    have E9 := Lib.hid (HOLD.out w2 T2.out)
    generalize dist b.st s = D at *
    go_enter Try.func20, Try.ntmps20
    go_wp2_with (first
      | (go_at_call 25; refine (CV.out _).mono ?_; rintro e w' ⟨rfl, rfl⟩)
      | (go_at_call 10; refine (CD.out _).mono ?_; rintro e w' ⟨rfl, rfl⟩))
    exact ret_rw2 Try.results20 rfl rfl E9.out.2.1 rfl E9.out.1
  rw [HM1.out (inn_t hv h2), HREL.out]
  have h2' : ¬ 2048 ≤ dist b.st s := by omega
  have HA2 := Lib.hid (HADV.out hv)
  have HD2 := Lib.hid (HDR.out hv)
  have mixed : Try.prog.follows Departure.mixedOrders = true := by kernel_rfl
  clear HM1 HM2 HOLD HADV HDR HREL hv h2 hD
  generalize dist b.st s = D at *
  obtain ⟨A1, A2, hA⟩ : ∃ A1 A2, adv b s = (A1, A2) := ⟨_, _, rfl⟩
  rw [hA] at HA2 HD2 HLN ⊢
  dsimp only at HA2 HD2 HLN ⊢
  clear hA
  obtain ⟨D1, D2, hD⟩ : ∃ D1 D2, drn A1 = (D1, D2) := ⟨_, _, rfl⟩
  rw [hD] at HD2 HLN ⊢
  dsimp only at HD2 HLN ⊢
  clear hD
  go_enter Try.func20, Try.ntmps20
  go_wp2_with (first
    | (go_at_call 25; refine (CV.out _).mono ?_; rintro e w' ⟨rfl, rfl⟩)
    | (go_at_call 10; refine (CD.out _).mono ?_; rintro e w' ⟨rfl, rfl⟩)
    | fail)
  refine (HA2.out w2 T2.out.bel).mono ?_
  rintro e w3 ⟨x3, sa3, c3, rfl, hl3, ho3, hb3, hp3⟩
  dsimp only at hl3 ho3
  have T3 := Lib.hid (T2.out.below hb3)
  obtain ⟨w4, hw4⟩ : ∃ w4, w3.alloc (.cells (Rw_.C x3) 25) = w4 := ⟨_, rfl⟩
  have hz4 := Rw_.storeF_zero w3 x3
  rw [hw4] at hz4
  have b4 : Below w3.heap.size w3 w4 := hw4 ▸ (Below.refl _ _).alloc (Nat.le_refl _) _
  have X4 := Lib.hid (show Rw_.Box w4 w3.heap.size x3 from hw4 ▸ Rw_.Box.new w3 x3)
  have l4 := X4.out.loadF
  have T4 := Lib.hid (T3.out.below b4)
  have O4 := Lib.hid (owns_below20 ho3 b4)
  have L4 := Lib.hid (hl3.below b4)
  have M4 := Lib.hid hb3.size
  have P4 := Lib.hid b4.size
  clear hl3 ho3 hb3 b4 hw4
  go_wp2_with fail
  refine (HD2.out x3 w4 L4.out).mono ?_
  rintro e w5 ⟨x5, sa5, c5, rfl, hl5, ho5, hb5, hp5⟩
  dsimp only at hl5 ho5
  obtain ⟨w6, hw6⟩ : ∃ w6, w5.alloc (.cells (Rw_.C x5) 25) = w6 := ⟨_, rfl⟩
  have hz6 := Rw_.storeF_zero w5 x5
  rw [hw6] at hz6
  have b6 : Below w5.heap.size w5 w6 := hw6 ▸ (Below.refl _ _).alloc (Nat.le_refl _) _
  have X6 := Lib.hid (show Rw_.Box w6 w5.heap.size x5 from hw6 ▸ Rw_.Box.new w5 x5)
  have hb56 := hb5.trans (b6.mono hb5.size)
  have T6 := Lib.hid (T4.out.below hb56)
  have O6 := Lib.hid (owns_below20 O4.out hb56)
  have S6 := Lib.hid ((Ss_.sl_owns ho5).below b6)
  have L6 := Lib.hid (hl5.below b6)
  have Z6 := Lib.hid (And.intro hb5.size b6.size)
  have HAP : Hid (∀ bb off, x5.sa = some ⟨bb, off, none⟩ → (Value.slice sa3 A2.length c3).ownBlock ≠ some bb) := fun bb off e e2 => by
    rcases hp5 with h | h
    · rw [h] at e
      obtain ⟨o2, e3⟩ : ∃ o2, sa3 = some ⟨bb, o2, none⟩ := by
        obtain ⟨-, ⟨e4, -⟩ | ⟨g, cap, cur, e4, -⟩⟩ := O4.out
        · injection e4 with e4; rw [e4] at e2; cases e2
        · injection e4 with e4; rw [e4] at e2; injection e2 with e2; exact ⟨0, by rw [e4, ← e2]⟩
      exact hp3.1 bb off e bb o2 e3 rfl
    · have h1 := h bb off e
      have h2 := (O4.out.lt bb e2).2
      omega
  have HFA : Hid (∀ bb off, 0 < D1.hs.length → x5.sa = some ⟨bb, off, none⟩ → bb ≠ w.heap.size + 1) := fun bb off hp e => by
    rcases hp5 with h | h
    · rw [h] at e
      have h1 := hp3.2 bb off e
      have := T2.out.size
      omega
    · have h1 := h bb off e
      have := M4.out
      have := P4.out
      have := T2.out.size
      omega
  clear hl5 ho5 hb5 b6 hw6 hb56 hp3 hp5
  have HFN : Hid (∀ (v7 : Option Addr) (c7 : Nat) (w7 : World), w7.ownsRow w2.heap.size 9 1 (.slice v7 (A2.length + D2.length) c7) (A2.length + D2.length) (Ss_.vs (A2 ++ D2)) → Below w2.heap.size w6.drew w7 → (∀ k, (Value.slice sa3 A2.length c3).ownBlock ≠ some k → k < w6.heap.size → w7.heap[k]? = w6.heap[k]?) →
      (Rw_.LoadF ⟨w5.heap.size, 0, none⟩).run Try.prog w7 = .ok (Rw_.v x5) w7 ∧ (Rw_.StoreF ⟨w.heap.size + 1, 0, none⟩ (Rw_.v x5)).run Try.prog w7 = .ok () (w7.setRow (w.heap.size + 1) (Rw_.C x5)) ∧ Rw_.Box (w7.setRow (w.heap.size + 1) (Rw_.C x5)) (w.heap.size + 1) x5 ∧
      RPost (D1, A2 ++ D2) w (.returned (.tuple #[Rw_.v x5, .slice v7 (A2.length + D2.length) c7])) (w7.setRow (w.heap.size + 1) (Rw_.C x5))) := fun v7 c7 w7 h1 h2 h3 => by
    have hz := T2.out.size
    have T7 := T6.out.drew.keep h2 hz
    have hX7 : Rw_.Box w7 w5.heap.size x5 := (h3 w5.heap.size (fun e => by have := (O4.out.lt _ e).2; have := Z6.out.1; omega) X6.out.lt).trans X6.out
    have hL7 : Lies w7 x5 D1 := lies_keep20 L6.out h2.size (fun bb off e hlt => h3 bb (HAP.out bb off e) hlt)
    have hS7 : Ss_.Sl w7 v7 (A2 ++ D2) c7 := Ss_.sl_owns (by rw [List.length_append]; exact h1)
    refine ⟨hX7.loadF, T7.rs.storeF x5, (T7.setY x5).rs, x5, v7, c7, by rw [List.length_append], lies_row2 hL7 (fun bb off hp e => HFA.out bb off hp e), ss_row hS7 (fun bb off e => ?_), (T7.setY x5).bel⟩
    subst e
    have := (h1.lt bb rfl).1
    omega
  have HSP := Lib.hid (And.intro (And.intro HLN.out.1 HLN.out.2) (And.intro T2.out.size (show w2.heap.size ≤ w6.heap.size by have := M4.out; have := P4.out; have := Z6.out; omega)))
  have O6d : Hid (w6.drew.ownsRow w2.heap.size 9 1 (.slice sa3 A2.length c3) A2.length (Ss_.vs A2)) := O6.out
  have S6d : Hid (Ss_.Sl w6.drew sa5 D2 c5) := Lib.hid S6.out.drew
  have l6 := X6.out.loadF
  have l6' : (Rw_.LoadF ⟨w5.heap.size, 0, none⟩).run Try.prog w6.drew = .ok (Rw_.v x5) w6.drew := (show Rw_.Box w6.drew w5.heap.size x5 from X6.out).loadF
  go_wp2
  go_region_law_o (refine step_appSs _ rfl _ _ rfl w2.heap.size _ A2.length A2 (by simp [Act.eval, Act.put]) O6d.out _ D2.length _ D2 (by simp [Act.eval, Act.put]) rfl S6d.out (by have := HSP.out.1; omega) HSP.out.2.2 ?_; intro v7 c7 w7 h1 h2 h3; obtain ⟨l7, s7, X7, F7⟩ := HFN.out v7 c7 w7 h1 h2 h3; have X7 := Lib.hid X7; have F7 := Lib.hid F7; clear h1 h2 h3)
  all_goals
    go_wp2
    exact ret_rw2 Try.results20 rfl rfl X7.out rfl F7.out
end Go.Proofs.Yteffmfloopkmoaa
