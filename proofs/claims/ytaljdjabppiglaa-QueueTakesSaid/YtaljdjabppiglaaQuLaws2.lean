/-
  THE LAW QueueTakes over the walks.
-/
import Derived.Test.YtaljdjabppiglaaQuLaws1
import Derived.Test.YtaljdjabppiglaaQuRef4
namespace Go.Proofs.Ytaljdjabppiglaa
open Go.RowKit Go.Qu Go.Wr Go.Ad
attribute [local go_sem ↓ high] Ix_.loadF Ix_.storeF Ix_.v_cells Ix_.v_match
attribute [local go_sem] Ix_.C0 Ix_.C1 Ix_.C2 Ix_.C3 Ix_.C4 Ix_.C5 Ix_.C6 Ix_.loadF_new Ix_.storeF_zero Oper.semAt_some fold_c Ix_.Csize

/-- What the law holds: the list, the addresses, items in cells of their own, lists behind slices. -/
structure Tz (W : World) (sa : Option Addr) (l : List It) (c : Nat) (sb : Option Addr) (K : List Int) (cb : Nat) (L : List (Nat × It)) (M : List (Option Addr × List It × Nat)) (w : World) : Prop where
  sl : It_.Sl w sa l c
  sk : Sk W.heap.size sb K cb w
  bx : ∀ p ∈ L, Ix_.Box w p.1 p.2
  ls : ∀ t ∈ M, It_.Sl w t.1 t.2.1 t.2.2
  bel : Below W.heap.size W w
theorem Tz.keep {W : World} {sa : Option Addr} {l : List It} {c : Nat} {sb : Option Addr} {K : List Int} {cb : Nat} {L : List (Nat × It)} {M : List (Option Addr × List It × Nat)} {wi wj : World} (h : Tz W sa l c sb K cb L M wi) (hb : Below wi.heap.size wi wj) : Tz W sa l c sb K cb L M wj :=
  ⟨h.sl.below hb, h.sk.keep hb, fun p hp => (h.bx p hp).below hb (h.bx p hp).lt, fun t ht => (h.ls t ht).below hb, h.bel.trans (hb.mono h.bel.size)⟩
theorem Tz.box {W : World} {sa : Option Addr} {l : List It} {c : Nat} {sb : Option Addr} {K : List Int} {cb : Nat} {L : List (Nat × It)} {M : List (Option Addr × List It × Nat)} {wi wj : World} (h : Tz W sa l c sb K cb L M wi) (x : It) (e : wi.alloc (.cells (Ix_.C x) 28) = wj) : Tz W sa l c sb K cb ((wi.heap.size, x) :: L) M wj := by
  subst e
  have k := h.keep ((Below.refl _ _).alloc (Nat.le_refl _) (.cells (Ix_.C x) 28))
  refine ⟨k.sl, k.sk, fun p hp => ?_, k.ls, k.bel⟩
  rcases List.mem_cons.1 hp with rfl | hp
  · exact Ix_.Box.new wi x
  · exact k.bx p hp
theorem Tz.slice {W : World} {sa : Option Addr} {l : List It} {c : Nat} {sb : Option Addr} {K : List Int} {cb : Nat} {L : List (Nat × It)} {M : List (Option Addr × List It × Nat)} {wi : World} (h : Tz W sa l c sb K cb L M wi) {s : Option Addr} {m : List It} {d : Nat} (hs : It_.Sl wi s m d) : Tz W sa l c sb K cb L ((s, m, d) :: M) wi := by
  refine ⟨h.sl, h.sk, h.bx, fun t ht => ?_, h.bel⟩
  rcases List.mem_cons.1 ht with rfl | ht
  · exact hs
  · exact h.ls t ht
theorem LiesI.sl {w w' : World} {v : Value} {l : List It} (h : LiesI w w' v l) : ∃ sa c, v = .slice sa l.length c ∧ It_.Sl w' sa l c := h.1
theorem popL_len {a : Int} {l : List It} (h : l.length ≤ 1000) : (popL a l).length ≤ 1000 := by
  unfold popL
  split
  · unfold without
    rw [List.length_append, List.length_take, List.length_drop]; omega
  · exact h

set_option maxRecDepth 100000 in
set_option maxHeartbeats 8000000 in
theorem queueTakes_walk0 (l : List It) (sa : Option Addr) (c : Nat) {W : World} (hS : It_.Sl W sa l c) (_ : l.length ≤ maxLen) (_ : ∀ x ∈ l, (Lit.int .i64 x.id).wf = true ∧ (Lit.int .i64 x.cat).wf = true ∧ (Lit.int .u64 x.to).wf = true ∧ (Lit.int .u64 x.fr).wf = true ∧ (Lit.int .i64 x.bo).wf = true ∧ (Lit.int .i64 x.li).wf = true) (a : Int) (_ : (Lit.int .u64 a).wf = true) (K : List Int) (sb : Option Addr) (cb : Nat) (hU : Us_.Sl W sb K cb) (_ : K.length ≤ maxLen) :
    Calls Try.prog 5 #[.slice sa l.length c, .int .u64 a, .slice sb K.length cb] W fun e w' => e = .returned (.bool true) ∧ Below W.heap.size W w' := by
  obtain ⟨w0, hw0⟩ : ∃ w0, W.alloc (.cells #[.slice sb K.length cb] 45) = w0 := ⟨_, rfl⟩
  have b0 : Below W.heap.size W w0 := hw0 ▸ (Below.refl _ _).alloc (Nat.le_refl _) _
  have HT := Lib.hid (show Tz W sa l c sb K cb [] [] w0 from ⟨hS.below b0, ⟨hw0 ▸ Nc.new W _ _, hU.below b0⟩, fun _ h => absurd h List.not_mem_nil, fun _ h => absurd h List.not_mem_nil, b0⟩)
  have k0 := HT.out.sk.nc.c
  have CL := Lib.hid lives23_any
  have CSM := Lib.hid (fun w (h : It_.Sl w sa l c) => r23_small_any sa l c 80 w h (by decide))
  clear hS hU b0
  by_cases hs : sm l 80 = true
  case neg =>
    rw [show sm l 80 = false by simpa using hs] at CSM
    clear hs
    go_enter Try.func5, Try.ntmps5
    go_wp2_with (first
      | (go_at_call 15; refine (CSM.out _ HT.out.sl).mono ?_; rintro e w' ⟨rfl, rfl⟩)
      | (go_at_call 7; refine (CL.out _).mono ?_; rintro e w5 ⟨rfl, hb⟩; replace HT := Lib.hid (HT.out.keep hb); clear hb))
    go_returns
    exact ⟨rfl, HT.out.bel⟩
  rw [hs] at CSM
  by_cases h20 : K.length ≤ 20
  case neg =>
    have h20' : (20 : Int) < (K.length : Int) := by omega
    clear hs h20
    go_enter Try.func5, Try.ntmps5
    go_wp2_with (first
      | (go_at_call 15; refine (CSM.out _ HT.out.sl).mono ?_; rintro e w' ⟨rfl, rfl⟩)
      | (go_at_call 7; refine (CL.out _).mono ?_; rintro e w5 ⟨rfl, hb⟩; replace HT := Lib.hid (HT.out.keep hb); clear hb))
    go_returns
    exact ⟨rfl, HT.out.bel⟩
  have h20' : ¬ (20 : Int) < (K.length : Int) := by omega
  have hl : l.length ≤ 1000 := by have := sm_len hs; omega
  have hK : K.length ≤ 1000 := by omega
  have CP : Hid (∀ w, It_.Sl w sa l c → Calls Try.prog 9 #[.slice sa l.length c, .int .u64 a] w fun e w' => ∃ s d, e = .returned (.tuple #[Ix_.v (popI a l), .slice s (popL a l).length d, .bool (popB a l)]) ∧ It_.Sl w' s (popL a l) d ∧ Below w.heap.size w w') := fun w h =>
    (qu_pop_any sa l c a w h hl).mono (by
      rintro e w' ⟨v, rfl, hO⟩
      obtain ⟨s, d, rfl, h1⟩ := hO.sl
      exact ⟨s, d, rfl, h1, hO.2⟩)
  have CPr : Hid (∀ w, It_.Sl w sa l c → Calls Try.prog 19 #[.slice sa l.length c, .int .u64 a] w fun e w' => ∃ s d, e = .returned (.tuple #[Ix_.v (popI a l), .slice s (popL a l).length d, .bool (popB a l)]) ∧ It_.Sl w' s (popL a l) d ∧ Below w.heap.size w w') := fun w h =>
    (r23_pop_any sa l c a w h hl).mono (by
      rintro e w' ⟨v, rfl, hO⟩
      obtain ⟨s, d, rfl, h1⟩ := hO.sl
      exact ⟨s, d, rfl, h1, hO.2⟩)
  have CH := Lib.hid (fun w (h : It_.Sl w sa l c) (h' : Sk W.heap.size sb K cb w) => qu_head_any (Sk W.heap.size sb K cb) 21 #[.pointer (some ⟨W.heap.size, 0, none⟩)] (skp K) (skipF_tells W.heap.size sb K cb hK) sa l c w (fun _ hW => h'.keep hW) h hl)
  have CHr := Lib.hid (fun w (h : It_.Sl w sa l c) (h' : Us_.Sl w sb K cb) => r23_head_any sa l c sb K cb w h hl h' hK)
  have CN := Lib.hid (fun w (h : It_.Sl w sa l c) => qu_head_nil sa l c w h hl)
  have CNr : Hid (∀ w, It_.Sl w sa l c → Calls Try.prog 22 #[.slice sa l.length c, .slice none 0 0] w fun e w' => e = .returned (.tuple #[Ix_.v (head l (fun _ => false)).1, .bool (head l (fun _ => false)).2]) ∧ Below w.heap.size w w') := fun w h => r23_head_any sa l c none [] 0 w h hl (Us_.Sl.none w) (by decide)
  have CU : Hid (∀ w, It_.Sl w sa l c → Calls Try.prog 11 #[.slice sa l.length c, .int .u64 a] w fun e w' => ∃ s d s' d', e = .returned (.tuple #[.slice s (l.filter (neg (isTo a))).length d, .slice s' (l.filter (isTo a)).length d']) ∧ It_.Sl w' s (l.filter (neg (isTo a))) d ∧ It_.Sl w' s' (l.filter (isTo a)) d' ∧ Below w.heap.size w w') := fun w h =>
    (qu_purge_any sa l c a w h hl).mono (by
      rintro e w' ⟨v, u, rfl, hT⟩
      obtain ⟨s, c1, s', c1', rfl, rfl, h1, h2⟩ := hT.sl
      exact ⟨s, c1, s', c1', rfl, h1, h2, hT.bel⟩)
  have CUr : Hid (∀ w, It_.Sl w sa l c → Calls Try.prog 23 #[.slice sa l.length c, .int .u64 a] w fun e w' => ∃ s d s' d', e = .returned (.tuple #[.slice s (l.filter (neg (isTo a))).length d, .slice s' (l.filter (isTo a)).length d']) ∧ It_.Sl w' s (l.filter (neg (isTo a))) d ∧ It_.Sl w' s' (l.filter (isTo a)) d' ∧ Below w.heap.size w w') := fun w h =>
    (r23_purge_any sa l c a w h hl).mono (by
      rintro e w' ⟨v, u, rfl, hT⟩
      obtain ⟨s, c1, s', c1', rfl, rfl, h1, h2⟩ := hT.sl
      exact ⟨s, c1, s', c1', rfl, h1, h2, hT.bel⟩)
  have CC := Lib.hid (fun w (h : It_.Sl w sa l c) => qu_count_any sa l c a w h hl)
  have CCr := Lib.hid (fun w (h : It_.Sl w sa l c) => r23_count_any sa l c a w h hl)
  have hP := popL_len (a := a) hl
  have hA := filter_le (neg (isTo a)) hl
  have hB := filter_le (isTo a) hl
  have CS1 := Lib.hid (fun w s s' d d' h h' => r23_same_any (popL a l) s s' d d' w h h' hP)
  have CS2 := Lib.hid (fun w s s' d d' h h' => r23_same_any (l.filter (neg (isTo a))) s s' d d' w h h' hA)
  have CS3 := Lib.hid (fun w s s' d d' h h' => r23_same_any (l.filter (isTo a)) s s' d d' w h h' hB)
  generalize popI a l = X1 at *
  generalize popL a l = L1 at *
  generalize popB a l = B1 at *
  generalize head l (fun p => skp K p.to) = H1 at *
  generalize head l (fun _ => false) = H2 at *
  generalize l.filter (neg (isTo a)) = LA at *
  generalize l.filter (isTo a) = LB at *
  have EQ1 := Ix_.eql X1
  have EQ2 := Ix_.eql H1.1
  have EQ3 := Ix_.eql H2.1
  have GU1 := fun op p q => Ix_.guard op p q X1 X1
  have GU2 := fun op p q => Ix_.guard op p q H1.1 H1.1
  have GU3 := fun op p q => Ix_.guard op p q H2.1 H2.1
  have hmf : ∀ (fn : Fn) (first cap : Array Value) (w : World), (Instr.makeFunc fn first cap).run Try.prog w = .ok (.func fn first cap) w := fun _ _ _ _ => rfl
  clear hs h20 hl hK hP hA hB
  go_enter Try.func5, Try.ntmps5
  go_wp2_with (go_at_call 15; refine (CSM.out _ HT.out.sl).mono ?_; rintro e w' ⟨rfl, rfl⟩)
  refine (CP.out w0 HT.out.sl).mono ?_
  rintro e w1 ⟨s1, c1, rfl, h1, hb⟩
  replace HT := Lib.hid (HT.out.keep hb)
  replace HT := Lib.hid (HT.out.slice h1)
  obtain ⟨w2, hw2⟩ : ∃ w2, w1.alloc (.cells (Ix_.C X1) 28) = w2 := ⟨_, rfl⟩
  have hzw2 := Ix_.storeF_zero w1 X1
  rw [hw2] at hzw2
  replace HT := Lib.hid (HT.out.box X1 hw2)
  have nw2 := HT.out.sk.nc.c
  clear hb h1
  go_wp2_with fail
  refine (CPr.out w2 HT.out.sl).mono ?_
  rintro e w3 ⟨s2, c2, rfl, h1, hb⟩
  replace HT := Lib.hid (HT.out.keep hb)
  replace HT := Lib.hid (HT.out.slice h1)
  obtain ⟨w4, hw4⟩ : ∃ w4, w3.alloc (.cells (Ix_.C X1) 28) = w4 := ⟨_, rfl⟩
  have hzw4 := Ix_.storeF_zero w3 X1
  rw [hw4] at hzw4
  replace HT := Lib.hid (HT.out.box X1 hw4)
  have nw4 := HT.out.sk.nc.c
  clear hb h1
  go_wp2_with fail
  refine (CH.out w4 HT.out.sl HT.out.sk).mono ?_
  rintro e w5 ⟨rfl, hb⟩
  replace HT := Lib.hid (HT.out.keep hb)
  obtain ⟨w6, hw6⟩ : ∃ w6, w5.alloc (.cells (Ix_.C H1.1) 28) = w6 := ⟨_, rfl⟩
  have hzw6 := Ix_.storeF_zero w5 H1.1
  rw [hw6] at hzw6
  replace HT := Lib.hid (HT.out.box H1.1 hw6)
  have nw6 := HT.out.sk.nc.c
  clear hb
  go_wp2_with fail
  refine (CHr.out w6 HT.out.sl HT.out.sk.sl).mono ?_
  rintro e w7 ⟨rfl, hb⟩
  replace HT := Lib.hid (HT.out.keep hb)
  obtain ⟨w8, hw8⟩ : ∃ w8, w7.alloc (.cells (Ix_.C H1.1) 28) = w8 := ⟨_, rfl⟩
  have hzw8 := Ix_.storeF_zero w7 H1.1
  rw [hw8] at hzw8
  replace HT := Lib.hid (HT.out.box H1.1 hw8)
  have nw8 := HT.out.sk.nc.c
  clear hb
  go_wp2_with fail
  refine (CN.out w8 HT.out.sl).mono ?_
  rintro e w9 ⟨rfl, hb⟩
  replace HT := Lib.hid (HT.out.keep hb)
  obtain ⟨w10, hw10⟩ : ∃ w10, w9.alloc (.cells (Ix_.C H2.1) 28) = w10 := ⟨_, rfl⟩
  have hzw10 := Ix_.storeF_zero w9 H2.1
  rw [hw10] at hzw10
  replace HT := Lib.hid (HT.out.box H2.1 hw10)
  have nw10 := HT.out.sk.nc.c
  clear hb
  go_wp2_with fail
  refine (CNr.out w10 HT.out.sl).mono ?_
  rintro e w11 ⟨rfl, hb⟩
  replace HT := Lib.hid (HT.out.keep hb)
  obtain ⟨w12, hw12⟩ : ∃ w12, w11.alloc (.cells (Ix_.C H2.1) 28) = w12 := ⟨_, rfl⟩
  have hzw12 := Ix_.storeF_zero w11 H2.1
  rw [hw12] at hzw12
  replace HT := Lib.hid (HT.out.box H2.1 hw12)
  have nw12 := HT.out.sk.nc.c
  clear hb
  go_wp2_with fail
  refine (CU.out w12 HT.out.sl).mono ?_
  rintro e w13 ⟨s3, c3, s4, c4, rfl, h1, h2, hb⟩
  replace HT := Lib.hid (((HT.out.keep hb).slice h1).slice h2)
  clear hb h1 h2
  go_wp2_with fail
  refine (CUr.out w13 HT.out.sl).mono ?_
  rintro e w14 ⟨s5, c5, s6, c6, rfl, h1, h2, hb⟩
  replace HT := Lib.hid (((HT.out.keep hb).slice h1).slice h2)
  clear hb h1 h2
  have lw14_w1 := (HT.out.bx (w1.heap.size, X1) (by simp)).loadF
  have lw14_w3 := (HT.out.bx (w3.heap.size, X1) (by simp)).loadF
  have lw14_w5 := (HT.out.bx (w5.heap.size, H1.1) (by simp)).loadF
  have lw14_w7 := (HT.out.bx (w7.heap.size, H1.1) (by simp)).loadF
  have lw14_w9 := (HT.out.bx (w9.heap.size, H2.1) (by simp)).loadF
  have lw14_w11 := (HT.out.bx (w11.heap.size, H2.1) (by simp)).loadF
  go_wp2_with fail
  refine (CS1.out w14 s1 s2 c1 c2 (HT.out.ls (s1, L1, c1) (by simp)) (HT.out.ls (s2, L1, c2) (by simp))).mono ?_
  rintro e w15 ⟨rfl, hb⟩
  replace HT := Lib.hid (HT.out.keep hb)
  clear hb
  have lw15_w1 := (HT.out.bx (w1.heap.size, X1) (by simp)).loadF
  have lw15_w3 := (HT.out.bx (w3.heap.size, X1) (by simp)).loadF
  have lw15_w5 := (HT.out.bx (w5.heap.size, H1.1) (by simp)).loadF
  have lw15_w7 := (HT.out.bx (w7.heap.size, H1.1) (by simp)).loadF
  have lw15_w9 := (HT.out.bx (w9.heap.size, H2.1) (by simp)).loadF
  have lw15_w11 := (HT.out.bx (w11.heap.size, H2.1) (by simp)).loadF
  go_wp2_with (first
    | (go_at_call 18; with_reducible refine (CS2.out w15 s3 s5 c3 c5 (HT.out.ls (s3, LA, c3) (by simp)) (HT.out.ls (s5, LA, c5) (by simp))).mono ?_; rintro e w16 ⟨rfl, hb⟩; replace HT := Lib.hid (HT.out.keep hb); clear hb)
    | (go_at_call 18; with_reducible refine (CS3.out w16 s4 s6 c4 c6 (HT.out.ls (s4, LB, c4) (by simp)) (HT.out.ls (s6, LB, c6) (by simp))).mono ?_; rintro e w17 ⟨rfl, hb⟩; replace HT := Lib.hid (HT.out.keep hb); clear hb)
    | (go_at_call 24; refine (CC.out w17 HT.out.sl).mono ?_; rintro e w18 ⟨rfl, hb⟩; replace HT := Lib.hid (HT.out.keep hb); clear hb)
    | (go_at_call 25; refine (CCr.out w18 HT.out.sl).mono ?_; rintro e w19 ⟨rfl, hb⟩; replace HT := Lib.hid (HT.out.keep hb); clear hb)
    | (go_at_call 7; refine (CL.out w19).mono ?_; rintro e w20 ⟨rfl, hb⟩; replace HT := Lib.hid (HT.out.keep hb); clear hb))
  go_returns
  exact ⟨rfl, HT.out.bel⟩
end Go.Proofs.Ytaljdjabppiglaa
