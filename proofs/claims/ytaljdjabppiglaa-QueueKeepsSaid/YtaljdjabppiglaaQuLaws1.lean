/-
  THE LAWS QueueExpires, QueueChecks over the walks.
-/
import Derived.Test.YtaljdjabppiglaaQuLives
namespace Go.Proofs.Ytaljdjabppiglaa
open Go.RowKit Go.Qu Go.Wr Go.Ad
attribute [local go_sem ↓ high] Ix_.loadF Ix_.storeF Ix_.v_cells Ix_.v_match
attribute [local go_sem] Ix_.C0 Ix_.C1 Ix_.C2 Ix_.C3 Ix_.C4 Ix_.C5 Ix_.C6 Ix_.loadF_new Ix_.storeF_zero Oper.semAt_some fold_c Ix_.Csize

/-- Two lists, each behind a slice. -/
structure T2 (w : World) (s : Option Addr) (c : Nat) (l : List It) (s' : Option Addr) (c' : Nat) (m : List It) (wi : World) : Prop where
  a : It_.Sl wi s l c
  b : It_.Sl wi s' m c'
  bel : Below w.heap.size w wi
theorem T2.keep {w wi wj : World} {s s' : Option Addr} {c c' : Nat} {l m : List It} (h : T2 w s c l s' c' m wi) (hb : Below wi.heap.size wi wj) : T2 w s c l s' c' m wj := ⟨h.a.below hb, h.b.below hb, h.bel.trans (hb.mono h.bel.size)⟩
theorem filter_le {l : List It} (P : It → Bool) (h : l.length ≤ 1000) : (l.filter P).length ≤ 1000 := Nat.le_trans (List.length_filter_le _ _) h
theorem wf_of {l : List It} (h : ∀ x ∈ l, (Lit.int .i64 x.id).wf = true ∧ (Lit.int .i64 x.cat).wf = true ∧ (Lit.int .u64 x.to).wf = true ∧ (Lit.int .u64 x.fr).wf = true ∧ (Lit.int .i64 x.bo).wf = true ∧ (Lit.int .i64 x.li).wf = true) : ∀ p ∈ l, Wf p := by
  intro p hp
  obtain ⟨-, -, h1, h2, h3, h4⟩ := h p hp
  simp [Lit.wf, IntKind.min, IntKind.max, IntKind.signed, IntKind.bits] at h1 h2 h3 h4
  exact ⟨by omega, by omega, by omega, by omega, by omega, by omega, by omega, by omega⟩
theorem i64_b {n : Int} (h : (Lit.int .i64 n).wf = true) : -9223372036854775808 ≤ n ∧ n ≤ 9223372036854775807 := by
  simp [Lit.wf, IntKind.min, IntKind.max, IntKind.signed, IntKind.bits] at h
  omega

set_option maxRecDepth 100000 in
set_option maxHeartbeats 4000000 in
theorem queueExpires_walk0 (l : List It) (sa : Option Addr) (c : Nat) {W : World} (hS : It_.Sl W sa l c) (_ : l.length ≤ maxLen) (hwf : ∀ x ∈ l, (Lit.int .i64 x.id).wf = true ∧ (Lit.int .i64 x.cat).wf = true ∧ (Lit.int .u64 x.to).wf = true ∧ (Lit.int .u64 x.fr).wf = true ∧ (Lit.int .i64 x.bo).wf = true ∧ (Lit.int .i64 x.li).wf = true) (now : Int) (hn : (Lit.int .i64 now).wf = true) :
    Calls Try.prog 6 #[.slice sa l.length c, .int .i64 now] W fun e w' => e = .returned (.bool true) ∧ Below W.heap.size W w' := by
  have CL := Lib.hid lives23_any
  have CSM := Lib.hid (fun w (h : It_.Sl w sa l c) => r23_small_any sa l c 80 w h (by decide))
  have HS := Lib.hid hS
  by_cases hs : sm l 80 = true
  · rw [hs] at CSM
    have hl : l.length ≤ 1000 := by have := sm_len hs; omega
    have hd := wf_of hwf
    obtain ⟨n0, n1⟩ := i64_b hn
    have CE : Hid (∀ w, Below W.heap.size W w → Calls Try.prog 10 #[.slice sa l.length c, .int .i64 now] w fun e w' => ∃ s c1 s' c1', e = .returned (.tuple #[.slice s (l.filter (neg (exps now))).length c1, .slice s' (l.filter (exps now)).length c1']) ∧ It_.Sl w' s (l.filter (neg (exps now))) c1 ∧ It_.Sl w' s' (l.filter (exps now)) c1' ∧ Below w.heap.size w w') := fun w hw =>
      (qu_expire_any sa l c now w hd n0 n1 (hS.below hw) hl).mono (by
        rintro e w' ⟨v, u, rfl, hT⟩
        obtain ⟨s, c1, s', c1', rfl, rfl, h1, h2⟩ := hT.sl
        exact ⟨s, c1, s', c1', rfl, h1, h2, hT.bel⟩)
    have CR : Hid (∀ w, Below W.heap.size W w → Calls Try.prog 26 #[.slice sa l.length c, .int .i64 now] w fun e w' => ∃ s c1 s' c1', e = .returned (.tuple #[.slice s (l.filter (neg (exps now))).length c1, .slice s' (l.filter (exps now)).length c1']) ∧ It_.Sl w' s (l.filter (neg (exps now))) c1 ∧ It_.Sl w' s' (l.filter (exps now)) c1' ∧ Below w.heap.size w w') := fun w hw =>
      (r23_expire_any sa l c now w hd n0 n1 (hS.below hw) hl).mono (by
        rintro e w' ⟨v, u, rfl, hT⟩
        obtain ⟨s, c1, s', c1', rfl, rfl, h1, h2⟩ := hT.sl
        exact ⟨s, c1, s', c1', rfl, h1, h2, hT.bel⟩)
    have hA := filter_le (neg (exps now)) hl
    have hB := filter_le (exps now) hl
    have CS1 := Lib.hid (fun w s s' d d' h h' => r23_same_any (l.filter (neg (exps now))) s s' d d' w h h' hA)
    have CS2 := Lib.hid (fun w s s' d d' h h' => r23_same_any (l.filter (exps now)) s s' d d' w h h' hB)
    generalize l.filter (neg (exps now)) = LA at *
    generalize l.filter (exps now) = LB at *
    clear hS hwf hd hl hA hB n0 n1 hn hs
    go_enter Try.func6, Try.ntmps6
    go_wp2_with (first
      | (go_at_call 15; refine (CSM.out _ HS.out).mono ?_; rintro e w' ⟨rfl, rfl⟩)
      | (go_at_call 10; refine (CE.out W (Below.refl _ _)).mono ?_; rintro e w1 ⟨s1, c1, s2, c2, rfl, h1, h2, hb⟩; have TA := Lib.hid (T2.mk h1 h2 hb); clear h1 h2 hb)
      | (go_at_call 26; refine (CR.out w1 TA.out.bel).mono ?_; rintro e w2 ⟨s3, c3, s4, c4, rfl, h1, h2, hb⟩; replace TA := Lib.hid (TA.out.keep hb); have TB := Lib.hid (T2.mk h1 h2 TA.out.bel); clear h1 h2 hb)
      | (go_at_call 18; with_reducible refine (CS1.out w2 s1 s3 c1 c3 TA.out.a TB.out.a).mono ?_; rintro e w3 ⟨rfl, hb⟩; replace TA := Lib.hid (TA.out.keep hb); replace TB := Lib.hid (TB.out.keep hb); clear hb)
      | (go_at_call 18; with_reducible refine (CS2.out w3 s2 s4 c2 c4 TA.out.b TB.out.b).mono ?_; rintro e w4 ⟨rfl, hb⟩; replace TA := Lib.hid (TA.out.keep hb); clear hb)
      | (go_at_call 7; refine (CL.out w4).mono ?_; rintro e w5 ⟨rfl, hb⟩; replace TA := Lib.hid (TA.out.keep hb); clear hb))
    go_returns
    exact ⟨rfl, TA.out.bel⟩
  · rw [show sm l 80 = false by simpa using hs] at CSM
    clear hS hwf hn hs
    go_enter Try.func6, Try.ntmps6
    go_wp2_with (first
      | (go_at_call 15; refine (CSM.out _ HS.out).mono ?_; rintro e w' ⟨rfl, rfl⟩)
      | (go_at_call 7; refine (CL.out W).mono ?_; rintro e w5 ⟨rfl, hb⟩; have B5 := Lib.hid hb; clear hb))
    go_returns
    exact ⟨rfl, B5.out⟩

set_option maxRecDepth 100000 in
set_option maxHeartbeats 4000000 in
theorem queueChecks_walk0 (l : List It) (sa : Option Addr) (c : Nat) {W : World} (hS : It_.Sl W sa l c) (_ : l.length ≤ maxLen) (hwf : ∀ x ∈ l, (Lit.int .i64 x.id).wf = true ∧ (Lit.int .i64 x.cat).wf = true ∧ (Lit.int .u64 x.to).wf = true ∧ (Lit.int .u64 x.fr).wf = true ∧ (Lit.int .i64 x.bo).wf = true ∧ (Lit.int .i64 x.li).wf = true) (x : It) (hx : (Lit.int .i64 x.id).wf = true ∧ (Lit.int .i64 x.cat).wf = true ∧ (Lit.int .u64 x.to).wf = true ∧ (Lit.int .u64 x.fr).wf = true ∧ (Lit.int .i64 x.bo).wf = true ∧ (Lit.int .i64 x.li).wf = true) (m : Int) (_ : (Lit.int .i64 m).wf = true) :
    Calls Try.prog 4 #[.slice sa l.length c, It_.v x, .int .i64 m] W fun e w' => e = .returned (.bool true) ∧ Below W.heap.size W w' := by
  have hxw : Wf x := wf_of (l := [x]) (fun p hp => by rw [List.mem_singleton.1 hp]; exact hx) x (List.mem_singleton_self _)
  show Calls Try.prog 4 #[.slice sa l.length c, Ix_.v x, .int .i64 m] W _
  obtain ⟨w0, hw0⟩ : ∃ w0, W.alloc (.cells (Ix_.C x) 28) = w0 := ⟨_, rfl⟩
  have HP := Lib.hid (show Ps W x w0 from ⟨hw0 ▸ Ix_.Box.new W x, hw0 ▸ (Below.refl _ _).alloc (Nat.le_refl _) _⟩)
  have l0 := HP.out.bx.loadF
  have e0 := HP.out.bx.all
  have CL := Lib.hid lives23_any
  have CSM := Lib.hid (fun w (h : It_.Sl w sa l c) => r23_small_any sa l c 80 w h (by decide))
  have HS := Lib.hid (fun w (h : Below W.heap.size W w) => hS.below h)
  by_cases hs : sm l 80 = true
  · rw [hs] at CSM
    by_cases hda : 1500 < x.da.size
    · have hda' : (1500 : Int) < (x.da.size : Int) := by omega
      clear hS hwf hx hxw hs hda
      go_enter Try.func4, Try.ntmps4
      go_wp2_with (first
        | (go_at_call 15; refine (CSM.out _ (HS.out _ HP.out.bel)).mono ?_; rintro e w' ⟨rfl, rfl⟩)
        | (go_at_call 7; refine (CL.out _).mono ?_; rintro e w5 ⟨rfl, hb⟩; replace HP := Lib.hid (HP.out.keep hb); clear hb))
      go_returns
      exact ⟨rfl, HP.out.bel⟩
    · have hda' : ¬ (1500 : Int) < (x.da.size : Int) := by omega
      have hl : l.length ≤ 1000 := by have := sm_len hs; omega
      have hl80 : l.length ≤ 80 := by have := sm_len hs; omega
      have hd := wf_of hwf
      have CP : Hid (∀ w, Below W.heap.size W w → Calls Try.prog 8 #[.slice sa l.length c, Ix_.v x, .int .i64 m] w fun e w' => ∃ s c1, e = .returned (.tuple #[.slice s (psh l x m).1.length c1, .int .i64 (psh l x m).2]) ∧ It_.Sl w' s (psh l x m).1 c1 ∧ Below w.heap.size w w') := fun w hw =>
        (qu_push_any sa l c x m w hxw (hS.below hw) hl).mono (by
          rintro e w' ⟨v, rfl, hO⟩
          obtain ⟨s, c1, rfl, h1⟩ := hO.sl
          exact ⟨s, c1, rfl, h1, hO.2⟩)
      have CR : Hid (∀ w, Below W.heap.size W w → Calls Try.prog 16 #[.slice sa l.length c, Ix_.v x, .int .i64 m] w fun e w' => ∃ s c1, e = .returned (.tuple #[.slice s (psh l x m).1.length c1, .int .i64 (psh l x m).2]) ∧ It_.Sl w' s (psh l x m).1 c1 ∧ Below w.heap.size w w') := fun w hw =>
        (r23_push_any sa l c x m w hxw (hS.below hw) hl).mono (by
          rintro e w' ⟨v, rfl, hO⟩
          obtain ⟨s, c1, rfl, h1⟩ := hO.sl
          exact ⟨s, c1, rfl, h1, hO.2⟩)
      have CK := Lib.hid (fun w (h : Below W.heap.size W w) => qu_check_any sa l c w hd (hS.below h) hl)
      have CKr := Lib.hid (fun w (h : Below W.heap.size W w) => r23_check_any sa l c w hd (hS.below h) hl)
      have hpl : (psh l x m).1.length ≤ 1000 := by
        unfold psh
        split
        · split
          · exact Nat.zero_le _
          · rw [List.length_append, List.length_singleton]; omega
        · exact Nat.zero_le _
      have CS := Lib.hid (fun w s s' d d' h h' => r23_same_any (psh l x m).1 s s' d d' w h h' hpl)
      generalize psh l x m = P at *
      generalize chk l = K at *
      clear hS hwf hx hxw hs hda hd hl hl80 hpl
      go_enter Try.func4, Try.ntmps4
      go_wp2_with (first
        | (go_at_call 15; refine (CSM.out _ (HS.out _ HP.out.bel)).mono ?_; rintro e w' ⟨rfl, rfl⟩)
        | (go_at_call 8; refine (CP.out w0 HP.out.bel).mono ?_; rintro e w1 ⟨s1, c1, rfl, h1, hb⟩; replace HP := Lib.hid (HP.out.keep hb); have l1 := HP.out.bx.loadF; have TA := Lib.hid h1; clear h1 hb)
        | (go_at_call 16; refine (CR.out w1 HP.out.bel).mono ?_; rintro e w2 ⟨s2, c2, rfl, h1, hb⟩; replace HP := Lib.hid (HP.out.keep hb); have TB := Lib.hid (T2.mk (TA.out.below hb) h1 HP.out.bel); clear h1 hb)
        | (go_at_call 12; refine (CK.out w2 TB.out.bel).mono ?_; rintro e w3 ⟨rfl, hb⟩; replace TB := Lib.hid (TB.out.keep hb); clear hb)
        | (go_at_call 17; refine (CKr.out w3 TB.out.bel).mono ?_; rintro e w4 ⟨rfl, hb⟩; replace TB := Lib.hid (TB.out.keep hb); clear hb)
        | (go_at_call 18; with_reducible refine (CS.out w4 s1 s2 c1 c2 TB.out.a TB.out.b).mono ?_; rintro e w5 ⟨rfl, hb⟩; replace TB := Lib.hid (TB.out.keep hb); clear hb)
        | (go_at_call 7; refine (CL.out w5).mono ?_; rintro e w6 ⟨rfl, hb⟩; replace TB := Lib.hid (TB.out.keep hb); clear hb))
      go_returns
      exact ⟨rfl, TB.out.bel⟩
  · rw [show sm l 80 = false by simpa using hs] at CSM
    clear hS hwf hx hxw hs
    go_enter Try.func4, Try.ntmps4
    go_wp2_with (first
      | (go_at_call 15; refine (CSM.out _ (HS.out _ HP.out.bel)).mono ?_; rintro e w' ⟨rfl, rfl⟩)
      | (go_at_call 7; refine (CL.out _).mono ?_; rintro e w5 ⟨rfl, hb⟩; replace HP := Lib.hid (HP.out.keep hb); clear hb))
    go_returns
    exact ⟨rfl, HP.out.bel⟩
end Go.Proofs.Ytaljdjabppiglaa
