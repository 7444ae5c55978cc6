/-
  THE LAWS PhyFits, PhyOrder, PhyBest, over the contracts.
-/
import Derived.Test.YtehmolfnpppfpaaDoorPhProg
namespace Go.Proofs.YtehmolfnpppfpaaDoor
open Go.RowKit Go.Ph

set_option maxRecDepth 100000 in
set_option maxHeartbeats 2000000 in
theorem phyFits_walk1 {I : World → Prop} (D : Does I) (r : Int) (hr : (Lit.int .i64 r).wf = true) (s : Int) (hs : (Lit.int .i64 s).wf = true) (W : World) (hi : I W) :
    Calls Tryd.prog 3 #[.int .i64 r, .int .i64 s] W fun e w' => e = .returned (.bool true) ∧ Below W.heap.size W w' := by
  have K := Lib.hid D.keep
  have S0 := Lib.hid (St.start hi)
  have c1 := Lib.hid (fun w h => D.fits_any r s w h hr hs)
  have c9 := Lib.hid (lives_any D)
  by_cases hv : rt r ∧ 2 ≤ s
  case neg =>
    rw [fit_no hv] at c1
    have hv' : r < 0 ∨ 8 ≤ r ∨ s < 2 := by unfold rt at hv; omega
    clear hi hr hs hv
    by_cases h0 : r < 0
    · go_enter Tryd.func3, Tryd.ntmps3
      go_wp2_with (first
        | (go_at_call 8; refine (c1.out _ S0.out.inv).mono ?_; rintro e w1 ⟨rfl, hb⟩; have S1 := Lib.hid (S0.out.step K.out hb); clear hb S0)
        | (go_at_call 9; refine (c9.out _ S1.out.inv).mono ?_; rintro e w8 ⟨rfl, hb⟩; have S8 := Lib.hid (S1.out.step K.out hb); clear hb S1))
      go_returns
      exact ⟨rfl, S8.out.bel⟩
    · by_cases h8 : 8 ≤ r
      · go_enter Tryd.func3, Tryd.ntmps3
        go_wp2_with (first
          | (go_at_call 8; refine (c1.out _ S0.out.inv).mono ?_; rintro e w1 ⟨rfl, hb⟩; have S1 := Lib.hid (S0.out.step K.out hb); clear hb S0)
          | (go_at_call 9; refine (c9.out _ S1.out.inv).mono ?_; rintro e w8 ⟨rfl, hb⟩; have S8 := Lib.hid (S1.out.step K.out hb); clear hb S1))
        go_returns
        exact ⟨rfl, S8.out.bel⟩
      · have h2 : s < 2 := by omega
        go_enter Tryd.func3, Tryd.ntmps3
        go_wp2_with (first
          | (go_at_call 8; refine (c1.out _ S0.out.inv).mono ?_; rintro e w1 ⟨rfl, hb⟩; have S1 := Lib.hid (S0.out.step K.out hb); clear hb S0)
          | (go_at_call 9; refine (c9.out _ S1.out.inv).mono ?_; rintro e w8 ⟨rfl, hb⟩; have S8 := Lib.hid (S1.out.step K.out hb); clear hb S1))
        go_returns
        exact ⟨rfl, S8.out.bel⟩
  obtain ⟨hv, h2⟩ := hv
  obtain ⟨ho, hd, hx⟩ := fit_ok hv h2
  have hr0 : ¬ r < 0 := by have := hv.1; omega
  have hr8 : ¬ 8 ≤ r := by have := hv.2; omega
  have h2' : ¬ s < 2 := by omega
  have hwf : (Lit.int .i64 (fit r s)).wf = true := wf_i64 ⟨by have := ho.1; omega, by have := ho.2; omega⟩
  have c2 := Lib.hid (fun w h => D.slots_any r (fit r s) w h hr hwf)
  rw [(slo_ok hv ho).1, (slo_ok hv ho).2] at c2
  have hfb : 0 ≤ fit r s ∧ fit r s ≤ 8192 := ho
  rcases hx with hx | ⟨hx, ho1, hd1⟩
  · generalize dur (bt r) (fit r s) = d at *
    generalize fit r s = f at *
    clear hi hr hs hv h2 hwf ho
    subst hx
    go_enter Tryd.func3, Tryd.ntmps3
    go_wp2_with (first
      | (go_at_call 8; refine (c1.out _ S0.out.inv).mono ?_; rintro e w1 ⟨rfl, hb⟩; have S1 := Lib.hid (S0.out.step K.out hb); clear hb S0)
      | (go_at_call 10; refine (c2.out _ S1.out.inv).mono ?_; rintro e w2 ⟨rfl, hb⟩; have S2 := Lib.hid (S1.out.step K.out hb); clear hb S1)
      | (go_at_call 9; refine (c9.out _ S2.out.inv).mono ?_; rintro e w8 ⟨rfl, hb⟩; have S8 := Lib.hid (S2.out.step K.out hb); clear hb S2))
    go_returns
    exact ⟨rfl, S8.out.bel⟩
  · have hwf1 : (Lit.int .i64 (fit r s + 1)).wf = true := wf_i64 ⟨by have := ho.1; omega, by have := ho1.2; omega⟩
    have c3 := Lib.hid (fun w h => D.slots_any r (fit r s + 1) w h hr hwf1)
    rw [(slo_ok hv ho1).1, (slo_ok hv ho1).2] at c3
    generalize dur (bt r) (fit r s + 1) = d1 at *
    generalize dur (bt r) (fit r s) = d at *
    generalize fit r s = f at *
    clear hi hr hs hv h2 hwf ho ho1 hwf1
    go_enter Tryd.func3, Tryd.ntmps3
    go_wp2_with (first
      | (go_at_call 8; refine (c1.out _ S0.out.inv).mono ?_; rintro e w1 ⟨rfl, hb⟩; have S1 := Lib.hid (S0.out.step K.out hb); clear hb S0)
      | (go_at_call 10; with_reducible refine (c2.out _ S1.out.inv).mono ?_; rintro e w2 ⟨rfl, hb⟩; have S2 := Lib.hid (S1.out.step K.out hb); clear hb S1)
      | (go_at_call 10; with_reducible refine (c3.out _ S2.out.inv).mono ?_; rintro e w2 ⟨rfl, hb⟩; have S3 := Lib.hid (S2.out.step K.out hb); clear hb S2)
      | (go_at_call 9; refine (c9.out _ S3.out.inv).mono ?_; rintro e w8 ⟨rfl, hb⟩; have S8 := Lib.hid (S3.out.step K.out hb); clear hb S3))
    go_returns
    exact ⟨rfl, S8.out.bel⟩

set_option maxRecDepth 100000 in
set_option maxHeartbeats 2000000 in
theorem phyBest_walk1 {I : World → Prop} (D : Does I) (l : Int) (hl : (Lit.int .i64 l).wf = true) (W : World) (hi : I W) :
    Calls Tryd.prog 7 #[.int .i64 l] W fun e w' => e = .returned (.bool true) ∧ Below W.heap.size W w' := by
  have K := Lib.hid D.keep
  have S0 := Lib.hid (St.start hi)
  have c1 := Lib.hid (fun w h => D.best_any l w h hl)
  have c9 := Lib.hid (lives_any D)
  have hb := bst_bounds l
  have c2 := Lib.hid (fun w h => D.need_any (bst l) w h (wf_i64 ⟨by omega, by omega⟩))
  have c3 := Lib.hid (fun w h => D.need_any (bst l + 1) w h (wf_i64 ⟨by omega, by omega⟩))
  have hn := fun h => (bst_need (l := l) h).2
  have hx := fun h => (bst_next (l := l) h).2
  generalize nd (bst l + 1) = m at *
  generalize nd (bst l) = n at *
  generalize bst l = b at *
  obtain ⟨hb0, hb7⟩ := hb
  clear hi hl
  by_cases h0 : 0 ≤ b
  · have hn' := hn h0
    by_cases h7 : b = 7
    · subst h7
      clear hn hx
      go_enter Tryd.func7, Tryd.ntmps7
      go_wp2_with (first
        | (go_at_call 17; refine (c1.out _ S0.out.inv).mono ?_; rintro e w1 ⟨rfl, hb⟩; have S1 := Lib.hid (S0.out.step K.out hb); clear hb S0)
        | (go_at_call 13; with_reducible refine (c2.out _ S1.out.inv).mono ?_; rintro e w2 ⟨rfl, hb⟩; have S2 := Lib.hid (S1.out.step K.out hb); clear hb S1)
        | (go_at_call 9; refine (c9.out _ S2.out.inv).mono ?_; rintro e w8 ⟨rfl, hb⟩; have S8 := Lib.hid (S2.out.step K.out hb); clear hb S2))
      go_returns
      exact ⟨rfl, S8.out.bel⟩
    · have hx' := hx h7
      clear hn hx
      go_enter Tryd.func7, Tryd.ntmps7
      go_wp2_with (first
        | (go_at_call 17; refine (c1.out _ S0.out.inv).mono ?_; rintro e w1 ⟨rfl, hb⟩; have S1 := Lib.hid (S0.out.step K.out hb); clear hb S0)
        | (go_at_call 13; with_reducible refine (c2.out _ S1.out.inv).mono ?_; rintro e w2 ⟨rfl, hb⟩; have S2 := Lib.hid (S1.out.step K.out hb); clear hb S1)
        | (go_at_call 13; with_reducible refine (c3.out _ S2.out.inv).mono ?_; rintro e w3 ⟨rfl, hb⟩; have S3 := Lib.hid (S2.out.step K.out hb); clear hb S2)
        | (go_at_call 9; refine (c9.out _ S3.out.inv).mono ?_; rintro e w8 ⟨rfl, hb⟩; have S8 := Lib.hid (S3.out.step K.out hb); clear hb S3))
      go_returns
      exact ⟨rfl, S8.out.bel⟩
  · obtain rfl : b = -1 := by omega
    have hx' := hx (by decide)
    clear hn hx
    rw [show (-1 : Int) + 1 = 0 from rfl] at c3
    go_enter Tryd.func7, Tryd.ntmps7
    go_wp2_with (first
      | (go_at_call 17; refine (c1.out _ S0.out.inv).mono ?_; rintro e w1 ⟨rfl, hb⟩; have S1 := Lib.hid (S0.out.step K.out hb); clear hb S0)
      | (go_at_call 13; with_reducible refine (c3.out _ S1.out.inv).mono ?_; rintro e w3 ⟨rfl, hb⟩; have S3 := Lib.hid (S1.out.step K.out hb); clear hb S1)
      | (go_at_call 9; refine (c9.out _ S3.out.inv).mono ?_; rintro e w8 ⟨rfl, hb⟩; have S8 := Lib.hid (S3.out.step K.out hb); clear hb S3))
    go_returns
    exact ⟨rfl, S8.out.bel⟩

set_option maxRecDepth 100000 in
set_option maxHeartbeats 4000000 in
theorem phyOrder_walk1 {I : World → Prop} (D : Does I) (r : Int) (hr : (Lit.int .i64 r).wf = true) (m : Int) (hm : (Lit.int .i64 m).wf = true) (n : Int) (hn : (Lit.int .i64 n).wf = true) (o : Int) (ho : (Lit.int .i64 o).wf = true) (W : World) (hi : I W) :
    Calls Tryd.prog 6 #[.int .i64 r, .int .i64 m, .int .i64 n, .int .i64 o] W fun e w' => e = .returned (.bool true) ∧ Below W.heap.size W w' := by
  have K := Lib.hid D.keep
  have S0 := Lib.hid (St.start hi)
  have c1 := Lib.hid (fun w h => D.slots_any r n w h hr hn)
  have c2 := Lib.hid (fun w h => D.slots_any m n w h hm hn)
  have c3 := Lib.hid (fun w h => D.slots_any r o w h hr ho)
  have c9 := Lib.hid (lives_any D)
  -- what the last test says
  have last : ∀ E G : Int, ∀ a c : Int, (sle r n = E ∧ slo r n = a) → (sle r o = G ∧ slo r o = c) → (¬ E = 0 ∨ ¬ G = 0 ∨ o < n ∨ a ≤ c) := by
    rintro E G a c ⟨rfl, rfl⟩ ⟨rfl, rfl⟩
    by_cases h1 : rt r ∧ oct n
    · by_cases h2 : rt r ∧ oct o
      · rw [(slo_ok h1.1 h1.2).1, (slo_ok h2.1 h2.2).1]
        by_cases h3 : o < n
        · exact .inr (.inr (.inl h3))
        · exact .inr (.inr (.inr (dur_longer h1.1 (by omega))))
      · rw [(slo_no h2).2]; exact .inr (.inl (by decide))
    · rw [(slo_no h1).2]; exact .inl (by decide)
  have first : (¬ sle r n = 0 ∨ ¬ sle m n = 0 ∨ ¬ r ≤ m) ∨ (sle r n = 0 ∧ sle m n = 0 ∧ r ≤ m ∧ slo m n ≤ slo r n ∧ nd r ≤ nd m ∧ bt r ≤ bt m ∧ bas r ≤ bas m) := by
    by_cases h1 : rt r ∧ oct n
    · by_cases h2 : rt m ∧ oct n
      · by_cases h3 : r ≤ m
        · obtain ⟨q1, q2, q3, q4⟩ := more h1.1 h2.1 h3 h1.2
          rw [(slo_ok h1.1 h1.2).1, (slo_ok h1.1 h1.2).2, (slo_ok h2.1 h2.2).1, (slo_ok h2.1 h2.2).2]
          exact .inr ⟨rfl, rfl, h3, q1, q2, q3, q4⟩
        · exact .inl (.inr (.inr h3))
      · rw [(slo_no h2).2]; exact .inl (.inr (.inl (by decide)))
    · rw [(slo_no h1).2]; exact .inl (.inl (by decide))
  have d1 := Lib.hid (fun w h => D.need_any m w h hm)
  have d2 := Lib.hid (fun w h => D.need_any r w h hr)
  have d3 := Lib.hid (fun w h => D.bits_any m w h hm)
  have d4 := Lib.hid (fun w h => D.bits_any r w h hr)
  have d5 := Lib.hid (fun w h => D.basic_any m w h hm)
  have d6 := Lib.hid (fun w h => D.basic_any r w h hr)
  generalize hE : sle r n = E at *
  generalize hF : sle m n = F at *
  generalize hG : sle r o = G at *
  generalize ha : slo r n = a at *
  generalize hb : slo m n = b at *
  generalize hc : slo r o = c at *
  have last' := last _ _ _ _ ⟨rfl, rfl⟩ ⟨rfl, rfl⟩
  clear last hE hF hG ha hb hc hi hr hm hn ho
  generalize nd r = nr at *
  generalize nd m = nm at *
  generalize bt r = br at *
  generalize bt m = bm at *
  generalize bas r = sr at *
  generalize bas m = sm at *
  have LL : (¬ E = 0) ∨ (E = 0 ∧ ¬ G = 0) ∨ (E = 0 ∧ G = 0 ∧ o < n) ∨ (E = 0 ∧ G = 0 ∧ ¬ o < n ∧ a ≤ c) := by omega
  clear last'
  rcases first with first | ⟨f1, f2, f3, f4, f5, f6, f7⟩
  · rcases first with f | f | f
    all_goals (rcases LL with g | ⟨g1, g2⟩ | ⟨g1, g2, g3⟩ | ⟨g1, g2, g3, g4⟩)
    all_goals first
      | (exfalso; omega)
      | (
        go_enter Tryd.func6, Tryd.ntmps6
        go_wp2_with (first
          | (go_at_call 10; with_reducible refine (c1.out _ S0.out.inv).mono ?_; rintro e w1 ⟨rfl, hb⟩; have S1 := Lib.hid (S0.out.step K.out hb); clear hb S0)
          | (go_at_call 10; with_reducible refine (c2.out _ S1.out.inv).mono ?_; rintro e w2 ⟨rfl, hb⟩; have S2 := Lib.hid (S1.out.step K.out hb); clear hb S1)
          | (go_at_call 10; with_reducible refine (c3.out _ S2.out.inv).mono ?_; rintro e w3 ⟨rfl, hb⟩; have S3 := Lib.hid (S2.out.step K.out hb); clear hb S2)
          | (go_at_call 9; refine (c9.out _ S3.out.inv).mono ?_; rintro e w8 ⟨rfl, hb⟩; have S8 := Lib.hid (S3.out.step K.out hb); clear hb S3))
        all_goals
          go_returns
          exact ⟨rfl, S8.out.bel⟩)
  · subst f1 f2
    rcases LL with g | ⟨g1, g2⟩ | ⟨g1, g2, g3⟩ | ⟨g1, g2, g3, g4⟩
    · exact absurd rfl g
    all_goals
      go_enter Tryd.func6, Tryd.ntmps6
      go_wp2_with (first
        | (go_at_call 10; with_reducible refine (c1.out _ S0.out.inv).mono ?_; rintro e w1 ⟨rfl, hb⟩; have S1 := Lib.hid (S0.out.step K.out hb); clear hb S0)
        | (go_at_call 10; with_reducible refine (c2.out _ S1.out.inv).mono ?_; rintro e w2 ⟨rfl, hb⟩; have S2 := Lib.hid (S1.out.step K.out hb); clear hb S1)
        | (go_at_call 10; with_reducible refine (c3.out _ S2.out.inv).mono ?_; rintro e w3 ⟨rfl, hb⟩; have S3 := Lib.hid (S2.out.step K.out hb); clear hb S2)
        | (go_at_call 13; with_reducible refine (d1.out _ S3.out.inv).mono ?_; rintro e w4 ⟨rfl, hb⟩; have S4 := Lib.hid (S3.out.step K.out hb); clear hb S3)
        | (go_at_call 13; with_reducible refine (d2.out _ S4.out.inv).mono ?_; rintro e w5 ⟨rfl, hb⟩; have S5 := Lib.hid (S4.out.step K.out hb); clear hb S4)
        | (go_at_call 11; with_reducible refine (d3.out _ S5.out.inv).mono ?_; rintro e w6 ⟨rfl, hb⟩; have S6 := Lib.hid (S5.out.step K.out hb); clear hb S5)
        | (go_at_call 11; with_reducible refine (d4.out _ S6.out.inv).mono ?_; rintro e w7 ⟨rfl, hb⟩; have S7 := Lib.hid (S6.out.step K.out hb); clear hb S6)
        | (go_at_call 15; with_reducible refine (d5.out _ S7.out.inv).mono ?_; rintro e w8 ⟨rfl, hb⟩; have S8 := Lib.hid (S7.out.step K.out hb); clear hb S7)
        | (go_at_call 15; with_reducible refine (d6.out _ S8.out.inv).mono ?_; rintro e w9 ⟨rfl, hb⟩; have S9 := Lib.hid (S8.out.step K.out hb); clear hb S8)
        | (go_at_call 9; refine (c9.out _ S9.out.inv).mono ?_; rintro e w10 ⟨rfl, hb⟩; have SA := Lib.hid (S9.out.step K.out hb); clear hb S9))
      all_goals
        go_returns
        exact ⟨rfl, SA.out.bel⟩
end Go.Proofs.YtehmolfnpppfpaaDoor
