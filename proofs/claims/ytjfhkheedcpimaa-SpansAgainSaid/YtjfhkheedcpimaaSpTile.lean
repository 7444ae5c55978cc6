/-
  THE LAW SpansTile, over the contracts.
-/
import Derived.Test.YtjfhkheedcpimaaSpOne
import Derived.Test.YtjfhkheedcpimaaSpTidy
import Derived.Test.YtjfhkheedcpimaaSpCount
namespace Go.Proofs.Ytjfhkheedcpimaa
open Go.RowKit Go.Sp

set_option maxRecDepth 100000 in
set_option maxHeartbeats 4000000 in
theorem spansTile_walk1 (D : Does) (s : Sp) (l : List Sp) (sa : Option Addr) (c : Nat) (t : Int) (ht : (Lit.int .i64 t).wf = true) (W : World) (h : SpAt W sa l) :
    Calls Try.prog 6 #[sv s, .slice sa l.length c, .int .i64 t] W fun e w' => e = .returned (.bool true) ∧ Below W.heap.size W w' := by
  have LV := Lib.hid (lives_any D)
  have NA := Lib.hid (refNear_any s)
  have NR := Lib.hid refNear_any
  have RT := Lib.hid (refHas_any s t)
  obtain ⟨A, hA⟩ : ∃ A, A = W.heap.size := ⟨_, rfl⟩
  have HAA := Lib.hid hA
  have H0 := Lib.hid h
  clear h
  unfold sv at NA NR RT
  by_cases hl : l.length ≤ 12
  case neg =>
    have hl' : (12 : Int) < (l.length : Int) := by omega
    have hl'' : 12 < l.length := by omega
    go_enter Try.func6, Try.ntmps6
    unfold sv
    have B0 := Lib.hid ((Below.refl W.heap.size W).alloc (Nat.le_refl _) (.cells #[.int .i64 s.f, .int .i64 s.t] 23))
    go_wp2_with (go_at_call 9; refine (LV.out _).mono ?_; rintro e w3 ⟨rfl, hb⟩; have B3 := Lib.hid (B0.out.trans (hb.mono B0.out.size)); clear hb)
    go_returns
    exact ⟨rfl, B3.out⟩
  have hl' : ¬ (12 : Int) < (l.length : Int) := by omega
  have hl'' : ¬ 12 < l.length := by omega
  go_enter Try.func6, Try.ntmps6
  unfold sv
  go_wp2_with fail
  rw [← hA]
  have I1 := Lib.hid (⟨H0.out.below ((Below.refl _ _).alloc (Nat.le_refl _) _), (Below.refl _ _).alloc (by omega) _, Two.new W s 23 hA⟩ : SpAt (W.alloc (.cells #[.int .i64 s.f, .int .i64 s.t] 23)) sa l ∧ Below A W (W.alloc (.cells #[.int .i64 s.f, .int .i64 s.t] 23)) ∧ Two (W.alloc (.cells #[.int .i64 s.f, .int .i64 s.t] 23)) A s)
  clear hA
  generalize W.alloc (.cells #[.int .i64 s.f, .int .i64 s.t] 23) = w1 at *
  refine (NA.out _).mono ?_
  rintro e w2 ⟨rfl, hb⟩
  have I2 := Lib.hid (⟨I1.out.1.below hb, I1.out.2.1.trans (hb.mono (Nat.le_of_lt I1.out.2.2.2.2)), I1.out.2.2.below hb⟩ : SpAt w2 sa l ∧ Below A W w2 ∧ Two w2 A s)
  clear I1 hb
  have LLL : Hid (∀ w w', Below A W w → Two w A s → Below w.heap.size w w' → Below W.heap.size W w') := fun w w' h1 h2 h3 => HAA.out ▸ h1.trans (h3.mono (Nat.le_of_lt h2.2.2))
  by_cases na : near s
  case neg =>
    rw [decide_eq_false na]
    clear na
    go_wp2_with (go_at_call 9; refine (LV.out _).mono ?_; rintro e w3 ⟨rfl, hb⟩; have B3 := Lib.hid (LLL.out _ _ I2.out.2.1 I2.out.2.2 hb); clear hb)
    go_returns
    exact ⟨rfl, B3.out⟩
  rw [decide_eq_true na]
  go_wp2_with fail
  go_loopw [23] (fun i wr => ∃ k : Nat, k ≤ l.length ∧ i = .int .i64 k ∧ (∀ j (hj : j < l.length), j < k → near l[j]) ∧ (SpAt wr sa l ∧ Below A W wr ∧ Two wr A s)) (fun i _ => l.length - (intOf i).toNat)
  case atStart => exact ⟨0, Nat.zero_le _, rfl, fun j _ hj => absurd hj (Nat.not_lt_zero _), I2.out⟩
  case round =>
    rename_i wr
    clear I2
    obtain ⟨k, hk, rfl, hno, I⟩ := hrel
    have J := Lib.hid I
    have HNO := Lib.hid hno
    clear I hno
    by_cases hlt : k < l.length
    · obtain ⟨b, off, rfl, -, c1, c2⟩ := J.out.1 k hlt
      have i0 : (0 : Int) ≤ (k : Int) := by omega
      have i1 : (k : Int) < (l.length : Int) := by omega
      have hlt' := Lib.hid hlt
      obtain ⟨d, hd⟩ : ∃ d, d = decide (near l[k]) := ⟨_, rfl⟩
      have HNK : Hid (∀ w, Calls Try.prog 8 #[.agg #[.int .i64 l[k].f, .int .i64 l[k].t]] w fun e w' => e = .returned (.bool d) ∧ Below w.heap.size w w') := fun w => by rw [hd]; exact NR.out l[k] w
      by_cases hx : near l[k]
      · obtain rfl : d = true := by rw [hd]; exact decide_eq_true hx
        clear hd
        have HY : Hid (∀ j (hj : j < l.length), j < k + 1 → near l[j]) := fun j hj hjk => by
          by_cases e : j = k
          · subst e; exact hx
          · exact HNO.out j hj (by omega)
        clear hx
        generalize l[k].f = f at *
        generalize l[k].t = u at *
        go_wp2_with (go_at_call 8; refine (HNK.out _).mono ?_; rintro e w6 ⟨rfl, hb⟩; have J6 := Lib.hid (⟨J.out.1.below hb, J.out.2.1.trans (hb.mono (Nat.le_of_lt J.out.2.2.2.2)), J.out.2.2.below hb⟩ : SpAt w6 _ l ∧ Below A W w6 ∧ Two w6 A s); clear hb)
        go_roundw
        case rel => exact ⟨k + 1, hlt'.out, by go_num, HY.out, J6.out⟩
        case measure => have := hlt'.out; simp [intOf]; omega
      · obtain rfl : d = false := by rw [hd]; exact decide_eq_false hx
        clear hd hx
        generalize l[k].f = f at *
        generalize l[k].t = u at *
        go_wp2_with (first
          | (go_at_call 8; refine (HNK.out _).mono ?_; rintro e w6 ⟨rfl, hb⟩; have J6 := Lib.hid (⟨J.out.2.1.trans (hb.mono (Nat.le_of_lt J.out.2.2.2.2)), J.out.2.2.below hb⟩ : Below A W w6 ∧ Two w6 A s); clear hb)
          | (go_at_call 9; refine (LV.out _).mono ?_; rintro e w7 ⟨rfl, hb⟩; have B3 := Lib.hid (LLL.out _ _ J6.out.1 J6.out.2 hb); clear hb))
        go_returns
        exact ⟨rfl, B3.out⟩
    · obtain rfl : k = l.length := by omega
      have hnl : ∀ x ∈ l, near x := fun x hx => by obtain ⟨i, hi, rfl⟩ := List.getElem_of_mem hx; exact HNO.out i hi hi
      go_wp2_with fail
      obtain ⟨p3, p4, ⟨p0, p1, p2⟩⟩ := J.out
      have p3d : SpAt wr.drew sa l := p3
      have p4d := p4.drew
      have HST : Hid (∀ w w' : World, (w.cell? ⟨A, 0, none⟩ = some (.int .i64 s.f) ∧ w.cell? ⟨A, 1, none⟩ = some (.int .i64 s.t) ∧ A < w.heap.size ∧ SpAt w sa l ∧ Below A W w) → Below w.heap.size w w' → (w'.cell? ⟨A, 0, none⟩ = some (.int .i64 s.f) ∧ w'.cell? ⟨A, 1, none⟩ = some (.int .i64 s.t) ∧ A < w'.heap.size ∧ SpAt w' sa l ∧ Below A W w')) := fun w w' h hb =>
        ⟨(hb.cell (p := ⟨A, 0, none⟩) h.2.2.1).trans h.1, (hb.cell (p := ⟨A, 1, none⟩) h.2.2.1).trans h.2.1, Nat.lt_of_lt_of_le h.2.2.1 hb.size, h.2.2.2.1.below hb, h.2.2.2.2.trans (hb.mono (Nat.le_of_lt h.2.2.1))⟩
      have CU : Hid (∀ w : World, (w.cell? ⟨A, 0, none⟩ = some (.int .i64 s.f) ∧ w.cell? ⟨A, 1, none⟩ = some (.int .i64 s.t) ∧ A < w.heap.size ∧ SpAt w sa l ∧ Below A W w) → Calls Try.prog 19 #[.slice sa l.length c] w fun e w' => (∃ u v1 c1, e = .returned (.slice v1 u.length c1) ∧ IsUnion l u ∧ u.length ≤ 12 ∧ SpAt w' v1 u) ∧ Below w.heap.size w w' ∧ (w'.cell? ⟨A, 0, none⟩ = some (.int .i64 s.f) ∧ w'.cell? ⟨A, 1, none⟩ = some (.int .i64 s.t) ∧ A < w'.heap.size ∧ SpAt w' sa l ∧ Below A W w')) := fun w h =>
        (D.union_any l sa c w hl hnl h.2.2.2.1).mono fun e w' ⟨⟨u', v1, c1, he, hi, hlen, _, hs⟩, hb⟩ => ⟨⟨u', v1, c1, he, hi, by omega, hs⟩, hb, HST.out w w' h hb⟩
      have DG := D.gaps_any s l sa c
      unfold sv at DG
      have CG : Hid (∀ w : World, (w.cell? ⟨A, 0, none⟩ = some (.int .i64 s.f) ∧ w.cell? ⟨A, 1, none⟩ = some (.int .i64 s.t) ∧ A < w.heap.size ∧ SpAt w sa l ∧ Below A W w) → Calls Try.prog 21 #[.agg #[.int .i64 s.f, .int .i64 s.t], .slice sa l.length c] w fun e w' => (∃ g v2 c2, e = .returned (.slice v2 g.length c2) ∧ IsGaps s l g ∧ g.length ≤ 13 ∧ SpAt w' v2 g) ∧ Below w.heap.size w w' ∧ (w'.cell? ⟨A, 0, none⟩ = some (.int .i64 s.f) ∧ w'.cell? ⟨A, 1, none⟩ = some (.int .i64 s.t) ∧ A < w'.heap.size ∧ SpAt w' sa l ∧ Below A W w')) := fun w h =>
        (DG w hl na hnl h.2.2.2.1).mono fun e w' ⟨⟨g', v2, c2, he, hi, hlen, hs⟩, hb⟩ => ⟨⟨g', v2, c2, he, hi, by omega, hs⟩, hb, HST.out w w' h hb⟩
      clear DG
      have SB : Hid (∀ (w w' : World) (v : Option Addr) (g : List Sp), Below w.heap.size w w' → SpAt w v g → SpAt w' v g) := fun w w' v g hb h => h.below hb
      have HLN := Lib.hid hl
      clear J HNO hnl hl hl' hl'' na NA NR H0 hk
      go_region_held3 (fun w' => (w'.cell? ⟨A, 0, none⟩ = some (.int .i64 s.f) ∧ w'.cell? ⟨A, 1, none⟩ = some (.int .i64 s.t) ∧ A < w'.heap.size ∧ SpAt w' sa l ∧ Below A W w')) (go_keep)
        (first
        | (go_at_call 19; refine (CU.out _ ?_).mono ?_; (first | assumption | exact ⟨by assumption, by assumption, by assumption, by assumption, by assumption⟩); rintro e w11 ⟨⟨u, v1, c1, rfl, hiu, hul, S1⟩, hbU, a0, a1, a2, a3, a4⟩; (try have S2' := SB.out _ _ _ _ hbU (by exact S2)))
        | (go_at_call 21; refine (CG.out _ ?_).mono ?_; (first | assumption | exact ⟨by assumption, by assumption, by assumption, by assumption, by assumption⟩); rintro e w14 ⟨⟨g, v2, c2, rfl, hig, hgl, S2⟩, hbG, e0, e1, e2, e3, e4⟩; (try have S1' := SB.out _ _ _ _ hbG (by exact S1))))
      have Q0 := Lib.hid (⟨⟨e0, e1, e2, e3, e4⟩, S1', S2⟩ : ((w14.cell? ⟨A, 0, none⟩ = some (.int .i64 s.f) ∧ w14.cell? ⟨A, 1, none⟩ = some (.int .i64 s.t) ∧ A < w14.heap.size ∧ SpAt w14 sa l ∧ Below A W w14) ∧ SpAt w14 v1 u ∧ SpAt w14 v2 g))
      have QS : Hid (∀ w w' : World, ((w.cell? ⟨A, 0, none⟩ = some (.int .i64 s.f) ∧ w.cell? ⟨A, 1, none⟩ = some (.int .i64 s.t) ∧ A < w.heap.size ∧ SpAt w sa l ∧ Below A W w) ∧ SpAt w v1 u ∧ SpAt w v2 g) → Below w.heap.size w w' → ((w'.cell? ⟨A, 0, none⟩ = some (.int .i64 s.f) ∧ w'.cell? ⟨A, 1, none⟩ = some (.int .i64 s.t) ∧ A < w'.heap.size ∧ SpAt w' sa l ∧ Below A W w') ∧ SpAt w' v1 u ∧ SpAt w' v2 g)) := fun w w' h hb => ⟨HST.out w w' h.1 hb, h.2.1.below hb, h.2.2.below hb⟩
      have BE : Hid (∀ w w' : World, ((w.cell? ⟨A, 0, none⟩ = some (.int .i64 s.f) ∧ w.cell? ⟨A, 1, none⟩ = some (.int .i64 s.t) ∧ A < w.heap.size ∧ SpAt w sa l ∧ Below A W w) ∧ SpAt w v1 u ∧ SpAt w v2 g) → Below w.heap.size w w' → Below W.heap.size W w') := fun w w' h hb => HAA.out ▸ (HST.out w w' h.1 hb).2.2.2.2
      have HTL := tile hiu hig t
      have TU := Lib.hid (fun w h => tidy_any u v1 c1 w (by omega) h hiu.1)
      have TG := Lib.hid (fun w h => tidy_any g v2 c2 w (by omega) h hig.1)
      have KU := Lib.hid (fun w h => count_any D u v1 c1 t w ht (by omega) h)
      have KG := Lib.hid (fun w h => count_any D g v2 c2 t w ht (by omega) h)
      have KL := Lib.hid (fun w h => count_any D l sa c t w ht (by have := HLN.out; omega) h)
      have hcl := cnt_pos l t
      generalize cnt u t = cu at *
      generalize cnt g t = cg at *
      generalize cnt l t = cl at *
      obtain ⟨hcu, hcg⟩ := HTL
      obtain ⟨hb0, hhb⟩ : ∃ b, b = decide (has s t) := ⟨_, rfl⟩
      have RTB : Hid (∀ w, Calls Try.prog 15 #[.agg #[.int .i64 s.f, .int .i64 s.t], .int .i64 t] w fun e w' => e = .returned (.bool hb0) ∧ Below w.heap.size w w') := fun w => by rw [hhb]; exact RT.out w
      clear a0 a1 a2 a3 a4 e0 e1 e2 e3 e4 S1 S1' S2 hbU hbG HST CU CG SB RT HLN hiu hig hul hgl
      by_cases hin : InL l t
      · rw [if_pos hin] at hcu
        rw [if_neg (fun h => h.2 hin)] at hcg
        have hcp := hcl.2 hin
        subst hcu hcg
        clear hin hcl hhb
        have hcp' : (0 : Int) < (cl : Int) := by omega
        cases hb0
        all_goals
          go_wp2_with fail
          refine (TU.out _ Q0.out.2.1).mono ?_
          rintro e w21 ⟨rfl, hb⟩
          have Q1 := Lib.hid (QS.out _ _ Q0.out hb)
          clear hb Q0
          go_wp2_with fail
          refine (TG.out _ Q1.out.2.2).mono ?_
          rintro e w22 ⟨rfl, hb⟩
          have Q2 := Lib.hid (QS.out _ _ Q1.out hb)
          clear hb Q1
          go_wp2_with fail
          refine (KU.out _ Q2.out.2.1).mono ?_
          rintro e w23 ⟨rfl, hb⟩
          have Q3 := Lib.hid (QS.out _ _ Q2.out hb)
          clear hb Q2
          go_wp2_with fail
          refine (KG.out _ Q3.out.2.2).mono ?_
          rintro e w24 ⟨rfl, hb⟩
          have Q4 := Lib.hid (QS.out _ _ Q3.out hb)
          clear hb Q3
          go_wp2_with fail
          refine (KL.out _ Q4.out.1.2.2.2.1).mono ?_
          rintro e w25 ⟨rfl, hb⟩
          have Q5 := Lib.hid (QS.out _ _ Q4.out hb)
          have k0 := Q5.out.1.1
          have k1 := Q5.out.1.2.1
          clear hb Q4
          go_wp2_with fail
          refine (RTB.out _).mono ?_
          rintro e w26 ⟨rfl, hb⟩
          have Q6 := Lib.hid (QS.out _ _ Q5.out hb)
          clear hb Q5 k0 k1
          go_wp2_with (go_at_call 9; refine (LV.out _).mono ?_; rintro e w27 ⟨rfl, hb⟩; have B3 := Lib.hid (BE.out _ _ Q6.out hb); clear hb)
          go_returns
          exact ⟨rfl, B3.out⟩
      · rw [if_neg hin] at hcu
        have hcz : cl = 0 := by
          rcases Nat.eq_zero_or_pos cl with h | h
          · exact h
          · exact absurd (hcl.1 h) hin
        subst hcz
        by_cases hs : has s t
        · rw [if_pos ⟨hs, hin⟩] at hcg
          rw [decide_eq_true hs] at hhb
          subst hcu hcg hhb
          clear hin hcl hs
          go_wp2_with fail
          refine (TU.out _ Q0.out.2.1).mono ?_
          rintro e w21 ⟨rfl, hb⟩
          have Q1 := Lib.hid (QS.out _ _ Q0.out hb)
          clear hb Q0
          go_wp2_with fail
          refine (TG.out _ Q1.out.2.2).mono ?_
          rintro e w22 ⟨rfl, hb⟩
          have Q2 := Lib.hid (QS.out _ _ Q1.out hb)
          clear hb Q1
          go_wp2_with fail
          refine (KU.out _ Q2.out.2.1).mono ?_
          rintro e w23 ⟨rfl, hb⟩
          have Q3 := Lib.hid (QS.out _ _ Q2.out hb)
          clear hb Q2
          go_wp2_with fail
          refine (KG.out _ Q3.out.2.2).mono ?_
          rintro e w24 ⟨rfl, hb⟩
          have Q4 := Lib.hid (QS.out _ _ Q3.out hb)
          clear hb Q3
          go_wp2_with fail
          refine (KL.out _ Q4.out.1.2.2.2.1).mono ?_
          rintro e w25 ⟨rfl, hb⟩
          have Q5 := Lib.hid (QS.out _ _ Q4.out hb)
          have k0 := Q5.out.1.1
          have k1 := Q5.out.1.2.1
          clear hb Q4
          go_wp2_with fail
          refine (RTB.out _).mono ?_
          rintro e w26 ⟨rfl, hb⟩
          have Q6 := Lib.hid (QS.out _ _ Q5.out hb)
          clear hb Q5 k0 k1
          go_wp2_with (go_at_call 9; refine (LV.out _).mono ?_; rintro e w27 ⟨rfl, hb⟩; have B3 := Lib.hid (BE.out _ _ Q6.out hb); clear hb)
          go_returns
          exact ⟨rfl, B3.out⟩
        · rw [if_neg (fun h => hs h.1)] at hcg
          rw [decide_eq_false hs] at hhb
          subst hcu hcg hhb
          clear hin hcl hs
          go_wp2_with fail
          refine (TU.out _ Q0.out.2.1).mono ?_
          rintro e w21 ⟨rfl, hb⟩
          have Q1 := Lib.hid (QS.out _ _ Q0.out hb)
          clear hb Q0
          go_wp2_with fail
          refine (TG.out _ Q1.out.2.2).mono ?_
          rintro e w22 ⟨rfl, hb⟩
          have Q2 := Lib.hid (QS.out _ _ Q1.out hb)
          clear hb Q1
          go_wp2_with fail
          refine (KU.out _ Q2.out.2.1).mono ?_
          rintro e w23 ⟨rfl, hb⟩
          have Q3 := Lib.hid (QS.out _ _ Q2.out hb)
          clear hb Q2
          go_wp2_with fail
          refine (KG.out _ Q3.out.2.2).mono ?_
          rintro e w24 ⟨rfl, hb⟩
          have Q4 := Lib.hid (QS.out _ _ Q3.out hb)
          clear hb Q3
          go_wp2_with fail
          refine (KL.out _ Q4.out.1.2.2.2.1).mono ?_
          rintro e w25 ⟨rfl, hb⟩
          have Q5 := Lib.hid (QS.out _ _ Q4.out hb)
          have k0 := Q5.out.1.1
          have k1 := Q5.out.1.2.1
          clear hb Q4
          go_wp2_with fail
          refine (RTB.out _).mono ?_
          rintro e w26 ⟨rfl, hb⟩
          have Q6 := Lib.hid (QS.out _ _ Q5.out hb)
          clear hb Q5 k0 k1
          go_wp2_with (go_at_call 9; refine (LV.out _).mono ?_; rintro e w27 ⟨rfl, hb⟩; have B3 := Lib.hid (BE.out _ _ Q6.out hb); clear hb)
          go_returns
          exact ⟨rfl, B3.out⟩
end Go.Proofs.Ytjfhkheedcpimaa
