/-
  THE LAW SpansAgain, over the contracts.
-/
import Derived.Test.YtjfhkheedcpimaaSpUnions
namespace Go.Proofs.Ytjfhkheedcpimaa
open Go.RowKit Go.Sp

theorem rev_succ (l : List Sp) (k m : Nat) (hm : m < l.length) (h : k + m + 1 = l.length) : l.reverse.take (k + 1) = l.reverse.take k ++ [l[m]] := by
  have hk : k < l.reverse.length := by rw [List.length_reverse]; omega
  rw [List.take_succ_eq_append_getElem hk, List.getElem_reverse]
  have e : l.length - 1 - k = m := by omega
  simp only [e]
theorem len_near {s : Sp} (h : near s) : 0 ≤ len s ∧ len s ≤ 2199023255552 := by
  unfold near at h; unfold len; split <;> omega

set_option maxRecDepth 100000 in
set_option maxHeartbeats 4000000 in
theorem spansAgain_walk1 (D : Does) (l : List Sp) (sa : Option Addr) (c : Nat) (W : World) (h : SpAt W sa l) :
    Calls Try.prog 7 #[.slice sa l.length c] W fun e w' => e = .returned (.bool true) ∧ Below W.heap.size W w' := by
  have LV := Lib.hid (lives_any D)
  have NR := Lib.hid refNear_any
  have HI := Lib.hid (info_parts infoSpan)
  have H0 := Lib.hid h
  clear h
  unfold sv at NR
  by_cases hl : l.length ≤ 12
  case neg =>
    have hl' : (12 : Int) < (l.length : Int) := by omega
    have hl'' : 12 < l.length := by omega
    go_enter Try.func7, Try.ntmps7
    go_wp2_with (go_at_call 9; refine (LV.out _).mono ?_; rintro e w3 ⟨rfl, hb⟩)
    go_returns
    exact ⟨rfl, hb⟩
  have hl' : ¬ (12 : Int) < (l.length : Int) := by omega
  have hl'' : ¬ 12 < l.length := by omega
  go_enter Try.func7, Try.ntmps7
  go_wp2_with fail
  go_loopw [3, 14] (fun v i wr => ∃ k : Nat, k ≤ l.length ∧ i = .int .i64 k ∧ (∀ j (hj : j < l.length), j < k → near l[j]) ∧ wr.ownsRow W.heap.size 23 2 v k (flt (l.reverse.take k)) ∧ Below W.heap.size W wr) (fun _ i _ => l.length - (intOf i).toNat)
  case atStart => exact ⟨0, Nat.zero_le _, rfl, fun j _ hj => absurd hj (Nat.not_lt_zero _), World.ownsRow_nil _ _ _ _, Below.refl _ _⟩
  case round =>
    rename_i wr
    obtain ⟨k, hk, rfl, hno, hown, hbw⟩ := hrel
    have HNO := Lib.hid hno
    have HB := Lib.hid hbw
    have HO := Lib.hid hown
    clear hno hbw
    obtain ⟨vb, cb, rfl⟩ := slice_form hown
    clear hown
    by_cases hlt : k < l.length
    · obtain ⟨m, hm⟩ : ∃ m, k + m + 1 = l.length := ⟨l.length - 1 - k, by omega⟩
      have hml : m < l.length := by omega
      obtain ⟨b, off, rfl, hbl, c1, c2⟩ := (H0.out.below HB.out) k hlt
      obtain ⟨b', off', e, -, d1, d2⟩ := (H0.out.below HB.out) m hml
      cases e
      have i0 : (0 : Int) ≤ (k : Int) := by omega
      have i1 : (k : Int) < (l.length : Int) := by omega
      have m0 : (0 : Int) ≤ (m : Int) := by omega
      have m1 : (m : Int) < (l.length : Int) := by omega
      have m2 : (l.length : Int) - 1 - (k : Int) = (m : Int) := by omega
      have hlt' := Lib.hid hlt
      have HRS := Lib.hid (rev_succ l k m hml hm)
      have D1 := Lib.hid d1
      have D2 := Lib.hid d2
      have HBL := Lib.hid hbl
      clear d1 d2 hbl
      obtain ⟨d, hd⟩ : ∃ d, d = decide (near l[k]) := ⟨_, rfl⟩
      have HNK : Hid (∀ w, Calls Try.prog 8 #[.agg #[.int .i64 l[k].f, .int .i64 l[k].t]] w fun e w' => e = .returned (.bool d) ∧ Below w.heap.size w w') := fun w => by rw [hd]; exact NR.out l[k] w
      by_cases hx : near l[k]
      · obtain rfl : d = true := by rw [hd]; exact decide_eq_true hx
        clear hd
        have HY : Hid (∀ j (hj : j < l.length), j < k + 1 → near l[j]) := fun j hj hjk => by
          by_cases e : j = k
          · subst e; exact hx
          · exact HNO.out j hj (by omega)
        clear hx
        have heq : flt (l.reverse.take (k + 1)) = flt (l.reverse.take k) ++ [.int .i64 l[m].f, .int .i64 l[m].t] := by rw [HRS.out]; exact flt_snoc _ _
        have HEQ := Lib.hid heq
        clear heq
        generalize l[k].f = f at *
        generalize l[k].t = u at *
        generalize l[m].f = f' at *
        generalize l[m].t = u' at *
        clear HRS
        go_wp2_with fail
        refine (HNK.out _).mono ?_
        rintro e w6 ⟨rfl, hb⟩
        have hown := owns_below HO.out hb
        have e1 := (hb.cell (p := ⟨b, off + m * 2, none⟩) HBL.out).trans D1.out
        have e2 := (hb.cell (p := ⟨b, off + m * 2 + 1, none⟩) HBL.out).trans D2.out
        have HB6 := Lib.hid (HB.out.trans (hb.mono HB.out.size))
        clear hb c1 c2
        go_wp2_with (at_builtin; obtain ⟨i0, hi, hz0, hz1, hz2⟩ := HI.out; refine wpList_append_own _ rfl _ _ 31 rfl W.heap.size 23 i0 (.agg #[.int .i64 0, .int .i64 0]) 2 16 Try.underlying31 hi hz0 hz1 hz2 rfl (by decide) _ _ _ rfl (hown.alloc _) ⟨w6.heap.size, 0, none⟩ 1 1 [.int .i64 f', .int .i64 u'] rfl rfl ?c1 ?c2 ?c3 ?c4 ?c5 ?_)
        case c1 =>
          intro j x hj
          match j, hj with
          | 0, hj => simp at hj; subst hj; simp [Addr.add]
          | 1, hj => simp at hj; subst hj; simp [Addr.add]
        case c2 => intro x hx; simp at hx; rcases hx with rfl | rfl <;> rfl
        case c3 => unfold maxLen; omega
        case c4 => omega
        case c5 => have := HB6.out.size; simp; omega
        intro v' w1 hown' hgrow hn'
        clear hi hz0 hz1 hz2
        have R : Hid (w1.ownsRow W.heap.size 23 2 v' (k + 1) (flt (l.reverse.take (k + 1))) ∧ Below W.heap.size W w1) := by
          refine ⟨?_, ?_⟩
          · rw [HEQ.out]
            exact hown'
          · refine Below.grown (HB6.out.alloc HB6.out.size _) hgrow (by simp; have := HB6.out.size; omega) (fun j hj => ?_)
            exact (hown.lt j hj).1
        clear hown' hgrow hown hn' e1 e2
        go_wp2
        go_roundw
        case rel => exact ⟨k + 1, hlt'.out, by go_num, HY.out, R.out.1, R.out.2⟩
        case measure => have := hlt'.out; simp [intOf]; omega
      · obtain rfl : d = false := by rw [hd]; exact decide_eq_false hx
        clear hd hx HRS
        generalize l[k].f = f at *
        generalize l[k].t = u at *
        go_wp2_with (first
          | (go_at_call 8; refine (HNK.out _).mono ?_; rintro e w6 ⟨rfl, hb⟩; have J6 := Lib.hid (HB.out.trans (hb.mono HB.out.size)); clear hb)
          | (go_at_call 9; refine (LV.out _).mono ?_; rintro e w7 ⟨rfl, hb⟩; have B3 := Lib.hid (J6.out.trans (hb.mono J6.out.size)); clear hb))
        go_returns
        exact ⟨rfl, B3.out⟩
    · obtain rfl : k = l.length := by omega
      have hnl : ∀ x ∈ l, near x := fun x hx => by obtain ⟨i, hi, rfl⟩ := List.getElem_of_mem hx; exact HNO.out i hi hi
      have hnr : ∀ x ∈ l.reverse, near x := fun x hx => hnl x (List.mem_reverse.1 hx)
      have hbk := HO.out
      rw [show l.reverse.take l.length = l.reverse from List.take_of_length_le (by simp)] at hbk
      have hrl : l.reverse.length = l.length := List.length_reverse
      have hbs : SpAt wr vb l.reverse := spat_owns (cap := cb) (by rw [hrl]; exact hbk)
      have HBS := Lib.hid hbs
      have HNL := Lib.hid hnl
      have HNR := Lib.hid hnr
      clear hbk hbs hnl hnr HO HNO
      go_wp2_with fail
      refine (D.union_any l sa c wr hl HNL.out (H0.out.below HB.out)).mono ?_
      rintro e w8 ⟨⟨u, v1, c1, rfl, hiu, hul, hun, hus⟩, hb⟩
      have QQ := Lib.hid (⟨(H0.out.below HB.out).below hb, HBS.out.below hb, hus, HB.out.trans (hb.mono HB.out.size)⟩ : (SpAt w8 sa l ∧ SpAt w8 vb l.reverse ∧ SpAt w8 v1 u ∧ Below W.heap.size W w8))
      have HIU := Lib.hid hiu
      have HUN := Lib.hid hun
      have HUL := Lib.hid hul
      have HL := Lib.hid hl
      have HRL := Lib.hid hrl
      have QS : Hid (∀ w w' : World, (SpAt w sa l ∧ SpAt w vb l.reverse ∧ SpAt w v1 u ∧ Below W.heap.size W w) → Below w.heap.size w w' → (SpAt w' sa l ∧ SpAt w' vb l.reverse ∧ SpAt w' v1 u ∧ Below W.heap.size W w')) := fun w w' h hb => ⟨h.1.below hb, h.2.1.below hb, h.2.2.1.below hb, h.2.2.2.trans (hb.mono h.2.2.2.size)⟩
      clear hiu hun hul hus hb HB HBS hk
      have hu12 : u.length ≤ 12 := by have := HUL.out; omega
      have HR := Lib.hid D.length_any
      unfold sv at HR
      go_wp2_with fail
      go_loopw [6, 40] (fun z i wr => ∃ k : Nat, ∃ n : Int, k ≤ u.length ∧ i = .int .i64 k ∧ z = .int .i64 n ∧ n = sum (u.take k) ∧ 0 ≤ n ∧ n ≤ 2199023255552 * k ∧ (SpAt wr sa l ∧ SpAt wr vb l.reverse ∧ SpAt wr v1 u ∧ Below W.heap.size W wr)) (fun _ i _ => u.length - (intOf i).toNat)
      case atStart => exact ⟨0, 0, Nat.zero_le _, rfl, rfl, rfl, by omega, by omega, QQ.out⟩
      case round =>
        obtain ⟨k, n, hk, rfl, rfl, hn, hn0, hn1, I⟩ := hrel
        have J := Lib.hid I
        have HK := Lib.hid hn
        clear I hn QQ
        by_cases hlt : k < u.length
        · obtain ⟨b, off, rfl, -, c1, c2⟩ := J.out.2.2.1 k hlt
          have i0 : (0 : Int) ≤ (k : Int) := by omega
          have i1 : (k : Int) < (u.length : Int) := by omega
          have hlt' := Lib.hid hlt
          have fk := HUN.out u[k] (List.getElem_mem hlt)
          have lk := len_near fk
          have HRK := Lib.hid (fun w => HR.out u[k] w fk)
          have HS := Lib.hid (sum_succ u k hlt)
          generalize u[k].f = f at *
          generalize u[k].t = t at *
          generalize len u[k] = x at *
          clear fk
          have hw : IntKind.i64.wrap (n + x) = n + x := IntWalk.i64_in _ (by omega)
          go_wp2_with (go_at_call 12; refine (HRK.out _).mono ?_; rintro e w9 ⟨rfl, hb⟩; have J6 := Lib.hid (QS.out _ _ J.out hb); clear hb)
          go_roundw
          case rel => exact ⟨k + 1, n + x, hlt'.out, by go_num, rfl, by rw [HS.out, ← HK.out], by omega, by omega, J6.out⟩
          case measure => have := hlt'.out; simp [intOf]; omega
        · obtain rfl : k = u.length := by omega
          have hsu : n = sum u := by have := HK.out; rwa [List.take_length] at this
          have HSU := Lib.hid hsu
          clear hsu HK HR
          go_wp2_with fail
          refine (D.union_any u v1 c1 _ hu12 HUN.out J.out.2.2.1).mono ?_
          rintro e w10 ⟨⟨u2, v2, c2, rfl, hiu2, -, -, hus2⟩, hb⟩
          obtain rfl : u2 = u := HIU.out.again hiu2
          have J1 := Lib.hid (QS.out _ _ J.out hb)
          have T2 := Lib.hid hus2
          clear hb hiu2 hus2 J
          go_wp2_with fail
          refine (refSame_any u2 v2 v1 c2 c1 w10 (by omega) T2.out J1.out.2.2.1).mono ?_
          rintro e w11 ⟨rfl, hb⟩
          have J2 := Lib.hid (QS.out _ _ J1.out hb)
          clear hb J1 T2
          go_wp2_with fail
          have hur := D.union_any l.reverse vb cb w11 (by have := HRL.out; omega) HNR.out J2.out.2.1
          rw [HRL.out] at hur
          refine hur.mono ?_
          clear hur
          rintro e w12 ⟨⟨u3, v3, c3, rfl, hiu3, -, -, hus3⟩, hb⟩
          obtain rfl : u3 = u2 := HIU.out.perm (List.reverse_perm l) hiu3
          have J3 := Lib.hid (QS.out _ _ J2.out hb)
          have T3 := Lib.hid hus3
          clear hb hiu3 hus3 J2
          go_wp2_with fail
          refine (refSame_any u3 v3 v1 c3 c1 w12 (by omega) T3.out J3.out.2.2.1).mono ?_
          rintro e w13 ⟨rfl, hb⟩
          have J4 := Lib.hid (QS.out _ _ J3.out hb)
          clear hb J3 T3
          go_wp2_with fail
          refine (D.total_any l u3 sa c w13 HL.out HNL.out J4.out.1 HIU.out).mono ?_
          rintro e w14 ⟨rfl, hb⟩
          have J5 := Lib.hid (QS.out _ _ J4.out hb)
          rw [← HSU.out]
          clear hb J4
          go_wp2_with (go_at_call 9; refine (LV.out _).mono ?_; rintro e w15 ⟨rfl, hb⟩; have B3 := Lib.hid (QS.out _ _ J5.out hb).2.2.2; clear hb)
          go_returns
          exact ⟨rfl, B3.out⟩
end Go.Proofs.Ytjfhkheedcpimaa
