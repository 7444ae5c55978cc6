/-
  THE LAW SpansUnions, over the contracts.
-/
import Derived.Test.YtjfhkheedcpimaaSpFit
import Derived.Test.YtjfhkheedcpimaaSpOne
import Derived.Test.YtjfhkheedcpimaaSpGaps
namespace Go.Proofs.Ytjfhkheedcpimaa
open Go.RowKit Go.Sp

theorem union_fits {l u : List Sp} (h : ∀ s ∈ l, fits s) (k : IsUnion l u) : ∀ s ∈ u, fits s := by
  intro s hs
  have hlt := k.1.1 s hs
  have h1 := in_fits h ((k.2 s.f).1 ⟨s, hs, Int.le_refl _, hlt⟩)
  have h2 := in_fits h ((k.2 (s.t - 1)).1 ⟨s, hs, by omega, by omega⟩)
  unfold fits
  omega
theorem fits_near {s : Sp} (h : fits s) : near s := by unfold fits at h; unfold near; omega
theorem sum_succ (l : List Sp) (k : Nat) (hk : k < l.length) : sum (l.take (k + 1)) = sum (l.take k) + len l[k] := by
  unfold sum
  rw [List.take_succ_eq_append_getElem hk, List.map_append, List.foldl_append]
  rfl
theorem len_fits {s : Sp} (h : fits s) : 0 ≤ len s ∧ len s ≤ 400 := by
  unfold fits at h; unfold len; split <;> omega
theorem spat_one {w : World} {g : Nat} {s : Sp} (h : Two w g s) : SpAt w (some ⟨g, 0, none⟩) [s] := by
  intro i hi
  obtain rfl : i = 0 := by simpa using hi
  exact ⟨g, 0, rfl, h.2.2, by simpa using h.1, by simpa using h.2.1⟩

set_option maxRecDepth 100000 in
set_option maxHeartbeats 12000000 in
theorem spansUnions_walk1 (D : Does) (s : Sp) (l : List Sp) (sa : Option Addr) (c : Nat) (W : World) (hl : l.length ≤ 9223372036854775807) (h : SpAt W sa l) :
    Calls Try.prog 4 #[sv s, .slice sa l.length c] W fun e w' => e = .returned (.bool true) ∧ Below W.heap.size W w' := by
  have LV := Lib.hid (lives_any D)
  have F1 := Lib.hid (fun w hw => refFit_any l sa c w hl hw)
  have F2 := Lib.hid (fun sb c w hw => refFit_any [s] sb c w (by simp) hw)
  obtain ⟨A, hA⟩ : ∃ A, A = W.heap.size := ⟨_, rfl⟩
  have HAA := Lib.hid hA
  have H0 := Lib.hid h
  clear h
  go_enter Try.func4, Try.ntmps4
  unfold sv
  go_wp2_with fail
  rw [← hA]
  have I1 := Lib.hid (⟨H0.out.below ((Below.refl _ _).alloc (Nat.le_refl _) _), (Below.refl _ _).alloc (by omega) _, Two.new W s 23 hA⟩ : SpAt (W.alloc (.cells #[.int .i64 s.f, .int .i64 s.t] 23)) sa l ∧ Below A W (W.alloc (.cells #[.int .i64 s.f, .int .i64 s.t] 23)) ∧ Two (W.alloc (.cells #[.int .i64 s.f, .int .i64 s.t] 23)) A s)
  clear hA
  generalize W.alloc (.cells #[.int .i64 s.f, .int .i64 s.t] 23) = w1 at *
  refine (F1.out _ I1.out.1).mono ?_
  rintro e w2 ⟨rfl, hb⟩
  have I2 := Lib.hid (⟨I1.out.1.below hb, I1.out.2.1.trans (hb.mono (Nat.le_of_lt I1.out.2.2.2.2)), I1.out.2.2.below hb⟩ : SpAt w2 sa l ∧ Below A W w2 ∧ Two w2 A s)
  clear I1 hb
  have LLL : Hid (∀ w w', Below A W w → Two w A s → Below w.heap.size w w' → Below W.heap.size W w') := fun w w' h1 h2 h3 => HAA.out ▸ h1.trans (h3.mono (Nat.le_of_lt h2.2.2))
  by_cases na : fitL l = true
  case neg =>
    have na' : fitL l = false := by simpa using na
    rw [na']
    clear na na'
    go_wp2_with (go_at_call 9; refine (LV.out _).mono ?_; rintro e w3 ⟨rfl, hb⟩; have B3 := Lib.hid (LLL.out _ _ I2.out.2.1 I2.out.2.2 hb); clear hb)
    go_returns
    exact ⟨rfl, B3.out⟩
  rw [na]
  have hfl' : (∀ s ∈ l, fits s) ∧ l.length ≤ 12 := of_decide_eq_true na
  have hfl := Lib.hid hfl'
  clear hfl'
  clear na
  obtain ⟨ca, ca', -⟩ := I2.out.2.2
  go_wp2_with fail
  have c2 := Two.new w2 s 23 rfl
  have I3 := Lib.hid (⟨I2.out.1.below ((Below.refl _ _).alloc (Nat.le_refl _) _), I2.out.2.1.alloc (Nat.le_of_lt I2.out.2.2.2.2) _, I2.out.2.2.alloc _, c2⟩ : SpAt (w2.alloc (.cells #[.int .i64 s.f, .int .i64 s.t] 23)) sa l ∧ Below A W (w2.alloc (.cells #[.int .i64 s.f, .int .i64 s.t] 23)) ∧ Two (w2.alloc (.cells #[.int .i64 s.f, .int .i64 s.t] 23)) A s ∧ Two (w2.alloc (.cells #[.int .i64 s.f, .int .i64 s.t] 23)) w2.heap.size s)
  clear c2 I2 ca ca'
  generalize w2.alloc (.cells #[.int .i64 s.f, .int .i64 s.t] 23) = w3 at *
  refine (F2.out _ 1 _ (spat_one I3.out.2.2.2)).mono ?_
  rintro e w4 ⟨rfl, hb⟩
  have I4 := Lib.hid (⟨I3.out.1.below hb, I3.out.2.1.trans (hb.mono (Nat.le_of_lt I3.out.2.2.1.2.2)), I3.out.2.2.1.below hb⟩ : SpAt w4 sa l ∧ Below A W w4 ∧ Two w4 A s)
  clear I3 hb
  by_cases nb : fitL [s] = true
  case neg =>
    have nb' : fitL [s] = false := by simpa using nb
    rw [nb']
    clear nb nb'
    go_wp2_with (go_at_call 9; refine (LV.out _).mono ?_; rintro e w5 ⟨rfl, hb⟩; have B3 := Lib.hid (LLL.out _ _ I4.out.2.1 I4.out.2.2 hb); clear hb)
    go_returns
    exact ⟨rfl, B3.out⟩
  rw [nb]
  have hfs' : (∀ x ∈ [s], fits x) ∧ [s].length ≤ 12 := of_decide_eq_true nb
  have hfs := Lib.hid (hfs'.1 s (by simp))
  clear hfs'
  clear nb F1 F2
  go_wp2_with fail
  refine (refUnion_any l sa c w4 (by have := hfl.out.2; omega) I4.out.1).mono ?_
  rintro e w5 ⟨⟨v0, c0, rfl, hu⟩, hb⟩
  have hiu := union_rs hfl.out.1
  have hul := rs_len (mkU l) 403
  generalize (rs (mkU l) 403).1 = u at *
  have I5 := Lib.hid (⟨I4.out.1.below hb, I4.out.2.1.trans (hb.mono (Nat.le_of_lt I4.out.2.2.2.2)), I4.out.2.2.below hb, hu⟩ : SpAt w5 sa l ∧ Below A W w5 ∧ Two w5 A s ∧ SpAt w5 v0 u)
  have huf := Lib.hid (union_fits hfl.out.1 hiu)
  have HIU := Lib.hid hiu
  have HUL := Lib.hid hul
  clear hb hu hiu I4 hul
  have HR := Lib.hid refLength_any
  unfold sv at HR
  go_wp2_with fail
  go_loopw [6, 22] (fun z i wr => ∃ k : Nat, ∃ n : Int, k ≤ u.length ∧ i = .int .i64 k ∧ z = .int .i64 n ∧ n = sum (u.take k) ∧ 0 ≤ n ∧ n ≤ 400 * k ∧ (SpAt wr sa l ∧ Below A W wr ∧ Two wr A s ∧ SpAt wr v0 u)) (fun _ i _ => u.length - (intOf i).toNat)
  case atStart => exact ⟨0, 0, Nat.zero_le _, rfl, rfl, rfl, by omega, by omega, I5.out⟩
  case round =>
    rename_i wr
    obtain ⟨k, n, hk, rfl, rfl, hn, hn0, hn1, I⟩ := hrel
    have J := Lib.hid I
    have HK := Lib.hid hn
    clear I hn I5
    by_cases hlt : k < u.length
    · obtain ⟨b, off, rfl, -, c1, c2⟩ := J.out.2.2.2 k hlt
      have i0 : (0 : Int) ≤ (k : Int) := by omega
      have i1 : (k : Int) < (u.length : Int) := by omega
      have hlt' := Lib.hid hlt
      have fk := huf.out u[k] (List.getElem_mem hlt)
      have lk := len_fits fk
      have HRK := Lib.hid (fun w => HR.out u[k] w (fits_near fk))
      have HS := Lib.hid (sum_succ u k hlt)
      have hu403 := HUL.out
      generalize u[k].f = f at *
      generalize u[k].t = t at *
      generalize len u[k] = x at *
      clear fk
      have hw : IntKind.i64.wrap (n + x) = n + x := IntWalk.i64_in _ (by omega)
      go_wp2_with (go_at_call 13; refine (HRK.out _).mono ?_; rintro e w6 ⟨rfl, hb⟩; have J6 := Lib.hid (⟨J.out.1.below hb, J.out.2.1.trans (hb.mono (Nat.le_of_lt J.out.2.2.1.2.2)), J.out.2.2.1.below hb, J.out.2.2.2.below hb⟩ : SpAt w6 sa l ∧ Below A W w6 ∧ Two w6 A s ∧ SpAt w6 _ u); clear hb)
      go_roundw
      case rel => exact ⟨k + 1, n + x, hlt'.out, by go_num, rfl, by rw [HS.out, ← HK.out], by omega, by omega, J6.out⟩
      case measure => have := hlt'.out; simp [intOf]; omega
    · obtain rfl : k = u.length := by omega
      have hsu : n = sum u := by have := HK.out; rwa [List.take_length] at this
      go_wp2_with fail
      obtain ⟨p3, p5, ⟨p0, p1, p2⟩, p4⟩ := J.out
      have p3d : SpAt wr.drew sa l := p3
      have p4d : SpAt wr.drew v0 u := p4
      have p5d := p5.drew
      have HST : Hid (∀ w w' : World, (w.cell? ⟨A, 0, none⟩ = some (.int .i64 s.f) ∧ w.cell? ⟨A, 1, none⟩ = some (.int .i64 s.t) ∧ A < w.heap.size ∧ SpAt w sa l ∧ SpAt w v0 u ∧ Below A W w) → Below w.heap.size w w' → (w'.cell? ⟨A, 0, none⟩ = some (.int .i64 s.f) ∧ w'.cell? ⟨A, 1, none⟩ = some (.int .i64 s.t) ∧ A < w'.heap.size ∧ SpAt w' sa l ∧ SpAt w' v0 u ∧ Below A W w')) := fun w w' h hb =>
        ⟨(hb.cell (p := ⟨A, 0, none⟩) h.2.2.1).trans h.1, (hb.cell (p := ⟨A, 1, none⟩) h.2.2.1).trans h.2.1, Nat.lt_of_lt_of_le h.2.2.1 hb.size, h.2.2.2.1.below hb, h.2.2.2.2.1.below hb, h.2.2.2.2.2.trans (hb.mono (Nat.le_of_lt h.2.2.1))⟩
      have near_l : ∀ s ∈ l, near s := fun s hs => fits_near (hfl.out.1 s hs)
      have CU : Hid (∀ w : World, (w.cell? ⟨A, 0, none⟩ = some (.int .i64 s.f) ∧ w.cell? ⟨A, 1, none⟩ = some (.int .i64 s.t) ∧ A < w.heap.size ∧ SpAt w sa l ∧ SpAt w v0 u ∧ Below A W w) → Calls Try.prog 19 #[.slice sa l.length c] w fun e w' => (∃ v1 c1, e = .returned (.slice v1 u.length c1) ∧ SpAt w' v1 u) ∧ (w'.cell? ⟨A, 0, none⟩ = some (.int .i64 s.f) ∧ w'.cell? ⟨A, 1, none⟩ = some (.int .i64 s.t) ∧ A < w'.heap.size ∧ SpAt w' sa l ∧ SpAt w' v0 u ∧ Below A W w')) := fun w h =>
        (D.union_any l sa c w hfl.out.2 near_l h.2.2.2.1).mono fun e w' ⟨⟨u', v1, c1, he, hi, _, _, hs⟩, hb⟩ => by
          obtain rfl := hi.unique HIU.out
          exact ⟨⟨v1, c1, he, hs⟩, HST.out w w' h hb⟩
      have CS : Hid (∀ (w : World) (v1 : Option Addr) (c1 : Nat), (w.cell? ⟨A, 0, none⟩ = some (.int .i64 s.f) ∧ w.cell? ⟨A, 1, none⟩ = some (.int .i64 s.t) ∧ A < w.heap.size ∧ SpAt w sa l ∧ SpAt w v0 u ∧ Below A W w) → SpAt w v1 u → Calls Try.prog 18 #[.slice v1 u.length c1, .slice v0 u.length c0] w fun e w' => e = .returned (.bool true) ∧ (w'.cell? ⟨A, 0, none⟩ = some (.int .i64 s.f) ∧ w'.cell? ⟨A, 1, none⟩ = some (.int .i64 s.t) ∧ A < w'.heap.size ∧ SpAt w' sa l ∧ SpAt w' v0 u ∧ Below A W w')) := fun w v1 c1 h h1 =>
        (refSame_any u v1 v0 c1 c0 w (by have := HUL.out; omega) h1 h.2.2.2.2.1).mono fun e w' h' => ⟨h'.1, HST.out w w' h h'.2⟩
      have CT : Hid (∀ w : World, (w.cell? ⟨A, 0, none⟩ = some (.int .i64 s.f) ∧ w.cell? ⟨A, 1, none⟩ = some (.int .i64 s.t) ∧ A < w.heap.size ∧ SpAt w sa l ∧ SpAt w v0 u ∧ Below A W w) → Calls Try.prog 20 #[.slice sa l.length c] w fun e w' => e = .returned (.int .i64 n) ∧ (w'.cell? ⟨A, 0, none⟩ = some (.int .i64 s.f) ∧ w'.cell? ⟨A, 1, none⟩ = some (.int .i64 s.t) ∧ A < w'.heap.size ∧ SpAt w' sa l ∧ SpAt w' v0 u ∧ Below A W w')) := fun w h =>
        (D.total_any l u sa c w hfl.out.2 near_l h.2.2.2.1 HIU.out).mono fun e w' h' => ⟨by rw [h'.1, hsu], HST.out w w' h h'.2⟩
      have hig := gaps_rs (l := l) hfs.out
      have hgl := rs_len (mkG s l) 403
      have CR0 := Lib.hid (fun w h => refGaps_any s l sa c w (by have := hfl.out.2; omega) h)
      generalize (rs (mkG s l) 403).1 = g at *
      have HIG := Lib.hid hig
      clear hig
      unfold sv at CR0
      have CR : Hid (∀ w : World, (w.cell? ⟨A, 0, none⟩ = some (.int .i64 s.f) ∧ w.cell? ⟨A, 1, none⟩ = some (.int .i64 s.t) ∧ A < w.heap.size ∧ SpAt w sa l ∧ SpAt w v0 u ∧ Below A W w) → Calls Try.prog 22 #[.agg #[.int .i64 s.f, .int .i64 s.t], .slice sa l.length c] w fun e w' => (∃ v3 c3, e = .returned (.slice v3 g.length c3) ∧ SpAt w' v3 g) ∧ Below w.heap.size w w' ∧ (w'.cell? ⟨A, 0, none⟩ = some (.int .i64 s.f) ∧ w'.cell? ⟨A, 1, none⟩ = some (.int .i64 s.t) ∧ A < w'.heap.size ∧ SpAt w' sa l ∧ SpAt w' v0 u ∧ Below A W w')) := fun w h =>
        (CR0.out w h.2.2.2.1).mono fun e w' h' => ⟨h'.1, h'.2, HST.out w w' h h'.2⟩
      have DG := D.gaps_any s l sa c
      unfold sv at DG
      have CG : Hid (∀ w : World, (w.cell? ⟨A, 0, none⟩ = some (.int .i64 s.f) ∧ w.cell? ⟨A, 1, none⟩ = some (.int .i64 s.t) ∧ A < w.heap.size ∧ SpAt w sa l ∧ SpAt w v0 u ∧ Below A W w) → Calls Try.prog 21 #[.agg #[.int .i64 s.f, .int .i64 s.t], .slice sa l.length c] w fun e w' => (∃ v2 c2, e = .returned (.slice v2 g.length c2) ∧ SpAt w' v2 g) ∧ Below w.heap.size w w' ∧ (w'.cell? ⟨A, 0, none⟩ = some (.int .i64 s.f) ∧ w'.cell? ⟨A, 1, none⟩ = some (.int .i64 s.t) ∧ A < w'.heap.size ∧ SpAt w' sa l ∧ SpAt w' v0 u ∧ Below A W w')) := fun w h =>
        (DG w hfl.out.2 (fits_near hfs.out) near_l h.2.2.2.1).mono fun e w' ⟨⟨g', v2, c2, he, hi, _, hs⟩, hb⟩ => by
          obtain rfl := hi.unique HIG.out
          exact ⟨⟨v2, c2, he, hs⟩, hb, HST.out w w' h hb⟩
      clear DG
      have CS2 : Hid (∀ (w : World) (v2 v3 : Option Addr) (c2 c3 : Nat), (w.cell? ⟨A, 0, none⟩ = some (.int .i64 s.f) ∧ w.cell? ⟨A, 1, none⟩ = some (.int .i64 s.t) ∧ A < w.heap.size ∧ SpAt w sa l ∧ SpAt w v0 u ∧ Below A W w) → SpAt w v2 g → SpAt w v3 g → Calls Try.prog 18 #[.slice v2 g.length c2, .slice v3 g.length c3] w fun e w' => e = .returned (.bool true) ∧ (w'.cell? ⟨A, 0, none⟩ = some (.int .i64 s.f) ∧ w'.cell? ⟨A, 1, none⟩ = some (.int .i64 s.t) ∧ A < w'.heap.size ∧ SpAt w' sa l ∧ SpAt w' v0 u ∧ Below A W w')) := fun w v2 v3 c2 c3 h h1 h2 =>
        (refSame_any g v2 v3 c2 c3 w (by omega) h1 h2).mono fun e w' h' => ⟨h'.1, HST.out w w' h h'.2⟩
      have CL : Hid (∀ w : World, (w.cell? ⟨A, 0, none⟩ = some (.int .i64 s.f) ∧ w.cell? ⟨A, 1, none⟩ = some (.int .i64 s.t) ∧ A < w.heap.size ∧ SpAt w sa l ∧ SpAt w v0 u ∧ Below A W w) → Calls Try.prog 9 #[] w fun e w' => e = .returned (.bool true) ∧ (w'.cell? ⟨A, 0, none⟩ = some (.int .i64 s.f) ∧ w'.cell? ⟨A, 1, none⟩ = some (.int .i64 s.t) ∧ A < w'.heap.size ∧ SpAt w' sa l ∧ SpAt w' v0 u ∧ Below A W w')) := fun w h =>
        (LV.out w).mono fun e w' h' => ⟨h'.1, HST.out w w' h h'.2⟩
      have SB : Hid (∀ (w w' : World) (v : Option Addr), Below w.heap.size w w' → SpAt w v g → SpAt w' v g) := fun w w' v hb h => h.below hb
      clear J HK hsu HST near_l hgl CR0 LV LLL HIG HIU hfl hfs huf HR HUL H0 hn0 hn1 hk hl
      go_region_held3 (fun w' => (w'.cell? ⟨A, 0, none⟩ = some (.int .i64 s.f) ∧ w'.cell? ⟨A, 1, none⟩ = some (.int .i64 s.t) ∧ A < w'.heap.size ∧ SpAt w' sa l ∧ SpAt w' v0 u ∧ Below A W w')) (go_keep)
        (first
        | (go_at_call 19; refine (CU.out _ ?_).mono ?_; (first | assumption | exact ⟨by assumption, by assumption, by assumption, by assumption, by assumption, by assumption⟩); rintro e w11 ⟨⟨v1, c1, rfl, S1⟩, a0, a1, a2, a3, a4, a5⟩)
        | (go_at_call 18; with_reducible refine (CS.out _ _ _ ?_ ?_).mono ?_; (first | assumption | exact ⟨by assumption, by assumption, by assumption, by assumption, by assumption, by assumption⟩); exact S1; rintro e w12 ⟨rfl, b0, b1, b2, b3, b4, b5⟩)
        | (go_at_call 20; refine (CT.out _ ?_).mono ?_; (first | assumption | exact ⟨by assumption, by assumption, by assumption, by assumption, by assumption, by assumption⟩); rintro e w13 ⟨rfl, d0, d1, d2, d3, d4, d5⟩)
        | (go_at_call 21; refine (CG.out _ ?_).mono ?_; (first | assumption | exact ⟨by assumption, by assumption, by assumption, by assumption, by assumption, by assumption⟩); rintro e w14 ⟨⟨v2, c2, rfl, S2⟩, hbG, e0, e1, e2, e3, e4, e5⟩; (try have S3' := SB.out _ _ _ hbG (by exact S3)))
        | (go_at_call 22; refine (CR.out _ ?_).mono ?_; (first | assumption | exact ⟨by assumption, by assumption, by assumption, by assumption, by assumption, by assumption⟩); rintro e w15 ⟨⟨v3, c3, rfl, S3⟩, hbR, f0, f1, f2, f3, f4, f5⟩; (try have S2' := SB.out _ _ _ hbR (by exact S2)))
        | (go_at_call 18; with_reducible refine (CS2.out _ _ _ _ _ ?_ ?_ ?_).mono ?_; (first | assumption | exact ⟨by assumption, by assumption, by assumption, by assumption, by assumption, by assumption⟩); (first | exact S2' | exact S2); (first | exact S3' | exact S3); rintro e w16 ⟨rfl, g0, g1, g2, g3, g4, g5⟩)
        | (go_at_call 9; refine (CL.out _ ?_).mono ?_; (first | assumption | exact ⟨by assumption, by assumption, by assumption, by assumption, by assumption, by assumption⟩); rintro e w17 ⟨rfl, h0, h1, h2, h3, h4, h5⟩))
      all_goals
        have hf := h5
        rw [HAA.out] at hf
        clear h5
        go_wp2
        go_returns
        exact ⟨rfl, hf⟩
end Go.Proofs.Ytjfhkheedcpimaa
