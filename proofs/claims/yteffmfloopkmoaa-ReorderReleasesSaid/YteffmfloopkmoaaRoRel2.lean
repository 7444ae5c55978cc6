/-
  WALKS of package reorder: release.
-/
import Derived.Test.YteffmfloopkmoaaRoRel
import Derived.Test.YteffmfloopkmoaaRoCut
namespace Go.Proofs.Yteffmfloopkmoaa
open Go.RowKit Go.Ro Go.Sq Go.Wr
attribute [local go_sem ↓ high] Rw_.loadF Rw_.storeF Rw_.v_cells Rw_.v_match
attribute [local go_sem] Rw_.C0 Rw_.C1 Rw_.C2 Rw_.loadF_new Rw_.storeF_zero Oper.semAt_some

/-- What lies there lies in a block made since. -/
def Fresh (w : World) (sa : Option Addr) : Prop := ∀ bb off, sa = some ⟨bb, off, none⟩ → w.heap.size ≤ bb
theorem Fresh.none (w : World) : Fresh w Option.none := fun _ _ e => nomatch e
theorem Fresh.up {w w' : World} {sa : Option Addr} (h : Fresh w' sa) (hs : w.heap.size ≤ w'.heap.size) : Fresh w sa := fun bb off e => Nat.le_trans hs (h bb off e)
/-- A buffer and what is released, handed back. -/
def RelPost (p : Bf × List ByteArray) (w : World) (e : Ending) (w' : World) : Prop :=
  ∃ x' sa c, e = .returned (.tuple #[Rw_.v x', .slice sa p.2.length c]) ∧ Lies w' x' p.1 ∧ Ss_.Sl w' sa p.2 c ∧ Below w.heap.size w w' ∧ Fresh w x'.sa ∧ Fresh w sa

theorem nd_next (b : Bf) (s : Int) (hs : 0 ≤ s ∧ s < 4096) (j : Nat) (hj : j ≤ nd b s) : j < nd b s ↔ ∃ h : n0 b s + j < b.hs.length, b.hs[n0 b s + j].q = add s (j : Int) := by
  unfold nd at hj ⊢
  rw [dr_next _ s j hs hj]
  constructor
  · rintro ⟨h, e⟩
    have h' : n0 b s + j < b.hs.length := by rw [List.length_drop] at h; omega
    exact ⟨h', by rw [← e, List.getElem_drop]⟩
  · rintro ⟨h, e⟩
    exact ⟨by rw [List.length_drop]; omega, by rw [← e, List.getElem_drop]⟩
theorem nd_le (b : Bf) (s : Int) : n0 b s + nd b s ≤ b.hs.length := by
  have h1 := dr_le (b.hs.drop (n0 b s)) s
  have h2 : n0 b s ≤ b.hs.length := nb_le _ _ _
  rw [List.length_drop] at h1
  unfold nd
  omega

set_option maxRecDepth 100000 in
set_option maxHeartbeats 4000000 in
theorem ro_release_any (x : Rw) (b : Bf) (s : Int) (w : World) (hL : Lies w x b) (ha : Asc b.st b.hs) (hs : 0 ≤ s ∧ s < 4096) (hl : b.hs.length ≤ 1000) :
    Calls Try.prog 35 #[Rw_.v x, .int .i64 s] w fun e w' => RelPost (rel b s) w e w' := by
  obtain ⟨w1, hw1⟩ : ∃ w1, w.alloc (.cells (Rw_.C x) 25) = w1 := ⟨_, rfl⟩
  obtain ⟨w2, hw2⟩ : ∃ w2, w1.alloc (.cells (Rw_.C zr) 25) = w2 := ⟨_, rfl⟩
  have hw2' : w1.alloc (.cells #[.int .i64 0, .int .i64 0, .slice none 0 0] 25) = w2 := hw2
  have z1 : w1.heap.size = w.heap.size + 1 := by rw [← hw1]; simp
  have T2 := Lib.hid (Two.new hw1 hw2)
  have l2 := T2.out.bx.loadF
  have CF := Lib.hid (ro_find_any x b s w2 (hL.below T2.out.bel) ha hl)
  have HL := Lib.hid hL
  have HN := Lib.hid hl
  have HNX := Lib.hid (nd_next b s hs)
  have HNL := Lib.hid (nd_le b s)
  have HAZ := Lib.hid (add_zero hs)
  clear hL hl ha hs
  have HREL : Hid (rel b s = (⟨add s (nd b s : Nat), b.sz, b.hs.drop (n0 b s + nd b s)⟩, (b.hs.take (n0 b s + nd b s)).map (·.d))) := rfl
  generalize nd b s = K at *
  generalize n0 b s = N at *
  obtain ⟨n, hn⟩ : ∃ n, b.hs.length = n := ⟨_, rfl⟩
  have hxn : x.n = n := HL.out.n.trans hn
  have HLEN := Lib.hid hn
  clear hn
  have CA : Hid (∀ (j : Nat) (W : World), Calls Try.prog 32 #[.int .i64 (add s (j : Int)), .int .i64 1] W fun e w' => e = .returned (.int .i64 (add s ((j + 1 : Nat) : Int))) ∧ W = w') := fun j W => by
    have h := add_any (add s (j : Int)) 1 W
    rw [add_next] at h
    exact h
  go_enter Try.func35, Try.ntmps35
  go_wp2_with (go_at_call 29; refine CF.out.mono ?_; rintro e w3 ⟨rfl, hw3⟩; have T3 := Lib.hid (T2.out.below (hw3.mono (Nat.le_refl _))); clear hw3)
  go_loopw [1, 6] (fun s1 s6 wr => ∃ j p : Nat, s1 = .int .i64 (add s (j : Int)) ∧ s6 = .int .i64 (p : Int) ∧ Hid (p = N + j ∧ j ≤ K) ∧ p ≤ n ∧ Hid (Two w x zr wr)) (fun _ s6 _ => n - (intOf s6).toNat)
  case atStart => exact ⟨0, N, by rw [show add s ((0 : Nat) : Int) = s from HAZ.out], rfl, ⟨rfl, Nat.zero_le _⟩, by have := HNL.out; have := HLEN.out; omega, T3⟩
  case round =>
    rename World => wr
    obtain ⟨j, p, rfl, rfl, HJ, hp, TW⟩ := hrel
    have e3 := TW.out.bx.all
    have hp1 : p ≤ 1000 := by have := HN.out; have := HLEN.out; omega
    by_cases hgo : j < K
    · obtain ⟨hpl, hpq⟩ := (HNX.out j HJ.out.2).1 hgo
      have hpl' : p < b.hs.length := by rw [HJ.out.1]; exact hpl
      have hpq' : b.hs[p].q = add s (j : Int) := by rw [← hpq]; congr 2; exact HJ.out.1
      have hpn : p < n := by have := HLEN.out; omega
      obtain ⟨bb, off, hsa, hbl, k0, -⟩ := (HL.out.sl.below TW.out.bel).lies p hpl'
      rw [hpq'] at k0
      have HJ2 : Hid (p + 1 = N + (j + 1) ∧ j + 1 ≤ K) := ⟨by have := HJ.out.1; omega, hgo⟩
      clear hpl hpq hpl' hpq' hbl hgo
      have CAj := Lib.hid (CA.out j)
      generalize add s (j : Int) = S1 at *
      go_wp2_with (go_at_call 32; refine (CAj.out _).mono ?_; rintro e w' ⟨rfl, rfl⟩)
      go_roundw
      case rel => exact ⟨j + 1, p + 1, rfl, by go_num, HJ2, hpn, TW⟩
      case measure => simp [intOf]; omega
    · have HP : Hid (p = N + K) := by
        have h1 := HJ.out.1
        have h2 := HJ.out.2
        show p = N + K
        omega
      have HJK : Hid (j = K) := by
        have h2 := HJ.out.2
        show j = K
        omega
      have hs1 := head20 x.sa n x.c p (by have := HL.out.sl.le; have := HLEN.out; omega) HL.out.sl.nil
      have hs2 := tail20 x.sa n x.c p hp HL.out.sl.nil (by have := HL.out.sl.le; have := HLEN.out; omega)
      have HT := Lib.hid (show (b.hs.take p).length = p by rw [List.length_take]; have := HLEN.out; omega)
      have HD := Lib.hid (show (b.hs.drop p).length = n - p by rw [List.length_drop]; have := HLEN.out; omega)
      have HMP := Lib.hid (show ((b.hs.take p).map (·.d)).length = p by rw [List.length_map]; exact HT.out)
      have CC : Hid (Calls Try.prog 47 #[.slice x.sa p x.c, .func (.func 48) #[] #[]] wr fun e w' => ∃ v0 c4, e = .returned (.slice v0 p c4) ∧ (Ss_.Sl w' v0 ((b.hs.take p).map (·.d)) c4 ∧ ∀ bb off, v0 = some ⟨bb, off, none⟩ → w.heap.size + 2 ≤ bb) ∧ Below wr.heap.size wr w') := by
        have h := ro_collect_any x.sa (b.hs.take p) x.c wr (sl_take20 (HL.out.sl.below TW.out.bel) p) (by rw [HT.out]; exact hp1)
        rw [HT.out] at h
        refine h.mono ?_
        rintro e w' ⟨v', rfl, h1, h2⟩
        obtain ⟨v0, c4, rfl⟩ := Ss_.slice_form h1
        exact ⟨v0, c4, by rw [HMP.out], ⟨Ss_.sl_owns h1, fun bb off e => by subst e; have := (h1.lt bb rfl).1; have := TW.out.size; omega⟩, h2⟩
      have HQ : Hid (∀ h : p < n, ∃ bb off q, x.sa = some ⟨bb, off, none⟩ ∧ wr.cell? ⟨bb, off + p * 2, none⟩ = some (.int .i64 q) ∧ ¬ q = add s (j : Int)) := fun h => by
        have hpl' : p < b.hs.length := by rw [HLEN.out]; exact h
        obtain ⟨bb, off, hsa, -, k0, -⟩ := (HL.out.sl.below TW.out.bel).lies p hpl'
        refine ⟨bb, off, _, hsa, k0, fun e => ?_⟩
        have hpe := HJ.out.1
        subst hpe
        exact hgo ((HNX.out j HJ.out.2).2 ⟨hpl', e⟩)
      have CL : Hid (∀ W, Below wr.heap.size wr W → Calls Try.prog 34 #[.slice (cut20 x.sa p x.c) (n - p) (x.c - p)] W fun e w' => ∃ v0 c5, e = .returned (.slice v0 (n - p) c5) ∧ (Hd_.Sl w' v0 (b.hs.drop p) c5 ∧ ∀ bb off, v0 = some ⟨bb, off, none⟩ → w.heap.size + 2 ≤ bb) ∧ Below W.heap.size W w') := fun W hW => by
        have h := clone20_any (cut20 x.sa p x.c) (b.hs.drop p) (x.c - p) W (sl_drop20 ((HL.out.sl.below TW.out.bel).below hW) p (by have := HLEN.out; omega)) (by rw [HD.out]; have := HN.out; have := HLEN.out; omega)
        rw [HD.out] at h
        refine h.mono ?_
        rintro e w' ⟨v', rfl, h1, h2⟩
        obtain ⟨v0, c5, rfl⟩ := Hd_.slice_form h1
        exact ⟨v0, c5, by rw [HD.out], ⟨Hd_.sl_owns h1, fun bb off e => by subst e; have := (h1.lt bb rfl).1; have := TW.out.size; have := hW.size; omega⟩, h2⟩
      have fin5 : Hid (∀ (w5 : World) (v5 : Option Addr) (c5 : Nat) (v0 : Option Addr) (c4 : Nat), Two w x zr w5 → Hd_.Sl w5 v5 (b.hs.drop p) c5 → Ss_.Sl w5 v0 ((b.hs.take p).map (·.d)) c4 → (∀ bb off, v5 = some ⟨bb, off, none⟩ → w.heap.size + 2 ≤ bb) → (∀ bb off, v0 = some ⟨bb, off, none⟩ → w.heap.size + 2 ≤ bb) →
          RelPost (rel b s) w (.returned (.tuple #[Rw_.v ⟨add s (j : Int), x.sz, v5, n - p, c5⟩, .slice v0 p c4])) (w5.setRow (w.heap.size + 1) (Rw_.C ⟨add s (j : Int), x.sz, v5, n - p, c5⟩))) := fun w5 v5 c5 v0 c4 h1 h2 h3 h4 h5 => by
        rw [HREL.out, ← HP.out, ← HJK.out]
        have hsz : w5.heap.size ≤ (w5.setRow (w.heap.size + 1) (Rw_.C ⟨add s (j : Int), x.sz, v5, n - p, c5⟩)).heap.size := by simp [World.setRow]
        refine ⟨⟨add s (j : Int), x.sz, v5, n - p, c5⟩, v0, c4, ?_, ⟨rfl, HL.out.sz, HD.out.symm, ⟨h2.lies.block hsz (fun bb off e => Rw_.setRow_other (by have := h4 bb off e; omega) _), h2.le, h2.nil⟩⟩, ⟨h3.lies.block hsz (fun bb off e => Rw_.setRow_other (by have := h5 bb off e; omega) _), h3.le, h3.nil⟩, (h1.setY _).bel, fun bb off e => by have := h4 bb off e; omega, fun bb off e => by have := h5 bb off e; omega⟩
        rw [HMP.out]
      clear hgo hp
      by_cases hlt : p < n
      case' pos =>
        obtain ⟨bb, off, q, hsa, k0, hq⟩ := HQ.out hlt
        have d1 : (q == add s (j : Int)) = false := by rw [beq_eq_false_iff_ne]; exact hq
        have hpc : p < x.c := by have := HL.out.sl.le; have := HLEN.out; omega
        have hpc' : ¬ x.c = p := by omega
        have hpc2 : p ≤ x.c := by omega
        have hcut : cut20 (some ⟨bb, off, none⟩) p x.c = some ⟨bb, off + p * 2, none⟩ := by
          unfold cut20
          rw [Option.map_some, if_neg hpc', Addr.add_lit]
        rw [hsa] at hs1 hs2 CC CL
        rw [hcut] at hs2 CL
        clear hq hcut hpc
      all_goals
        generalize add s (j : Int) = S1 at *
        go_wp2_with fail
        refine CC.out.mono ?_
        rintro e w4 ⟨v0, c4, rfl, hs4, hb4⟩
        have T4 := Lib.hid (TW.out.below hb4)
        have e4 := T4.out.bx.all
        have HR4 := Lib.hid hs4
        have CL4 := Lib.hid (CL.out w4.drew ⟨hb4.os, hb4.tape, hb4.output, hb4.size, hb4.block⟩)
        clear hs4 hb4
        go_wp2_with fail
        go_region_with (go_at_call 34; refine CL4.out.mono ?_; rintro e w5 ⟨v5, c5, rfl, hs5, hb5⟩; have T5 := Lib.hid (T4.out.drew.below hb5); have e5 := T5.out.bx.all; have st5 : (Rw_.StoreF ⟨w.heap.size + 1, 0, none⟩ (.agg #[.int .i64 S1, .int .i64 x.sz, .slice v5 (n - p) c5])).run Try.prog w5 = .ok () (w5.setRow (w.heap.size + 1) (Rw_.C ⟨S1, x.sz, v5, n - p, c5⟩)) := T5.out.rs.storeF ⟨S1, x.sz, v5, n - p, c5⟩; have F5 := Lib.hid (And.intro hs5.1 (And.intro (HR4.out.1.drew.below hb5) (And.intro hs5.2 HR4.out.2))); clear hs5 hb5)
        all_goals
          go_wp2
          exact ret_rw2 Try.results35 rfl rfl (T5.out.setY ⟨S1, x.sz, v5, n - p, c5⟩).rs rfl (fin5.out _ v5 c5 v0 c4 T5.out F5.out.1 F5.out.2.1 F5.out.2.2.1 F5.out.2.2.2)
end Go.Proofs.Yteffmfloopkmoaa
