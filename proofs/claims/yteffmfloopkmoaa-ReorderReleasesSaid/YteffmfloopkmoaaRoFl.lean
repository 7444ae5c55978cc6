/-
  WALKS of package reorder: Flush.
-/
import Derived.Test.YteffmfloopkmoaaRoChk
namespace Go.Proofs.Yteffmfloopkmoaa
open Go.RowKit Go.Ro Go.Sq Go.Wr
attribute [local go_sem ↓ high] Rw_.loadF Rw_.storeF Rw_.v_cells Rw_.v_match
attribute [local go_sem] Rw_.C0 Rw_.C1 Rw_.C2 Rw_.loadF_new Rw_.storeF_zero Oper.semAt_some

theorem fst_none {b : Bf} (h : b.hs.length = 0) : fst b = b.st := by
  unfold fst
  rw [List.eq_nil_of_length_eq_zero h]; rfl
theorem fst_some {b : Bf} {m : Nat} (h : b.hs.length = m + 1) (hm : m < b.hs.length) : fst b = add b.hs[m].q 1 := by
  unfold fst
  rw [List.getLast?_eq_getElem?, show b.hs.length - 1 = m by omega, List.getElem?_eq_getElem hm]

set_option maxRecDepth 100000 in
set_option maxHeartbeats 4000000 in
theorem ro_flush_any (x : Rw) (b : Bf) (w : World) (hL : Lies w x b) (hb : Ok b) :
    Calls Try.prog 21 #[Rw_.v x] w fun e w' => RelPost (flush b) w e w' := by
  have hl : b.hs.length ≤ 1000 := by have := hb.len; omega
  obtain ⟨w1, hw1⟩ : ∃ w1, w.alloc (.cells (Rw_.C x) 25) = w1 := ⟨_, rfl⟩
  obtain ⟨w2, hw2⟩ : ∃ w2, w1.alloc (.cells (Rw_.C zr) 25) = w2 := ⟨_, rfl⟩
  have hw2' : w1.alloc (.cells #[.int .i64 0, .int .i64 0, .slice none 0 0] 25) = w2 := hw2
  have z1 : w1.heap.size = w.heap.size + 1 := by rw [← hw1]; simp
  have T2 := Lib.hid (Two.new hw1 hw2)
  have l2 := T2.out.bx.loadF
  have e2 := T2.out.bx.all
  have HF := Lib.hid (show flush b = rel b (fst b) from rfl)
  rw [HF.out]
  have CR := Lib.hid (ro_release_any x b (fst b) w2 (hL.below T2.out.bel) hb.asc (fst_all b hb).2 hl)
  obtain ⟨n, hn⟩ : ∃ n, b.hs.length = n := ⟨_, rfl⟩
  have hxn : x.n = n := hL.n.trans hn
  have hst := hL.st
  have hn1 : n ≤ 1000 := by omega
  have HN := Lib.hid hn
  have HL := Lib.hid hL
  clear hL hb hl hn
  rcases Nat.eq_zero_or_pos n with h0 | h0
  · subst h0
    have HE := Lib.hid (fst_none HN.out)
    rw [HE.out] at CR ⊢
    go_enter Try.func21, Try.ntmps21
    go_wp2_with (go_at_call 35; refine CR.out.mono ?_; rintro e w4 ⟨x', sa, c, rfl, hl4, hs4, hb4, hf4, hg4⟩; have st4 := (T2.out.below hb4).rs.storeF x'; have F := Lib.hid (rel_fin T2.out hl4 hs4 hb4 hf4 hg4); have X := Lib.hid ((T2.out.below hb4).setY x').rs; clear hl4 hb4 hf4 hs4 hg4)
    exact ret_rw2 Try.results21 rfl rfl X.out rfl F.out
  · obtain ⟨m, rfl⟩ : ∃ m, n = m + 1 := ⟨n - 1, by omega⟩
    have hml : m < b.hs.length := by have := HN.out; omega
    obtain ⟨bb, off, hsa, hbl, k0, -⟩ := HL.out.sl.lies m hml
    have c0 := (T2.out.bel.cell hbl).trans k0
    have HE := Lib.hid (fst_some HN.out hml)
    generalize b.hs[m] = h at *
    rw [HE.out] at CR ⊢
    have CA := Lib.hid (fun w => add_any h.q 1 w)
    have hw0 : wrap64 (((m + 1 : Nat) : Int) - 1) = (m : Int) := by rw [show ((m + 1 : Nat) : Int) - 1 = (m : Int) by omega]; exact IntWalk.wrap64_in _ (by omega)
    have hw0' : wrap64 ((m : Int) + 1 - 1) = (m : Int) := by rw [show (m : Int) + 1 - 1 = (m : Int) by omega]; exact IntWalk.wrap64_in _ (by omega)
    have hp : (0 : Int) < ((m + 1 : Nat) : Int) := by omega
    have hp' : (0 : Int) < (m : Int) + 1 := by omega
    have hm1 : (m : Int) + 1 - 1 = (m : Int) := by omega
    clear hml hbl k0
    generalize add h.q 1 = S at *
    go_enter Try.func21, Try.ntmps21
    go_wp2_with (first
      | (go_at_call 32; refine (CA.out _).mono ?_; rintro e w' ⟨rfl, rfl⟩)
      | (go_at_call 35; refine CR.out.mono ?_; rintro e w4 ⟨x', sa, c, rfl, hl4, hs4, hb4, hf4, hg4⟩; have st4 := (T2.out.below hb4).rs.storeF x'; have F := Lib.hid (rel_fin T2.out hl4 hs4 hb4 hf4 hg4); have X := Lib.hid ((T2.out.below hb4).setY x').rs; clear hl4 hb4 hf4 hs4 hg4))
    exact ret_rw2 Try.results21 rfl rfl X.out rfl F.out
end Go.Proofs.Yteffmfloopkmoaa
