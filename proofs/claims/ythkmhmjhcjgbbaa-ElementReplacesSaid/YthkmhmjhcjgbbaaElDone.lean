/-
  WALKS of the landed functions of layer 9: With; all of them together.
-/
import Derived.Test.YthkmhmjhcjgbbaaElDoneC
import Derived.Test.YthkmhmjhcjgbbaaCopyRow
namespace Go.Proofs.Ythkmhmjhcjgbbaa
open Go.RowKit Go.Em El_

theorem infoSize : (Try.prog.info? 35).map (·.size) = some 2 := by kernel_rfl
theorem makeEls (n : Nat) (z : Int) (hz : z = n) (hn : n ≤ 1000) (base : Nat) (w : World) (hb : base ≤ w.heap.size) : ∃ W, (Instr.makeSlice 22 (.int .i64 z) (.int .i64 z)).run Try.prog w = .ok (.slice (some ⟨w.heap.size, 0, none⟩) n n) W ∧
    (∃ zs, zs.length = n * 2 ∧ W.ownsRow base 35 2 (.slice (some ⟨w.heap.size, 0, none⟩) n n) n zs) ∧ Below w.heap.size w W := by
  subst hz
  obtain ⟨i, hi, hz, hs, hby⟩ := info_parts info
  obtain ⟨W, h1, h2, h3⟩ := run_make_full (P := Try.prog) w base 22 35 i (.agg #[.int .i64 0, .string ⟨#[]⟩]) 2 Try.underlying22 hi hz hs .i64 .i64 n (by rw [hby]; omega) (by unfold maxLen; omega) hb
  exact ⟨W, h1, ⟨_, h2.1, h2⟩, ⟨h3.os, h3.tape, h3.output, h3.size, fun k hk => h3.block k hk (by simp)⟩⟩

/-- The row behind the copy and the two stores. -/
theorem row_with (l : List El) (e : El) (zs : List Value) (n : Nat) (hz : zs.length = n * 2) (hn : n = if idx l e.id < l.length then l.length else l.length + 1) :
    n = (wth l e).length ∧ (((flat l ++ zs.drop (l.length * 2)).set (idx l e.id * 2) (.int .i64 e.id)).set (idx l e.id * 2 + 1) (.string e.s)) = flat (wth l e) := by
  unfold wth
  by_cases h : idx l e.id < l.length
  · rw [if_pos h] at hn ⊢
    refine ⟨by rw [hn, List.length_set], ?_⟩
    rw [List.drop_eq_nil_of_le (by omega), List.append_nil, flat_set l e _ h]
  · rw [if_neg h] at hn ⊢
    have hi : idx l e.id = l.length := by have := idx_le l e.id; omega
    refine ⟨by rw [hn, List.length_append]; rfl, ?_⟩
    rw [hi, flat_snoc]
    have hl := flat_len l
    obtain ⟨a, b, hab⟩ : ∃ a b, zs.drop (l.length * 2) = [a, b] := by
      have : (zs.drop (l.length * 2)).length = 2 := by rw [List.length_drop]; omega
      match zs.drop (l.length * 2), this with
      | [a, b], _ => exact ⟨a, b, rfl⟩
    rw [hab, List.set_append_right _ _ (by omega), hl, Nat.sub_self, List.set_append_right _ _ (by omega), hl, show l.length * 2 + 1 - l.length * 2 = 1 by omega]
    rfl

set_option maxRecDepth 100000 in
set_option maxHeartbeats 4000000 in
theorem with_any (l : List El) (sa : Option Addr) (c : Nat) (e : El) (w : World) (h : Sl w sa l c) (hl : l.length ≤ 500) :
    Calls Try.prog 19 #[.slice sa l.length c, v e] w fun r w' => WithPost l e w r w' := by
  obtain ⟨w1, hw1⟩ : ∃ w1, w1 = w.alloc (.cells #[.int .i64 e.id, .string e.s] 35) := ⟨_, rfl⟩
  have B1 : Below w.heap.size w w1 := by rw [hw1]; exact (Below.refl _ _).alloc (Nat.le_refl _) _
  have Z1 : w1.heap.size = w.heap.size + 1 := by rw [hw1]; simp
  have e0 : w1.cell? ⟨w.heap.size, 0, none⟩ = some (.int .i64 e.id) := by rw [hw1]; simp
  have e1 : w1.cell? ⟨w.heap.size, 1, none⟩ = some (.string e.s) := by rw [hw1]; simp
  have S1 : Sl w1 sa l c := h.below B1
  have CP := Lib.hid (place_any l sa c e.id w1 S1.lies (by omega))
  obtain ⟨n, hn⟩ : ∃ n, n = if idx l e.id < l.length then l.length else l.length + 1 := ⟨_, rfl⟩
  have hn1 : n = idx l e.id + 1 ∧ l.length < idx l e.id + 1 ∨ n = l.length ∧ ¬ l.length < idx l e.id + 1 := by
    have := idx_le l e.id
    split at hn <;> omega
  have hln : l.length ≤ n ∧ idx l e.id < n ∧ n ≤ 501 ∧ idx l e.id ≤ l.length := by
    have := idx_le l e.id
    split at hn <;> omega
  have HROW := Lib.hid (fun zs hz => row_with l e zs n hz hn)
  have HM := Lib.hid (fun z hz b w hb => makeEls n z hz (by omega) b w hb)
  clear hn h
  unfold v
  generalize idx l e.id = k at *
  have HFL := Lib.hid (flat_len l)
  have HFO := Lib.hid (flat_ones l)
  have HS1 := Lib.hid S1
  have HB1 := Lib.hid B1
  have HE := Lib.hid (And.intro e0 e1)
  have HZ := Lib.hid Z1
  obtain ⟨hln, hkn, hn5, hkl⟩ := hln
  clear S1 B1 e0 e1 Z1
  /- What lies behind the call of place: the row made, what is copied into it, its cells. -/
  have HK : Hid (∀ (z : Int), z = n → ∀ w2, Below w1.heap.size w1 w2 → ∃ w3, (Instr.makeSlice 22 (.int .i64 z) (.int .i64 z)).run Try.prog w2 = .ok (.slice (some ⟨w2.heap.size, 0, none⟩) n n) w3 ∧
      ∃ w4, (Builtin.copy_ #[22, 22] 3 #[.slice (some ⟨w2.heap.size, 0, none⟩) n n, .slice sa l.length c]).run Try.prog w3 = .ok (.int .i64 l.length) w4 ∧
      w2.heap.size < w4.heap.size ∧ (∃ u, w4.cell? ⟨w2.heap.size, k * 2, none⟩ = some u) ∧ (∃ u, w4.cell? ⟨w2.heap.size, k * 2 + 1, none⟩ = some u) ∧
      w4.frozen? ⟨w2.heap.size, k * 2, none⟩ = false ∧ w4.frozen? ⟨w2.heap.size, k * 2 + 1, none⟩ = false ∧
      w4.cell? ⟨w.heap.size, 0, none⟩ = some (.int .i64 e.id) ∧ w4.cell? ⟨w.heap.size, 1, none⟩ = some (.string e.s) ∧
      Hid (Sl ((w4.setCell ⟨w2.heap.size, k * 2, none⟩ (.int .i64 e.id)).setCell ⟨w2.heap.size, k * 2 + 1, none⟩ (.string e.s)) (some ⟨w2.heap.size, 0, none⟩) (wth l e) n ∧ n = (wth l e).length ∧
        Below w.heap.size w ((w4.setCell ⟨w2.heap.size, k * 2, none⟩ (.int .i64 e.id)).setCell ⟨w2.heap.size, k * 2 + 1, none⟩ (.string e.s)))) := by
    intro z hz w2 hb2
    have hz2 := hb2.size
    have hz1 := HZ.out
    obtain ⟨w3, hmk, ⟨zs, hzl, hown3⟩, hb3⟩ := HM.out z hz (w.heap.size + 1) w2 (by omega)
    have S3 : Sl w3 sa l c := (HS1.out.below hb2).below hb3
    obtain ⟨w4, hcp, hown4, hgr⟩ := Go.Wr.run_copy_rows (P := Try.prog) w3 22 22 3 35 Try.underlying22 2 infoSize (w.heap.size + 1) n n w2.heap.size zs hown3 sa l.length c (flat l) HFL.out hln (fun h => by have := S3.nil h; have := S3.le; omega) S3.news HFO.out
    have B3 : Below w.heap.size w w3 := (HB1.out.trans (hb2.mono (by omega))).trans (hb3.mono (by omega))
    have hg3 := (hown3.lt w2.heap.size rfl).2
    have B4 : Below w.heap.size w w4 := Below.grown B3 hgr (by omega) (fun j hj => by simp at hj; omega)
    have hsz := hgr.size
    have same : ∀ i, w4.cell? ⟨w.heap.size, i, none⟩ = w1.cell? ⟨w.heap.size, i, none⟩ := fun i => by
      refine (World.cell?_of_block (w := w3) (hgr.block w.heap.size (by omega) (by simp; omega))).trans ?_
      exact ((hb3.cell (p := ⟨w.heap.size, i, none⟩) (by show w.heap.size < _; omega))).trans (hb2.cell (p := ⟨w.heap.size, i, none⟩) (by show w.heap.size < _; omega))
    have hlen : (flat l ++ zs.drop (l.length * 2)).length = n * 2 := hown4.1
    have c0 := hown4.cellAt (k * 2) (by omega)
    have c1 := hown4.cellAt (k * 2 + 1) (by omega)
    rw [List.getElem?_eq_getElem (by omega)] at c0 c1
    have s1 := hown4.stored (k * 2) (.int .i64 e.id)
    have s2 := s1.1.stored (k * 2 + 1) (.string e.s)
    obtain ⟨r1, r2⟩ := HROW.out zs hzl
    have hrow := s2.1
    rw [r2] at hrow
    refine ⟨w3, hmk, w4, hcp, by omega, ⟨_, c0⟩, ⟨_, c1⟩, hown4.frozenAt _, hown4.frozenAt _, (same 0).trans HE.out.1, (same 1).trans HE.out.2, ?_, r1, (B4.setCell (p := ⟨w2.heap.size, k * 2, none⟩) (by show w.heap.size ≤ w2.heap.size; omega) _).setCell (p := ⟨w2.heap.size, k * 2 + 1, none⟩) (by show w.heap.size ≤ w2.heap.size; omega) _⟩
    rw [r1] at hrow
    have := sl_owns hrow
    rw [← r1] at this
    exact this
  clear HM HROW HS1 HFL HFO HB1 HE HZ
  rcases hn1 with ⟨hn1, hlt⟩ | ⟨hn1, hlt⟩
  · obtain rfl : k = l.length := by omega
    have HK' := Lib.hid (HK.out ((l.length : Int) + 1) (by omega))
    have hl' : l.length < 9223372036854775807 := by omega
    have i1 : (l.length : Int) < (n : Int) := by omega
    have i0 : (0 : Int) ≤ (l.length : Int) := by omega
    clear HK hln hkn hlt hl hn1
    go_enter Try.func19, Try.ntmps19
    go_wp2_with fail
    rw [← hw1]
    refine CP.out.mono ?_
    rintro r w2 ⟨rfl, hb2⟩
    obtain ⟨w3, hmk, w4, hcp, hlt4, ⟨u0, c0⟩, ⟨u1, c1⟩, f0, f1, d0, d1, HR⟩ := HK'.out w2 hb2
    clear hb2 HK'
    go_wp2
    go_returns
    exact ⟨_, _, by rw [← HR.out.2.1]; rfl, HR.out.1, HR.out.2.2⟩
  · subst hn1
    have HK' := Lib.hid (HK.out (l.length : Int) rfl)
    have i1 : (k : Int) < (l.length : Int) := by omega
    have i0 : (0 : Int) ≤ (k : Int) := by omega
    have i2 : ¬ (l.length : Int) < (k : Int) + 1 := by omega
    clear HK hln hkn hlt hl
    go_enter Try.func19, Try.ntmps19
    go_wp2_with fail
    rw [← hw1]
    refine CP.out.mono ?_
    rintro r w2 ⟨rfl, hb2⟩
    obtain ⟨w3, hmk, w4, hcp, hlt4, ⟨u0, c0⟩, ⟨u1, c1⟩, f0, f1, d0, d1, HR⟩ := HK'.out w2 hb2
    clear hb2 HK'
    go_wp2
    go_returns
    exact ⟨_, _, by rw [← HR.out.2.1]; rfl, HR.out.1, HR.out.2.2⟩

theorem does : Does where
  check_any l sa c w h hz := check_any l sa c w h.lies (by have := hz.1; omega)
  encode_any l sa c w h hz := encode_any l sa c w h.lies (by have := hz.1; omega)
  decode_any s w hs := decode_any s w hs
  find_any l sa c id w h hz _ := find_any l sa c id w h.lies (by have := hz.1; omega)
  with_any l sa c e w h _ hl _ _ := with_any l sa c e w h (by omega)
end Go.Proofs.Ythkmhmjhcjgbbaa
