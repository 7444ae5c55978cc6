/-
  WALKS of layer 9: the reference's Decode, With.
-/
import Derived.Test.YthkmhmjhcjgbbaaElRef2
import Derived.Deep.RegionLaw
import Derived.Deep.AppendLies
import Derived.Test.YthkmhmjhcjgbbaaAppAny
namespace Go.Proofs.Ythkmhmjhcjgbbaa
open Go.RowKit Go.Em El_

theorem slice2 (s : ByteArray) (p n : Nat) (h : p + 2 + n ≤ s.size) (W : World) : (Instr.slice 9 (.string s) (some (.int .i64 ((p : Int) + 2))) (some (.int .i64 ((p : Int) + 2 + (n : Int)))) none).run Try.prog W = .ok (.string (s.extract (p + 2) (p + 2 + n))) W := by
  rw [run_slice_string_if W 9 s .i64 .i64 ((p : Int) + 2) ((p : Int) + 2 + (n : Int)) Try.underlying9, if_pos ⟨by omega, by omega⟩, if_pos (show 0 ≤ (p : Int) + 2 ∧ (p : Int) + 2 ≤ (p : Int) + 2 + (n : Int) by omega)]
  rw [show ((p : Int) + 2).toNat = p + 2 by omega, show ((p : Int) + 2 + (n : Int)).toNat = p + 2 + n by omega]

/-- What Decode hands back. -/
def DecPost (s : ByteArray) (w : World) (e : Ending) (w' : World) : Prop :=
  ∃ v0 c, e = .returned (.tuple #[.slice v0 (dec s).1.length c, .int .i64 (dec s).2]) ∧ Sl w' v0 (dec s).1 c ∧ Below w.heap.size w w'
theorem decPost_err {s : ByteArray} {w w' : World} {e : Ending} {r : Int} (h : dec s = ([], r)) (he : e = .returned (.tuple #[.slice none 0 0, .int .i64 r])) (hb : Below w.heap.size w w') : DecPost s w e w' :=
  ⟨none, 0, by rw [h, he]; rfl, by rw [h]; exact Sl.none _, hb⟩
theorem decPost_ok {s : ByteArray} {w w' : World} {e : Ending} {L : List El} {v0 : Option Addr} {c : Nat} (h : dec s = (L, 0)) (he : e = .returned (.tuple #[.slice v0 L.length c, .int .i64 0])) (ha : Sl w' v0 L c) (hb : Below w.heap.size w w') : DecPost s w e w' :=
  ⟨v0, c, by rw [h, he], by rw [h]; exact ha, hb⟩

set_option maxRecDepth 100000 in
set_option maxHeartbeats 4000000 in
theorem refDecode_any (s : ByteArray) (w : World) (hs : s.size ≤ 1000000) :
    Calls Try.prog 15 #[.string s] w fun e w' => DecPost s w e w' := by
  have HI := Lib.hid (info_parts info)
  go_enter Try.func15, Try.ntmps15
  go_wp2
  go_loopw [4, 5] (fun v i wr => ∃ (L : List El) (f p : Nat), p ≤ s.size ∧ L.length ≤ 32 ∧ i = .int .i64 p ∧ s.size - p < f ∧ dec s = fin L (decF s f p L.length) ∧ wr.ownsRow w.heap.size 35 2 v L.length (flat L) ∧ Below w.heap.size w wr)
    (fun _ i _ => s.size - (intOf i).toNat)
  case atStart => exact ⟨[], s.size + 1, 0, Nat.zero_le _, Nat.zero_le _, rfl, by omega, dec_fin s, World.ownsRow_nil _ _ _ _, Below.refl _ _⟩
  case round =>
    rename_i wr
    obtain ⟨L, f, p, hp, hL, rfl, hf, hd, hown, hb⟩ := hrel
    obtain ⟨f, rfl⟩ : ∃ g, f = g + 1 := ⟨f - 1, by omega⟩
    obtain ⟨v0, c, rfl⟩ := slice_form hown
    by_cases hlt : p < s.size
    · by_cases h32 : L.length = 32
      · have hR := hd
        rw [h32, fin_full L hlt] at hR
        have HR := Lib.hid hR
        clear hd hown hR hf
        go_wp2
        go_returns
        exact decPost_err HR.out rfl hb
      · have h32' : ((L.length : Int) == 32) = false := by simp; omega
        by_cases h2 : s.size - p < 2
        · have hR := hd
          rw [fin_short L hlt h32 (.inl h2)] at hR
          have HR := Lib.hid hR
          clear hd hown hR hf
          have h2' : (s.size : Int) - p < 2 := by omega
          go_wp2
          go_returns
          exact decPost_err HR.out rfl hb
        · have h2' : ¬ (s.size : Int) - p < 2 := by omega
          have hp1 : p + 1 < s.size := by omega
          have hbe := byt_get hp1
          have hbe0 := byt_get hlt
          have hbl := byt_lt s (p + 1)
          have hbl0 := byt_lt s p
          by_cases h3 : s.size - p - 2 < byt s (p + 1)
          · have hR := hd
            rw [fin_short L hlt h32 (.inr h3)] at hR
            have HR := Lib.hid hR
            clear hd hown hR hf
            have h3' : (s.size : Int) - p - 2 < byt s (p + 1) := by omega
            go_wp2
            go_returns
            exact decPost_err HR.out rfl hb
          · have hR := hd
            rw [fin_step L hlt h32 (by omega)] at hR
            have HR := Lib.hid hR
            have h3' : ¬ (s.size : Int) - p - 2 < byt s (p + 1) := by omega
            have HX : Hid (cs (elAt s p) = [.int .i64 (byt s p : Int), .string (s.extract (p + 2) (p + 2 + byt s (p + 1)))]) := rfl
            generalize elAt s p = x at *
            have t2 : ((p : Int) + 2 + (byt s (p + 1) : Int)).toNat = p + 2 + byt s (p + 1) := by omega
            have j2 : (p : Int) + 2 + (byt s (p + 1) : Int) ≤ s.size := by omega
            have j1 : 0 ≤ (p : Int) + 2 + (byt s (p + 1) : Int) := by omega
            have j4 : (p : Int) + 2 ≤ (p : Int) + 2 + (byt s (p + 1) : Int) := by omega
            have j3 : 0 ≤ (p : Int) + 2 := by omega
            have t1 : ((p : Int) + 2).toNat = p + 2 := by omega
            have q1 : IntKind.i64.wrap ((p : Int) + 2) = (p : Int) + 2 := IntWalk.i64_in _ (by omega)
            have q0 : IntKind.i64.wrap (byt s p : Int) = byt s p := IntWalk.i64_in _ (by omega)
            obtain ⟨t, ht⟩ : ∃ t, t = s.extract (p + 2) (p + 2 + byt s (p + 1)) := ⟨_, rfl⟩
            have te : s.extract (p + 2) (p + 2 + byt s (p + 1)) = t := ht.symm
            rw [te] at HX
            clear ht
            have HF := Lib.hid hf
            clear hd hR hf
            have i0 : (0 : Int) ≤ (p : Int) := by omega
            have i1 : (p : Int) < (s.size : Int) := by omega
            obtain ⟨i0', hi, hz0, hz1, hz2⟩ := HI.out
            have hb2 : Below w.heap.size w (wr.alloc (.cells #[.int .i64 (byt s p : Int), .string t] 35)).drew := (hb.alloc hb.size _).drew
            have hown2 : (wr.alloc (.cells #[.int .i64 (byt s p : Int), .string t] 35)).drew.ownsRow w.heap.size 35 2 (.slice v0 L.length c) L.length (flat L) := (hown.alloc _).drew
            have hnews : ∀ j u, ([.int .i64 (byt s p : Int), .string t] : List Value)[j]? = some u → (wr.alloc (.cells #[.int .i64 (byt s p : Int), .string t] 35)).drew.cell? ((⟨wr.heap.size, 0, none⟩ : Addr).add j) = some u :=
              World.news_of_block (cs := #[.int .i64 (byt s p : Int), .string t]) (t := 35) (fr := (0, 0)) (by show (wr.heap.push _)[wr.heap.size]? = _; rw [Array.getElem?_push, if_pos rfl])
            go_wp2
            go_region_law (refine step_append_lies _ rfl (.tmp 40) (.tmp 51) 22 rfl w.heap.size 35 i0' (.agg #[.int .i64 0, .string ⟨#[]⟩]) 2 24 Try.underlying22 hi hz0 hz1 hz2 rfl (by decide) (.slice v0 L.length c) L.length (flat L) (by simp [Act.eval]) hown2 ⟨wr.heap.size, 0, none⟩ 1 1 [.int .i64 (byt s p : Int), .string t] (by simp [Act.eval]) rfl hnews (by intro u hu; simp at hu; rcases hu with rfl | rfl <;> rfl) (by decide) (by unfold maxLen; omega) (by omega) (by have := hb.size; simp; omega) _ rfl ?_; intro g cap w1 hown3 hgrow hat hlt3)
            clear hi hz0 hz1 hz2 hnews hat hlt3
            have R : w1.ownsRow w.heap.size 35 2 (.slice (some ⟨g, 0, none⟩) (L ++ [x]).length cap) (L ++ [x]).length (flat (L ++ [x])) ∧ Below w.heap.size w w1 := by
              refine ⟨?_, Below.grown hb2 hgrow hb2.size (fun j hj => (hown2.lt j hj).1)⟩
              rw [flat_snoc, HX.out, List.length_append]
              exact hown3
            have hLL : (L ++ [x]).length = L.length + 1 := by rw [List.length_append]; rfl
            have HLL := Lib.hid hLL
            rw [← hLL] at HR
            clear hown hown2 hown3 hgrow hb2 hb hbe hbe0 t1 t2 te q0 q1 hLL
            go_wp2
            go_roundw
            case rel => exact ⟨L ++ [x], f, p + 2 + byt s (p + 1), by omega, by have := HLL.out; omega, by go_num, by have := HF.out; omega, HR.out, by rw [← HLL.out]; exact R.1, R.2⟩
            case measure => simp [intOf]; omega
    · obtain rfl : p = s.size := by omega
      have hR := hd
      rw [fin_end L (Nat.lt_irrefl _)] at hR
      have HR := Lib.hid hR
      have HO : Hid (Sl wr v0 L c) := sl_owns hown
      clear hd hown hR hf
      go_wp2
      go_returns
      exact decPost_ok HR.out rfl HO.out hb

/-- What With hands back. -/
def WithPost (l : List El) (e : El) (w : World) (r : Ending) (w' : World) : Prop :=
  ∃ v0 c', r = .returned (.slice v0 (wth l e).length c') ∧ Sl w' v0 (wth l e) c' ∧ Below w.heap.size w w'

set_option maxRecDepth 100000 in
set_option maxHeartbeats 4000000 in
theorem refWith_any (l : List El) (sa : Option Addr) (c : Nat) (e : El) (w : World) (h : Sl w sa l c) (hl : l.length ≤ 1000) :
    Calls Try.prog 20 #[.slice sa l.length c, v e] w fun r w' => WithPost l e w r w' := by
  have HI := Lib.hid (info_parts info)
  have HS := Lib.hid h
  have HF := Lib.hid (fun w h => refFirst_any l sa c e.id w h (by omega))
  have HW : Hid (wth l e = if idx l e.id < l.length then l.set (idx l e.id) e else l ++ [e]) := rfl
  have HX : Hid (cs e = [.int .i64 e.id, .string e.s]) := rfl
  have hfst : fst1 l e.id = if idx l e.id < l.length then (idx l e.id : Int) else -1 := rfl
  have HFS := Lib.hid (fun w hi => (flat_set l e w hi))
  unfold v
  generalize e.id = id at *
  generalize e.s = t at *
  clear h
  obtain ⟨w1, hw1⟩ : ∃ w1, w1 = w.alloc (.cells #[.int .i64 id, .string t] 35) := ⟨_, rfl⟩
  have B1 : Below w.heap.size w w1 := by rw [hw1]; exact (Below.refl _ _).alloc (Nat.le_refl _) _
  have Z1 : w1.heap.size = w.heap.size + 1 := by rw [hw1]; simp
  have e0 : w1.cell? ⟨w.heap.size, 0, none⟩ = some (.int .i64 id) := by rw [hw1]; simp
  have e1 : w1.cell? ⟨w.heap.size, 1, none⟩ = some (.string t) := by rw [hw1]; simp
  have S1 : Sl w1 sa l c := HS.out.below B1
  have own0 : (w1.alloc (.cells #[] 35)).ownsRow w1.heap.size 35 2 (.slice (some ⟨w1.heap.size, 0, none⟩) 0 0) 0 [] := World.ownsRow_made w1 #[] 0 (Nat.le_refl _) (Nat.zero_le _) rfl
  rw [Z1] at own0
  go_enter Try.func20, Try.ntmps20
  go_wp2_with (at_builtin; obtain ⟨i0, hi, hz0, hz1, hz2⟩ := HI.out; refine Go.Wr.wpList_append_any _ rfl _ _ 22 rfl (w.heap.size + 1) 35 i0 (.agg #[.int .i64 0, .string ⟨#[]⟩]) 2 24 Try.underlying22 hi hz0 hz1 hz2 rfl (by decide) _ 0 [] rfl ?own sa l.length c (flat l) rfl ?c0 ?c1 ?c2 ?c3 ?c4 ?c5 ?c6 ?_)
  case own => rw [← hw1]; exact own0
  case c0 => exact flat_len l
  case c1 => exact fun h => by have := HS.out.nil h; have := HS.out.le; omega
  case c2 => rw [← hw1]; exact (S1.below ((Below.refl _ _).alloc (Nat.le_refl _) _)).news
  case c3 => exact flat_ones l
  case c4 => unfold maxLen; omega
  case c5 => omega
  case c6 => rw [← hw1]; simp [Z1]
  intro v' w2 hown hgrow
  rw [← hw1] at hgrow
  clear hi hz0 hz1 hz2
  have B2 : Below w1.heap.size w1 w2 := Below.grown ((Below.refl _ _).alloc (Nat.le_refl _) _) hgrow (by simp) (fun j hj => by have := (own0.lt j hj).1; omega)
  have f0 : w2.cell? ⟨w.heap.size, 0, none⟩ = some (.int .i64 id) := (B2.cell (p := ⟨w.heap.size, 0, none⟩) (by rw [Z1]; exact Nat.lt_succ_self _)).trans e0
  have f1 : w2.cell? ⟨w.heap.size, 1, none⟩ = some (.string t) := (B2.cell (p := ⟨w.heap.size, 1, none⟩) (by rw [Z1]; exact Nat.lt_succ_self _)).trans e1
  have S2 := Lib.hid (S1.below B2).lies
  have B3 := Lib.hid (B1.trans (B2.mono (by omega)))
  have hown' : w2.ownsRow (w.heap.size + 1) 35 2 v' l.length (flat l) := by simpa using hown
  clear hown
  have hown := hown'
  clear hown'
  clear own0 hgrow e0 e1 S1 B1 hw1
  by_cases hi : idx l id < l.length
  case neg =>
    rw [if_neg hi] at hfst HW
    have FF := HF.out w2 S2.out
    rw [hfst] at FF
    have FF' := Lib.hid FF
    clear FF hfst HFS hi HF
    go_wp2_with (first
      | (go_at_call 23; refine FF'.out.mono ?_; rintro e w' ⟨rfl, rfl⟩)
      | (at_builtin; obtain ⟨i0, hi, hz0, hz1, hz2⟩ := HI.out; refine wpList_append_own _ rfl _ _ 22 rfl (w.heap.size + 1) 35 i0 (.agg #[.int .i64 0, .string ⟨#[]⟩]) 2 24 Try.underlying22 hi hz0 hz1 hz2 rfl (by decide) _ l.length (flat l) rfl (hown.alloc _) ⟨w2.heap.size, 0, none⟩ 1 1 [.int .i64 id, .string t] rfl rfl ?c1 ?c2 ?c3 ?c4 ?c5 ?_))
    case c1 =>
      intro j u hj
      match j, hj with
      | 0, hj => simp at hj; subst hj; simp [Addr.add]
      | 1, hj => simp at hj; subst hj; simp [Addr.add]
    case c2 => intro u hu; simp at hu; rcases hu with rfl | rfl <;> rfl
    case c3 => unfold maxLen; omega
    case c4 => omega
    case c5 => have := B2.size; simp; omega
    intro v2 w3 hown3 hgrow3 hn3
    clear hi hz0 hz1 hz2
    have B4 : Below (w.heap.size + 1) w2 w3 := Below.grown ((Below.refl _ _).alloc (by have := B2.size; omega) _) hgrow3 (by have := B2.size; simp; omega) (fun j hj => (hown.lt j hj).1)
    have R : w3.ownsRow (w.heap.size + 1) 35 2 v2 (l ++ [e]).length (flat (l ++ [e])) := by
      rw [flat_snoc, HX.out, List.length_append]
      exact hown3
    obtain ⟨v0, c', rfl⟩ := slice_form R
    have HR := Lib.hid (sl_owns R)
    have B5 := Lib.hid (B3.out.trans (B4.mono (by omega)))
    clear hown hown3 hgrow3 hn3 R B4
    go_wp2
    go_returns
    exact ⟨v0, c', by rw [HW.out]; rfl, by rw [HW.out]; exact HR.out, B5.out⟩
  · rw [if_pos hi] at hfst HW
    have FF := HF.out w2 S2.out
    rw [hfst] at FF
    have FF' := Lib.hid FF
    have HI' := Lib.hid hi
    have HFS' := Lib.hid (HFS.out _ hi)
    generalize idx l id = k at *
    obtain ⟨g, cap, rfl⟩ : ∃ g cap, v' = .slice (some ⟨g, 0, none⟩) l.length cap := by
      obtain ⟨g, cap, h, -⟩ := hown.form (by omega)
      exact ⟨g, cap, h⟩
    have hs := Lib.hid hown
    clear FF hfst HFS HF
    have h0 : w2.cell? ⟨g, k * 2, none⟩ = (flat l)[k * 2]? := hown.cellAt _ (by omega)
    have h1 : w2.cell? ⟨g, k * 2 + 1, none⟩ = (flat l)[k * 2 + 1]? := hown.cellAt _ (by omega)
    have z0 : w2.frozen? ⟨g, k * 2, none⟩ = false := hown.frozenAt _
    have z1 : w2.frozen? ⟨g, k * 2 + 1, none⟩ = false := hown.frozenAt _
    have h0' : w2.cell? ⟨g, k * 2, none⟩ = some (.int .i64 l[k].id) := h0.trans (flat_cell l k hi 0 (by decide))
    have h1' : w2.cell? ⟨g, k * 2 + 1, none⟩ = some (.string l[k].s) := h1.trans (flat_cell l k hi 1 (by decide))
    generalize l[k].id = x at *
    generalize l[k].s = y at *
    have s1 := hown.stored (k * 2) (.int .i64 id)
    have s2 := s1.1.stored (k * 2 + 1) (.string t)
    have R : Hid (((w2.setCell ⟨g, k * 2, none⟩ (.int .i64 id)).setCell ⟨g, k * 2 + 1, none⟩ (.string t)).ownsRow (w.heap.size + 1) 35 2 (.slice (some ⟨g, 0, none⟩) (l.set k e).length cap) (l.set k e).length (flat (l.set k e))) := by
      have := s2.1
      rw [← HFS'.out] at this
      rw [List.length_set]
      exact this
    have hg := (hown.lt g rfl).1
    have B5 : Hid (Below w.heap.size w ((w2.setCell ⟨g, k * 2, none⟩ (.int .i64 id)).setCell ⟨g, k * 2 + 1, none⟩ (.string t))) := (B3.out.setCell (p := ⟨g, k * 2, none⟩) (by show _ ≤ g; omega) _).setCell (p := ⟨g, k * 2 + 1, none⟩) (by show _ ≤ g; omega) _
    clear h0 h1 s1 s2 hs
    clear hown
    go_wp2_with (go_at_call 23; refine FF'.out.mono ?_; rintro e w' ⟨rfl, rfl⟩)
    go_returns
    exact ⟨some ⟨g, 0, none⟩, cap, by rw [HW.out, List.length_set]; rfl, by rw [HW.out]; exact sl_owns R.out, B5.out⟩
end Go.Proofs.Ythkmhmjhcjgbbaa
