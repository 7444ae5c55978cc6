/-
  WALKS of the landed functions of layer 5: Text.
-/
import Derived.Test.YtkhnhlahfedkhaaDoorAdDoneC
import Derived.Test.YtkhnhlahfedkhaaDoorWrRefW
import Derived.Test.YtkhnhlahfedkhaaDoorAdRef
import Derived.Deep.AppendLies
import Derived.Deep.RegionLaw
namespace Go.Proofs.YtkhnhlahfedkhaaDoor
open Go.RowKit Go.Wr Go.Ad

set_option maxHeartbeats 400000 in
theorem text_big (a : Int) (w : World) (ha : 281474976710656 ≤ a) :
    Calls Tryd.prog 28 #[.int .u64 a] w fun e w' => e = .returned (.string ⟨#[]⟩) ∧ Below w.heap.size w w' := by
  have F := Lib.hid (fun w => fits_no a w (by omega))
  clear ha
  go_enter Tryd.func28, Tryd.ntmps28
  go_wp2_with (go_at_call 70; refine (F.out _).mono ?_; rintro e w' ⟨rfl, rfl⟩)
  go_returns
  exact ⟨rfl, Below.refl _ _⟩

theorem make17 (w : World) : ∃ W, (Instr.makeSlice 63 (.int .i64 0) (.int .i64 17)).run Tryd.prog w = .ok (.slice (some ⟨w.heap.size, 0, none⟩) 0 17) W ∧ W.ownsRow w.heap.size 5 1 (.slice (some ⟨w.heap.size, 0, none⟩) 0 17) 0 [] ∧ Below w.heap.size w W := by
  obtain ⟨i, hi, hz, hs, hb⟩ := info_parts infoByte'
  have hr := run_make (P := Tryd.prog) w 63 5 i (.int .u8 0) Tryd.underlying63 hi hz .i64 .i64 0 17 (by omega) (by omega) (by rw [hb]; omega) (by omega)
  refine ⟨_, hr, ?_, (Below.refl _ _).alloc (Nat.le_refl _) _⟩
  exact World.ownsRow_made w _ 17 (Nat.le_refl _) (by decide) (by rw [hs, size_madeCells]; rfl)

theorem owns_below5 {base n size : Nat} {e : TypeId} {v : Value} {wr w1 : World} {xs : List Value} (h : wr.ownsRow base e size v n xs) (hb : Below wr.heap.size wr w1) : w1.ownsRow base e size v n xs :=
  h.kept (row := none) ⟨hb.os, hb.tape, hb.output, hb.size, fun k hk _ => hb.block k hk⟩ (by cases h' : v.ownBlock <;> simp)
theorem six_at (o : List UInt8) (hl : o.length = 6) (m : Nat) (h : m < o.length) (w : World) :
    (Instr.index 81 (.agg (o.map (fun x => Value.int .u8 (x.toNat : Int))).toArray) (.int .i64 (m : Int))).run Tryd.prog w = .ok (.int .u8 ((o[m]'h).toNat : Int)) w := by
  have hs : (sizeOf (Tryd.prog.elem 81)).run Tryd.prog w = .ok 1 w := by kernel_rfl
  simp [Instr.index, run_underlying Tryd.underlying81, asIntOf, go_sem]
  rw [if_pos (by omega), List.getElem?_eq_getElem h]
  rfl
theorem dig_at5 (h : Nat) (hh : h < 16) (w : World) : (Instr.index 9 (.string ⟨#[48, 49, 50, 51, 52, 53, 54, 55, 56, 57, 97, 98, 99, 100, 101, 102]⟩) (.int .u8 (h : Int))).run Tryd.prog w = .ok (.int .u8 ((hexd h).toNat : Int)) w := by
  have hg := dstr_get ⟨h, hh⟩
  simp only at hg
  have hs : (⟨#[48, 49, 50, 51, 52, 53, 54, 55, 56, 57, 97, 98, 99, 100, 101, 102]⟩ : ByteArray)[h]? = some ((⟨#[48, 49, 50, 51, 52, 53, 54, 55, 56, 57, 97, 98, 99, 100, 101, 102]⟩ : ByteArray)[h]'(hh)) := getElem?_pos ..
  simp [Instr.index, run_underlying Tryd.underlying9, asIntOf, go_sem, hs, hg]

/-- What the last region of a round leaves: two digits more. -/
theorem two_news (wr : World) (x y : Int) : ∀ j u, ([.int .u8 x, .int .u8 y] : List Value)[j]? = some u → (wr.alloc (.cells #[.int .u8 x, .int .u8 y] 5)).drew.cell? ((⟨wr.heap.size, 0, none⟩ : Addr).add j) = some u :=
  World.news_of_block (cs := #[.int .u8 x, .int .u8 y]) (t := 5) (fr := (0, 0)) (by show (wr.heap.push _)[wr.heap.size]? = _; rw [Array.getElem?_push, if_pos rfl])

theorem hexn (x : Nat) (hx : x < 256) : ∃ h l : Nat, h < 16 ∧ l < 16 ∧ (x : Int) / 16 = (h : Int) ∧ bits .and .u8 (x : Int) 15 = (l : Int) ∧ h = x / 16 ∧ l = x % 16 := by
  refine ⟨x / 16, x % 16, by omega, by omega, rfl, ?_, rfl, rfl⟩
  have : ∀ y : Fin 256, bits .and .u8 ((y.val : Nat) : Int) 15 = ((y.val % 16 : Nat) : Int) := by decide +kernel
  exact this ⟨x, hx⟩

set_option maxRecDepth 100000 in
set_option maxHeartbeats 2000000 in
theorem text5_any (a : Nat) (w : World) (ha : a < 281474976710656) :
    Calls Tryd.prog 28 #[.int .u64 a] w fun e w' => e = .returned (.string ⟨(txt a).toArray⟩) ∧ Below w.heap.size w w' := by
  have HI := Lib.hid (info_parts infoByte')
  have F := Lib.hid (fun w => fits_yes a w (by omega))
  have O := Lib.hid (fun w => octets5_any a w (by omega))
  obtain ⟨o, ho⟩ : ∃ o, o = be a := ⟨_, rfl⟩
  have hol : o.length = 6 := by rw [ho]; exact be_len a
  have HT : Hid (txt a = tx o 6) := by rw [ho]; rfl
  rw [← ho] at O
  generalize txt a = T at *
  clear ho
  generalize ((a : Nat) : Int) = z at *
  clear ha
  obtain ⟨W0, hmk, hown0, hbel0⟩ := make17 w
  have HO := Lib.hid hown0
  have HB0 := Lib.hid hbel0
  clear hown0 hbel0
  go_enter Tryd.func28, Tryd.ntmps28
  go_wp2_with (first | (go_at_call 70; refine (F.out _).mono ?_; rintro e w' ⟨rfl, rfl⟩) | (go_at_call 71; refine (O.out _).mono ?_; rintro e w1 ⟨rfl, hb⟩; have HB := Lib.hid hb; clear hb))
  have hown1 := owns_below5 HO.out HB.out
  have hbel1 := HB0.out.trans (HB.out.mono HB0.out.size)
  have HO1 := Lib.hid hown1
  have HB1 := Lib.hid hbel1
  clear hown1 hbel1 HO HB0 HB O F hmk
  go_loopw [3, 12] (fun v i wr => ∃ m : Nat, m ≤ 6 ∧ i = .int .i64 m ∧ wr.ownsRow w.heap.size 5 1 v (tx o m).length (bv (tx o m)) ∧ Below w.heap.size w wr) (fun _ i _ => 6 - (intOf i).toNat)
  case atStart => exact ⟨0, by omega, rfl, HO1.out, HB1.out⟩
  case round =>
    clear HO1 HB1
    obtain ⟨m, hm, rfl, hown, hbel⟩ := hrel
    have HOW := Lib.hid hown
    have HBW := Lib.hid hbel
    by_cases hlt : m < 6
    · have hml : m < o.length := by omega
      have hix := six_at o hol m hml
      have hgd : o.getD m 0 = o[m]'hml := by simp [List.getD, hml]
      have HN : Hid (tx o (m + 1) = tx o m ++ (if m = 0 then [] else [58]) ++ [hexd ((o[m]'hml).toNat / 16), hexd ((o[m]'hml).toNat % 16)]) := by show tx o (m + 1) = _; rw [tx, hgd]
      obtain ⟨h, l, hh, hl, hdiv, hand, he, le⟩ := hexn (o[m]'hml).toNat (o[m]'hml).toNat_lt
      rw [← he, ← le] at HN
      clear he le hgd
      by_cases h0 : m = 0
      · have hmz : ¬ (0 : Int) < (m : Int) := by omega
        have hmz' : ¬ 0 < m := by omega
        rw [if_pos h0, List.append_nil] at HN
        clear h0
        have d1 := dig_at5 h hh
        have d2 := dig_at5 l hl
        have hl17 : (tx o m).length ≤ 17 := by rw [tx_len]; omega
        obtain ⟨i0', hi, hz0, hz1, hz2⟩ := HI.out
        have hb2 : Below w.heap.size w (wr.alloc (.cells #[.int .u8 ((hexd h).toNat : Int), .int .u8 ((hexd l).toNat : Int)] 5)).drew := (hbel.alloc hbel.size _).drew
        have hown2 : (wr.alloc (.cells #[.int .u8 ((hexd h).toNat : Int), .int .u8 ((hexd l).toNat : Int)] 5)).drew.ownsRow w.heap.size 5 1 u3 (tx o m).length (bv (tx o m)) := (hown.alloc _).drew
        have hnews := two_news wr ((hexd h).toNat : Int) ((hexd l).toNat : Int)
        go_wp2
        go_region_law (refine step_append_lies _ rfl (.tmp 21) (.tmp 28) 63 rfl w.heap.size 5 i0' (.int .u8 0) 1 1 Tryd.underlying63 hi hz0 hz1 hz2 rfl (by decide) u3 (tx o m).length (bv (tx o m)) (by simp [Act.eval]) hown2 ⟨wr.heap.size, 0, none⟩ 2 2 [.int .u8 ((hexd h).toNat : Int), .int .u8 ((hexd l).toNat : Int)] (by simp [Act.eval]) rfl hnews (by intro u hu; simp at hu; rcases hu with rfl | rfl <;> rfl) (by decide) (by unfold maxLen; omega) (by omega) (by have := hbel.size; simp; omega) _ rfl ?_; intro g cap w1 hown3 hgrow hat hlt3)
        all_goals
          have R : w1.ownsRow w.heap.size 5 1 (.slice (some ⟨g, 0, none⟩) (tx o (m + 1)).length cap) (tx o (m + 1)).length (bv (tx o (m + 1))) ∧ Below w.heap.size w w1 := by
            refine ⟨?_, Below.grown hb2 hgrow hb2.size (fun j hj => (hown2.lt j hj).1)⟩
            have e1 : bv (tx o (m + 1)) = bv (tx o m) ++ [.int .u8 ((hexd h).toNat : Int), .int .u8 ((hexd l).toNat : Int)] := by rw [HN.out, bv, List.map_append]; rfl
            have e2 : (tx o (m + 1)).length = (tx o m).length + 2 := by rw [HN.out, List.length_append]; rfl
            rw [e1, e2]; exact hown3
          have HL : Hid ((tx o (m + 1)).length = (tx o m).length + 2) := by show _ = _; rw [HN.out, List.length_append]; rfl
          have hlt' := Lib.hid hlt
          clear hi hz0 hz1 hz2 hnews hat hlt3 hown hown2 hown3 hgrow hb2 hbel d1 d2 hix hdiv hand
          rw [← HL.out]
          go_wp2
          go_roundw
          case rel => exact ⟨m + 1, hlt'.out, by go_num, R.1, R.2⟩
          case measure => have := hlt'.out; simp [intOf]; omega
      · have hmz : (0 : Int) < (m : Int) := by omega
        have hmz' : 0 < m := by omega
        rw [if_neg h0] at HN
        have hl16 : (tx o m).length ≤ 17 := by rw [tx_len]; omega
        clear h0
        go_wp2_with (at_builtin; obtain ⟨i0, hi, hz0, hz1, hz2⟩ := HI.out; refine wpList_append_own _ rfl _ _ 63 rfl w.heap.size 5 i0 (.int .u8 0) 1 1 Tryd.underlying63 hi hz0 hz1 hz2 rfl (by decide) _ _ _ rfl (hown.alloc _) ⟨wr.heap.size, 0, none⟩ 1 1 [.int .u8 58] rfl rfl ?c1 ?c2 ?c3 ?c4 ?c5 ?_)
        case c1 =>
          intro j u hj
          match j, hj with
          | 0, hj => simp at hj; subst hj; simp [Addr.add]
        case c2 => intro u hu; simp at hu; subst hu; rfl
        case c3 => unfold maxLen; omega
        case c4 => omega
        case c5 => have := hbel.size; simp; omega
        intro v5 w5 hown' hgrow' hn'
        have R5 : w5.ownsRow w.heap.size 5 1 v5 (tx o m ++ [58]).length (bv (tx o m ++ [58])) ∧ Below w.heap.size w w5 := by
          refine ⟨?_, Below.grown (hbel.alloc hbel.size _) hgrow' (by simp; have := hbel.size; omega) (fun j hj => (hown.lt j hj).1)⟩
          have e2 : bv (tx o m ++ [58]) = bv (tx o m) ++ [.int .u8 58] := by rw [bv, List.map_append]; rfl
          have e3 : (tx o m ++ [58]).length = (tx o m).length + 1 := by rw [List.length_append]; rfl
          rw [e2, e3]; exact hown'
        obtain ⟨hown5, hbel5⟩ := R5
        clear hi hz0 hz1 hz2 hown' hgrow' hn' hown hbel
        have d1 := dig_at5 h hh
        have d2 := dig_at5 l hl
        have hl17 : (tx o m ++ [58]).length ≤ 18 := by rw [List.length_append, tx_len]; simp; omega
        obtain ⟨i0', hi, hz0, hz1, hz2⟩ := HI.out
        have hb2 : Below w.heap.size w (w5.alloc (.cells #[.int .u8 ((hexd h).toNat : Int), .int .u8 ((hexd l).toNat : Int)] 5)).drew := (hbel5.alloc hbel5.size _).drew
        have hown2 : (w5.alloc (.cells #[.int .u8 ((hexd h).toNat : Int), .int .u8 ((hexd l).toNat : Int)] 5)).drew.ownsRow w.heap.size 5 1 v5 (tx o m ++ [58]).length (bv (tx o m ++ [58])) := (hown5.alloc _).drew
        have hnews := two_news w5 ((hexd h).toNat : Int) ((hexd l).toNat : Int)
        go_wp2
        go_region_law (refine step_append_lies _ rfl (.tmp 21) (.tmp 28) 63 rfl w.heap.size 5 i0' (.int .u8 0) 1 1 Tryd.underlying63 hi hz0 hz1 hz2 rfl (by decide) v5 (tx o m ++ [58]).length (bv (tx o m ++ [58])) (by simp [Act.eval]) hown2 ⟨w5.heap.size, 0, none⟩ 2 2 [.int .u8 ((hexd h).toNat : Int), .int .u8 ((hexd l).toNat : Int)] (by simp [Act.eval]) rfl hnews (by intro u hu; simp at hu; rcases hu with rfl | rfl <;> rfl) (by decide) (by unfold maxLen; omega) (by omega) (by have := hbel5.size; simp; omega) _ rfl ?_; intro g cap w1 hown3 hgrow hat hlt3)
        all_goals
          have R : w1.ownsRow w.heap.size 5 1 (.slice (some ⟨g, 0, none⟩) (tx o (m + 1)).length cap) (tx o (m + 1)).length (bv (tx o (m + 1))) ∧ Below w.heap.size w w1 := by
            refine ⟨?_, Below.grown hb2 hgrow hb2.size (fun j hj => (hown2.lt j hj).1)⟩
            have e1 : bv (tx o (m + 1)) = bv (tx o m ++ [58]) ++ [.int .u8 ((hexd h).toNat : Int), .int .u8 ((hexd l).toNat : Int)] := by rw [HN.out, bv, List.map_append]; rfl
            have e2 : (tx o (m + 1)).length = (tx o m ++ [58]).length + 2 := by rw [HN.out, List.length_append]; rfl
            rw [e1, e2]; exact hown3
          have HL : Hid ((tx o (m + 1)).length = (tx o m).length + 1 + 2) := by show _ = _; rw [HN.out, List.length_append, List.length_append]; rfl
          have hlt' := Lib.hid hlt
          clear hi hz0 hz1 hz2 hnews hat hlt3 hown5 hown2 hown3 hgrow hb2 hbel5 d1 d2 hix hdiv hand
          rw [← HL.out]
          go_wp2
          go_roundw
          case rel => exact ⟨m + 1, hlt'.out, by go_num, R.1, R.2⟩
          case measure => have := hlt'.out; simp [intOf]; omega
    · obtain rfl : m = 6 := by omega
      have hc := owns_conv hown (by intro h0; have := congrArg List.length h0; rw [tx_len] at this; simp at this)
      clear hown hbel
      go_wp2
      go_returns
      exact ⟨by rw [HT.out]; rfl, HBW.out⟩
end Go.Proofs.YtkhnhlahfedkhaaDoor
