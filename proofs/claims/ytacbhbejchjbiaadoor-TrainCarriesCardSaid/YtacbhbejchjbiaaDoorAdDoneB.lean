/-
  WALKS of the landed functions of layer 5: octets, Write, Read.
-/
import Derived.Test.YtacbhbejchjbiaaDoorAdDoneA
namespace Go.Proofs.YtacbhbejchjbiaaDoor
open Go.RowKit Go.Wr Go.Ad

/-- The array after m octets. -/
def arr5 (a m : Nat) : List Value := ((be a).take m).map (fun x => Value.int .u8 (x.toNat : Int)) ++ List.replicate (6 - m) (Value.int .u8 0)
theorem be_take' (a k : Nat) (h : k < 6) : (be a).take (k + 1) = (be a).take k ++ [UInt8.ofNat (a / 2 ^ (8 * (5 - k)) % 256)] := by
  have hl : k < (be a).length := by rw [be_len]; exact h
  rw [List.take_succ_eq_append_getElem hl, ← be_get a k h]
  simp [List.getD, hl]
theorem arr5_set (a m : Nat) (h : m < 6) : (arr5 a m).set m (.int .u8 ((a / 2 ^ (8 * (5 - m)) % 256 : Nat) : Int)) = arr5 a (m + 1) := by
  unfold arr5
  have hl : (((be a).take m).map (fun x => Value.int .u8 (x.toNat : Int))).length = m := by rw [List.length_map, List.length_take, be_len]; omega
  rw [List.set_append_right _ _ (by omega), hl, Nat.sub_self, show 6 - m = (6 - (m + 1)) + 1 from by omega, List.replicate_succ, List.set_cons_zero, be_take' a m h, List.map_append, List.append_assoc]
  congr 1
  simp
theorem shr_val5 (a k : Nat) : (a : Int) / 2 ^ (8 * (5 - k)) % 256 = ((a / 2 ^ (8 * (5 - k)) % 256 : Nat) : Int) := by
  rw [Int.natCast_emod, Int.natCast_ediv, Int.natCast_pow]; simp only [Int.cast_ofNat_Int]
theorem arr5_len (a m : Nat) (h : m ≤ 6) : (arr5 a m).length = 6 := by unfold arr5; rw [List.length_append, List.length_map, List.length_take, be_len, List.length_replicate]; omega
theorem arr5_six (a : Nat) : arr5 a 6 = (be a).map (fun x => Value.int .u8 (x.toNat : Int)) := by
  unfold arr5
  rw [List.take_of_length_le (by rw [be_len]; exact Nat.le_refl _)]
  simp

theorem be_six (a : Nat) : ∃ a0 a1 a2 a3 a4 a5, be a = [a0, a1, a2, a3, a4, a5] := by
  have hl := be_len a
  match be a, hl with
  | [a0, a1, a2, a3, a4, a5], _ => exact ⟨a0, a1, a2, a3, a4, a5, rfl⟩

set_option maxRecDepth 100000 in
set_option maxHeartbeats 1000000 in
theorem octets5_any (a : Nat) (w : World) (_ : a < 18446744073709551616) :
    Calls Tryd.prog 53 #[.int .u64 a] w fun e w' => e = .returned (.agg ((be a).map (fun x => Value.int .u8 (x.toNat : Int))).toArray) ∧ Below w.heap.size w w' := by
  have HS := Lib.hid (fun m => arr5_set a m)
  have H6 := arr5_six a
  have HL := Lib.hid (arr5_len a)
  obtain ⟨a0, a1, a2, a3, a4, a5, hbe⟩ := be_six a
  rw [hbe] at H6 ⊢
  have H6 := Lib.hid H6
  clear hbe
  go_enter Tryd.func53, Tryd.ntmps53
  go_wp2
  go_loopw [5] (fun i wr => ∃ m : Nat, m ≤ 6 ∧ i = .int .i64 m ∧ Blk wr (w.heap.size + 1) 91 (arr5 a m) ∧ Blk wr w.heap.size 91 (List.replicate 6 (.int .u8 0)) ∧ Below w.heap.size w wr) (fun i _ => 6 - (intOf i).toNat)
  case atStart => 
    refine ⟨0, Nat.zero_le _, rfl, ?_, ?_, ((Below.refl _ _).alloc (Nat.le_refl _) _).alloc (by simp) _⟩
    · exact Blk.new _ _ _ _ (by simp)
    · exact Blk.of_block (Blk.new _ _ _ _ rfl) (Below.heap_alloc _ _ _ (by simp))
  case round =>
    obtain ⟨m, hm, rfl, hblk, hres, hbel⟩ := hrel
    have HB := Lib.hid hblk
    have HW := Lib.hid hbel
    have HR := Lib.hid hres
    clear hres hbel
    by_cases hlt : m < 6
    · obtain ⟨v, hv⟩ : ∃ v, (arr5 a m)[m]? = some v := ⟨_, List.getElem?_eq_getElem (by rw [HL.out _ (by omega)]; omega)⟩
      have hc := Blk.cell hblk m v hv
      have hf := Blk.frozen hblk m
      have hz0 : (0 : Int) ≤ 5 - (m : Int) := by omega
      clear hblk hv
      go_wp2
      go_roundw
      case rel =>
        refine ⟨m + 1, by omega, by go_num, ?_, ?_, ?_⟩
        · rw [← HS.out m hlt, ← shr_val5]; exact HB.out.set m _
        · exact HR.out.setOther (by simp) _
        · exact HW.out.setCell (by simp) _
      case measure => simp [intOf]; omega
    · obtain rfl : m = 6 := by omega
      have hblk' := HB.out
      rw [H6.out] at hblk'
      have c0 := Blk.cell hblk' 0 _ rfl
      have c1 := Blk.cell hblk' 1 _ rfl
      have c2 := Blk.cell hblk' 2 _ rfl
      have c3 := Blk.cell hblk' 3 _ rfl
      have c4 := Blk.cell hblk' 4 _ rfl
      have c5 := Blk.cell hblk' 5 _ rfl
      have d0 := Blk.cell HR.out 0 _ rfl
      have d1 := Blk.cell HR.out 1 _ rfl
      have d2 := Blk.cell HR.out 2 _ rfl
      have d3 := Blk.cell HR.out 3 _ rfl
      have d4 := Blk.cell HR.out 4 _ rfl
      have d5 := Blk.cell HR.out 5 _ rfl
      have f0 := Blk.frozen HR.out 0
      have f1 := Blk.frozen HR.out 1
      have f2 := Blk.frozen HR.out 2
      have f3 := Blk.frozen HR.out 3
      have f4 := Blk.frozen HR.out 4
      have f5 := Blk.frozen HR.out 5
      clear hblk hblk' 
      have HD := Lib.hid ((((((HR.out.set 0 (Value.int .u8 (a0.toNat : Int))).set 1 (Value.int .u8 (a1.toNat : Int))).set 2 (Value.int .u8 (a2.toNat : Int))).set 3 (Value.int .u8 (a3.toNat : Int))).set 4 (Value.int .u8 (a4.toNat : Int))).set 5 (Value.int .u8 (a5.toNat : Int)))
      go_wp2
      have e0 := Blk.cell HD.out 0 _ rfl
      have e1 := Blk.cell HD.out 1 _ rfl
      have e2 := Blk.cell HD.out 2 _ rfl
      have e3 := Blk.cell HD.out 3 _ rfl
      have e4 := Blk.cell HD.out 4 _ rfl
      have e5 := Blk.cell HD.out 5 _ rfl
      refine bodyPost_ret (by simp [results, Tryd.results53, go_sem, e0, e1, e2, e3, e4, e5]; rfl) rfl ?_
      exact ⟨rfl, (((((HW.out.setCell (Nat.le_refl _) _).setCell (Nat.le_refl _) _).setCell (Nat.le_refl _) _).setCell (Nat.le_refl _) _).setCell (Nat.le_refl _) _).setCell (Nat.le_refl _) _⟩

theorem agg_conv {wr : World} {g : Nat} (l : List UInt8) (h : Blk wr g 91 (l.map (fun x => Value.int .u8 (x.toNat : Int)))) (hl : l.length = 6) :
    (convert 39 9 (.slice (some ⟨g, 0, none⟩) 6 6)).run Tryd.prog wr = .ok (.string ⟨l.toArray⟩) wr := by
  have := run_convert_bytes_back (P := Tryd.prog) wr 39 9 5 ⟨g, 0, none⟩ 6 l Tryd.underlying39 Tryd.underlying5 Tryd.underlying9 (fun j hj => by
    have e : (⟨g, 0, none⟩ : Addr).add j = ⟨g, j, none⟩ := by unfold Addr.add; split <;> simp_all
    rw [e]
    exact Blk.cell h j _ (by simp [hj]))
  rwa [hl] at this

theorem six_conv (w1 : World) (a0 a1 a2 a3 a4 a5 : UInt8) :
    (convert 39 9 (.slice (some ⟨w1.heap.size, 0, none⟩) 6 6)).run Tryd.prog (w1.alloc (.cells #[.int .u8 (a0.toNat : Int), .int .u8 (a1.toNat : Int), .int .u8 (a2.toNat : Int), .int .u8 (a3.toNat : Int), .int .u8 (a4.toNat : Int), .int .u8 (a5.toNat : Int)] 91 (0, 0)))
      = .ok (.string ⟨#[a0, a1, a2, a3, a4, a5]⟩) (w1.alloc (.cells #[.int .u8 (a0.toNat : Int), .int .u8 (a1.toNat : Int), .int .u8 (a2.toNat : Int), .int .u8 (a3.toNat : Int), .int .u8 (a4.toNat : Int), .int .u8 (a5.toNat : Int)] 91 (0, 0))) :=
  agg_conv [a0, a1, a2, a3, a4, a5] (Blk.new w1 w1.heap.size 91 _ rfl) rfl

set_option maxRecDepth 100000 in
set_option maxHeartbeats 1000000 in
theorem write_ok (b : Nat) (L : List UInt8) (a : Nat) (w : World) (h : Wr w b L) (ha : a < 281474976710656) (hL : L.length ≤ 140737488350000) :
    Calls Tryd.prog 34 #[.pointer (some ⟨b, 0, none⟩), .int .u64 a] w fun e w' => e = .returned (.tuple #[]) ∧ Wr w' b (L ++ be a) ∧ But b w w' := by
  have F := Lib.hid (fun w => fits_yes a w (by omega))
  have O := Lib.hid (octets5_any a w (by omega))
  have HL := Lib.hid (be_len a)
  have HH := Lib.hid h
  have HLL := Lib.hid hL
  clear h hL
  obtain ⟨a0, a1, a2, a3, a4, a5, hbe⟩ := be_six a
  rw [hbe] at O HL ⊢
  clear hbe
  generalize ((a : Nat) : Int) = z at *
  clear ha
  go_enter Tryd.func34, Tryd.ntmps34
  go_wp2_with (first | (go_at_call 52; refine (F.out _).mono ?_; rintro e w' ⟨rfl, rfl⟩) | (go_at_call 53; refine (O.out).mono ?_; rintro e w1 ⟨rfl, hb⟩; have HB := Lib.hid hb; clear hb; have hc := six_conv w1 a0 a1 a2 a3 a4 a5) | (go_at_call 12; refine (text_ok b L ⟨#[a0, a1, a2, a3, a4, a5]⟩ _ (HH.out.below (HB.out.alloc HB.out.size _)) (by have := HLL.out; show L.length + 6 ≤ _; omega)).mono ?_; rintro e w2 ⟨rfl, hr⟩; have HR := Lib.hid hr; clear hr))
  go_returns
  exact ⟨rfl, HR.out.1, (But.of_below (HB.out.alloc HB.out.size _) (Nat.le_refl _)).trans HR.out.2⟩

set_option maxHeartbeats 1000000 in
theorem write_big (b : Nat) (L : List UInt8) (a : Int) (w : World) (h : Wr w b L) (ha : 281474976710656 ≤ a) :
    Calls Tryd.prog 34 #[.pointer (some ⟨b, 0, none⟩), .int .u64 a] w fun e w' => e = .returned (.tuple #[]) ∧ w'.cell? ⟨b, 0, none⟩ = some (.int .i64 4) ∧ But b w w' := by
  have F := Lib.hid (fun w => fits_no a w (by omega))
  have N := Lib.hid (put_big b 256 1 w h.c0 (h.f 0) (by decide) (by decide) (by decide))
  have HC : Hid ((w.setCell ⟨b, 0, none⟩ (.int .i64 4)).cell? ⟨b, 0, none⟩ = some (.int .i64 4)) := by
    obtain ⟨p, t, ps, hb, -, -⟩ := h
    exact Blk.cell (Blk.set hb 0 _) 0 _ rfl
  clear h ha
  go_enter Tryd.func34, Tryd.ntmps34
  go_wp2_with (first | (go_at_call 52; refine (F.out _).mono ?_; rintro e w' ⟨rfl, rfl⟩) | (go_at_call 32; refine (N.out).mono ?_; rintro e w2 ⟨rfl, rfl⟩))
  go_returns
  exact ⟨rfl, HC.out, But.set1 _ _ _ _⟩

set_option maxHeartbeats 1000000 in
theorem write_nil (a : Nat) (w : World) (ha : a < 18446744073709551616) :
    Calls Tryd.prog 34 #[.pointer none, .int .u64 a] w fun e w' => e = .returned (.tuple #[]) ∧ Below w.heap.size w w' := by
  have O := Lib.hid (octets5_any a w ha)
  obtain ⟨a0, a1, a2, a3, a4, a5, hbe⟩ := be_six a
  rw [hbe] at O
  clear hbe ha
  generalize ((a : Nat) : Int) = z at *
  by_cases h : z < 281474976710656
  · have F := Lib.hid (fun w => fits_yes z w h)
    clear h
    go_enter Tryd.func34, Tryd.ntmps34
    go_wp2_with (first | (go_at_call 52; refine (F.out _).mono ?_; rintro e w' ⟨rfl, rfl⟩) | (go_at_call 53; refine (O.out).mono ?_; rintro e w1 ⟨rfl, hb⟩; have HB := Lib.hid hb; clear hb; have hc := six_conv w1 a0 a1 a2 a3 a4 a5) | (go_at_call 12; refine (text_nil _ _).mono ?_; rintro e w2 ⟨rfl, rfl⟩))
    go_returns
    exact ⟨rfl, HB.out.alloc HB.out.size _⟩
  · have F := Lib.hid (fun w => fits_no z w h)
    clear h
    go_enter Tryd.func34, Tryd.ntmps34
    go_wp2_with (first | (go_at_call 52; refine (F.out _).mono ?_; rintro e w' ⟨rfl, rfl⟩) | (go_at_call 32; refine (put_nil _ _ _).mono ?_; rintro e w2 ⟨rfl, rfl⟩))
    go_returns
    exact ⟨rfl, Below.refl _ _⟩
end Go.Proofs.YtacbhbejchjbiaaDoor
