/-
  WALKS of the landed functions of layer 5: Read.
-/
import Derived.Test.YtacbhbejchjbiaaDoorAdDoneB
import Derived.Lib.ConvBytes
import Derived.Lib.AtoiErrMem
namespace Go.Proofs.YtacbhbejchjbiaaDoor
open Go.RowKit Go.Wr Go.Ad

theorem or_low (k y x : Nat) (hx : x < 2 ^ k) (hy : y * 2 ^ k + x < 18446744073709551616) : bits .or .u64 ((y * 2 ^ k : Nat) : Int) (x : Int) = ((y * 2 ^ k + x : Nat) : Int) := by
  have e : y * 2 ^ k ||| x = y * 2 ^ k + x := by rw [Nat.mul_comm, ← Nat.two_pow_add_eq_or_of_lt hx]
  show IntKind.u64.wrap ((BitVec.ofInt 64 ((y * 2 ^ k : Nat) : Int) ||| BitVec.ofInt 64 (x : Int)).toNat : Int) = _
  rw [BitVec.toNat_or, ofInt_u64 (y * 2 ^ k) (by omega), ofInt_u64 x (by omega), e]
  exact IntWalk.u64_in _ (by omega)
theorem or_low8 (y x : Nat) (hx : x < 256) (hy : y < 1099511627776) : bits .or .u64 ((y : Int) * 256) (x : Int) = ((y * 256 + x : Nat) : Int) := by
  have := or_low 8 y x hx (by omega)
  simpa using this
theorem or_low4 (y x : Nat) (hx : x < 16) (hy : y < 281474976710656) : bits .or .u64 ((y : Int) * 16) (x : Int) = ((y * 16 + x : Nat) : Int) := by
  have := or_low 4 y x hx (by omega)
  simpa using this
theorem conv5 (w : World) (s : ByteArray) : (convert 9 39 (.string s)).run Tryd.prog w = .ok (.slice (some ⟨w.heap.size, 0, none⟩) s.size (grownCap w s.size 0 5)) (Lib.bytesWorld w 5 s) :=
  Lib.run_convert_string_bytes w 9 39 5 s Tryd.underlying9 Tryd.underlying39 Tryd.underlying5

set_option maxRecDepth 100000 in
set_option maxHeartbeats 1000000 in
theorem read_via (p : Value) (l : ByteArray) (w : World) (P : World → Prop) (hl : l.size ≤ 6)
    (hT : Calls Tryd.prog 42 #[p, .int .i64 6] w fun e w' => e = .returned (.string l) ∧ P w') :
    Calls Tryd.prog 56 #[p] w fun e w' => e = .returned (.int .u64 (bev l.data.toList : Nat)) ∧ ∃ w1, P w1 ∧ Below w1.heap.size w1 w' := by
  have HT := Lib.hid hT
  clear hT
  go_enter Tryd.func56, Tryd.ntmps56
  go_wp2_with (go_at_call 42; refine HT.out.mono ?_; rintro e w1 ⟨rfl, hp⟩; have HP := Lib.hid hp; clear hp; have hcv := conv5 w1 l)
  have hcell := fun j hj => Lib.bytesWorld_cell w1 5 l j hj
  have hbw := Lib.bytesWorld_below w1 5 l
  generalize Lib.bytesWorld w1 5 l = w2 at *
  have HB := Lib.hid hbw
  have hl' : l.data.toList.length = l.size := Array.length_toList
  have HL := Lib.hid hl'
  have HC := Lib.hid hcell
  clear hcell hbw hl'
  go_loop [3, 10] (fun x i => ∃ m : Nat, m ≤ l.size ∧ i = .int .i64 m ∧ x = .int .u64 ((bev (l.data.toList.take m) : Nat) : Int)) (fun _ i => l.size - (intOf i).toNat)
  case atStart => exact ⟨0, Nat.zero_le _, rfl, by rw [List.take_zero]; rfl⟩
  case round =>
    obtain ⟨m, hm, rfl, rfl⟩ := hrel
    by_cases hlt : m < l.size
    · have hT := bev_take l.data.toList m (by rw [HL.out]; exact hlt)
      have hb : bev (l.data.toList.take m) < 1099511627776 := by
        have := bev_lt (l.data.toList.take m)
        have hl : (l.data.toList.take m).length ≤ 5 := by rw [List.length_take]; omega
        exact Nat.lt_of_lt_of_le this (Nat.le_trans (Nat.pow_le_pow_right (by decide) hl) (by decide))
      have hx := (l[m]'hlt).toNat_lt
      have he : (l.data.toList[m]'(by rw [HL.out]; exact hlt)).toNat = (l[m]'hlt).toNat := by rw [Array.getElem_toList]; rfl
      have hc := HC.out m hlt
      have he2 : l.data.toList.getD m 0 = l.data.toList[m]'(by rw [HL.out]; exact hlt) := by simp [List.getD, HL.out, hlt]
      rw [he2, he] at hc
      rw [he] at hT
      have HTT := Lib.hid hT
      generalize bev (l.data.toList.take m) = y at hb HTT ⊢
      generalize (l[m]'hlt).toNat = x at *
      clear hT he he2
      go_wp2
      rw [or_low8 y x hx hb, ← HTT.out]
      go_round
      case rel => exact ⟨m + 1, by omega, by go_num, rfl⟩
      case measure => simp [intOf]; omega
    · obtain rfl : m = l.size := by omega
      have hl : l.data.toList.take l.size = l.data.toList := List.take_of_length_le (by rw [HL.out]; exact Nat.le_refl _)
      rw [hl]
      go_wp2
      go_returns
      exact ⟨rfl, _, HP.out, HB.out⟩

theorem read_nil (w : World) :
    Calls Tryd.prog 56 #[.pointer none] w fun e w' => e = .returned (.int .u64 0) ∧ Below w.heap.size w w' := by
  refine (read_via (.pointer none) ⟨#[]⟩ w (fun w' => w = w') (by decide) (take_nil 6 w)).mono ?_
  rintro e w' ⟨rfl, w1, rfl, h⟩
  exact ⟨rfl, h⟩
theorem read_short (b : Nat) (s : ByteArray) (w : World) (h : Rd w b 0 s) (hs : s.size < 6) :
    Calls Tryd.prog 56 #[.pointer (some ⟨b, 0, none⟩)] w fun e w' => e = .returned (.int .u64 0) ∧ w'.cell? ⟨b, 0, none⟩ = some (.int .i64 1) ∧ But b w w' := by
  refine (read_via _ ⟨#[]⟩ w _ (by decide) (take_short b s 6 w h (by omega))).mono ?_
  rintro e w' ⟨rfl, w1, rfl, hb⟩
  have hr : Rd w' b 1 s := Blk.of_block (Rd.setE h 1) (hb.block b (Rd.setE h 1).lt)
  exact ⟨rfl, hr.c0, (But.set1 b 0 w _).trans (But.of_below hb (Nat.le_refl _))⟩
theorem read_ok (b : Nat) (s : ByteArray) (w : World) (h : Rd w b 0 s) (hs : 6 ≤ s.size) :
    Calls Tryd.prog 56 #[.pointer (some ⟨b, 0, none⟩)] w fun e w' => e = .returned (.int .u64 (bev (s.extract 0 6).data.toList : Nat)) ∧ Rd w' b 0 (s.extract 6 s.size) ∧ But b w w' := by
  refine (read_via _ (s.extract 0 6) w _ (by simp; omega) (take_ok b s 6 w h hs)).mono ?_
  rintro e w' ⟨rfl, w1, rfl, hb⟩
  have hr : Rd w' b 0 (s.extract 6 s.size) := Blk.of_block (Rd.setS h _) (hb.block b (Rd.setS h _).lt)
  exact ⟨rfl, hr, (But.set1 b 1 w _).trans (But.of_below hb (Nat.le_refl _))⟩
end Go.Proofs.YtacbhbejchjbiaaDoor
