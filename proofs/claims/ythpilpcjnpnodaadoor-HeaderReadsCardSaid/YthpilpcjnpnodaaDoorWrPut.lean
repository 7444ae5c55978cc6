/-
  WALKS of Writer.Text and Writer.Num.
-/
import Derived.Test.YthpilpcjnpnodaaDoorWrWriter
namespace Go.Proofs.YthpilpcjnpnodaaDoor
open Go.RowKit Go.Wr

theorem Wr.below {w w' : World} {b : Nat} {L : List UInt8} (h : Wr w b L) (hb : Below w.heap.size w w') : Wr w' b L := by
  obtain ⟨p, t, ps, h1, h2, h3⟩ := h
  exact ⟨p, t, ps, h1.of_block (hb.block b h1.lt), h2.but (But.of_below hb (Nat.le_refl _)), h3⟩

set_option maxHeartbeats 400000 in
theorem text_nil (s : ByteArray) (w : World) : Calls Tryd.prog 22 #[.pointer none, .string s] w fun e w' => e = .returned (.tuple #[]) ∧ w = w' := by
  go_enter Tryd.func22, Tryd.ntmps22
  go_wp2
  go_returns
  exact ⟨rfl, rfl⟩

set_option maxHeartbeats 400000 in
theorem text_bad (b : Nat) (e0 : Int) (s : ByteArray) (w : World) (h0 : w.cell? ⟨b, 0, none⟩ = some (.int .i64 e0)) (he : (e0 == 0) = false) :
    Calls Tryd.prog 22 #[.pointer (some ⟨b, 0, none⟩), .string s] w fun e w' => e = .returned (.tuple #[]) ∧ w = w' := by
  go_enter Tryd.func22, Tryd.ntmps22
  go_wp2_with (go_at_call 50; refine (sound_any _ _ _ h0).mono ?_; rintro e w' ⟨rfl, rfl⟩)
  go_returns
  exact ⟨rfl, rfl⟩

set_option maxHeartbeats 400000 in
theorem text_ok (b : Nat) (L : List UInt8) (s : ByteArray) (w : World) (h : Wr w b L) (hs : L.length + s.size ≤ 140737488351232) :
    Calls Tryd.prog 22 #[.pointer (some ⟨b, 0, none⟩), .string s] w fun e w' => e = .returned (.tuple #[]) ∧ Wr w' b (L ++ s.data.toList) ∧ But b w w' := by
  have h0 := h.c0
  have H := Lib.hid h
  have Hs := Lib.hid hs
  clear h hs
  go_enter Tryd.func22, Tryd.ntmps22
  go_wp2_with (first | (go_at_call 50; refine (sound_any _ _ _ h0).mono ?_; rintro e w' ⟨rfl, rfl⟩) | (go_at_call 51; refine (add_any _ _ _ _ H.out Hs.out).mono ?_; rintro e w' ⟨rfl, hr⟩; have HR := Lib.hid hr; clear hr))
  go_returns
  exact ⟨rfl, HR.out⟩

set_option maxHeartbeats 400000 in
theorem put_nil (n k : Int) (w : World) : Calls Tryd.prog 52 #[.pointer none, .int .i64 n, .int .i64 k] w fun e w' => e = .returned (.tuple #[]) ∧ w = w' := by
  go_enter Tryd.func52, Tryd.ntmps52
  go_wp2
  go_returns
  exact ⟨rfl, rfl⟩

set_option maxHeartbeats 400000 in
theorem put_bad (b : Nat) (e0 : Int) (n k : Int) (w : World) (h0 : w.cell? ⟨b, 0, none⟩ = some (.int .i64 e0)) (he : (e0 == 0) = false) :
    Calls Tryd.prog 52 #[.pointer (some ⟨b, 0, none⟩), .int .i64 n, .int .i64 k] w fun e w' => e = .returned (.tuple #[]) ∧ w = w' := by
  go_enter Tryd.func52, Tryd.ntmps52
  go_wp2_with (go_at_call 50; refine (sound_any _ _ _ h0).mono ?_; rintro e w' ⟨rfl, rfl⟩)
  go_returns
  exact ⟨rfl, rfl⟩

set_option maxHeartbeats 400000 in
theorem put_size (b : Nat) (n k : Int) (w : World) (h0 : w.cell? ⟨b, 0, none⟩ = some (.int .i64 0)) (hf : w.frozen? ⟨b, 0, none⟩ = false) (hk : ¬ (1 ≤ k ∧ k ≤ 6)) :
    Calls Tryd.prog 52 #[.pointer (some ⟨b, 0, none⟩), .int .i64 n, .int .i64 k] w fun e w' => e = .returned (.tuple #[]) ∧ w.setCell ⟨b, 0, none⟩ (.int .i64 4) = w' := by
  have Hk := Lib.hid hk
  clear hk
  go_enter Tryd.func52, Tryd.ntmps52
  go_wp2_with (first | (go_at_call 50; refine (sound_any _ _ _ h0).mono ?_; rintro e w' ⟨rfl, rfl⟩) | (go_at_call 71; refine (allows_no _ _ _ Hk.out h0 hf).mono ?_; rintro e w' ⟨rfl, rfl⟩))
  go_returns
  exact ⟨rfl, rfl⟩

set_option maxHeartbeats 400000 in
theorem put_neg (b : Nat) (n : Int) (k : Nat) (w : World) (h0 : w.cell? ⟨b, 0, none⟩ = some (.int .i64 0)) (hf : w.frozen? ⟨b, 0, none⟩ = false) (h1 : 1 ≤ k) (h6 : k ≤ 6) (hn : n < 0) :
    Calls Tryd.prog 52 #[.pointer (some ⟨b, 0, none⟩), .int .i64 n, .int .i64 k] w fun e w' => e = .returned (.tuple #[]) ∧ w.setCell ⟨b, 0, none⟩ (.int .i64 4) = w' := by
  go_enter Tryd.func52, Tryd.ntmps52
  go_wp2_with (first | (go_at_call 50; refine (sound_any _ _ _ h0).mono ?_; rintro e w' ⟨rfl, rfl⟩) | (go_at_call 71; refine (allows_yes _ _ _ (by omega) (by omega)).mono ?_; rintro e w' ⟨rfl, rfl⟩) | (go_at_call 72; refine (record_ok _ _ _ h0 hf).mono ?_; rintro e w' ⟨rfl, rfl⟩))
  go_returns
  exact ⟨rfl, rfl⟩

set_option maxHeartbeats 400000 in
theorem put_big (b : Nat) (n : Nat) (k : Nat) (w : World) (h0 : w.cell? ⟨b, 0, none⟩ = some (.int .i64 0)) (hf : w.frozen? ⟨b, 0, none⟩ = false) (h1 : 1 ≤ k) (h6 : k ≤ 6) (hn : ¬ n < pow k) :
    Calls Tryd.prog 52 #[.pointer (some ⟨b, 0, none⟩), .int .i64 n, .int .i64 k] w fun e w' => e = .returned (.tuple #[]) ∧ w.setCell ⟨b, 0, none⟩ (.int .i64 4) = w' := by
  have hq : (((n : Int) / 2 ^ (8 * k)) != 0) = true := shr_ne hn
  clear hn
  go_enter Tryd.func52, Tryd.ntmps52
  go_wp2_with (first | (go_at_call 50; refine (sound_any _ _ _ h0).mono ?_; rintro e w' ⟨rfl, rfl⟩) | (go_at_call 71; refine (allows_yes _ _ _ (by omega) (by omega)).mono ?_; rintro e w' ⟨rfl, rfl⟩) | (go_at_call 72; refine (record_ok _ _ _ h0 hf).mono ?_; rintro e w' ⟨rfl, rfl⟩))
  go_returns
  exact ⟨rfl, rfl⟩

/-- The array after m octets of n. -/
def arr (n m : Nat) : List Value := (le n m).map (fun x => Value.int .u8 (x.toNat : Int)) ++ List.replicate (6 - m) (Value.int .u8 0)
theorem arr_set (n m : Nat) (h : m < 6) : (arr n m).set m (.int .u8 ((n / pow m % 256 : Nat) : Int)) = arr n (m + 1) := by
  unfold arr
  have hl : ((le n m).map (fun x => Value.int .u8 (x.toNat : Int))).length = m := by rw [List.length_map, le_len]
  rw [List.set_append_right _ _ (by omega), hl, Nat.sub_self, show 6 - m = (6 - (m + 1)) + 1 from by omega, List.replicate_succ, List.set_cons_zero, le, List.map_append, List.append_assoc]
  congr 1
  simp
theorem arr_len (n m : Nat) (h : m ≤ 6) : (arr n m).length = 6 := by unfold arr; rw [List.length_append, List.length_map, le_len, List.length_replicate]; omega
theorem arr_get (n m j : Nat) (h : j < m) : (arr n m)[j]? = some (.int .u8 (((le n m)[j]'(by rw [le_len]; exact h)).toNat : Int)) := by
  unfold arr
  rw [List.getElem?_append_left (by rw [List.length_map, le_len]; exact h), List.getElem?_map, List.getElem?_eq_getElem (by rw [le_len]; exact h)]; rfl

theorem arr_conv {wr : World} {g n m : Nat} (h : Blk wr g 87 (arr n m)) :
    (convert 73 9 (.slice (some ⟨g, 0, none⟩) m 6)).run Tryd.prog wr = .ok (.string ⟨(le n m).toArray⟩) wr := by
  have := run_convert_bytes_back (P := Tryd.prog) wr 73 9 5 ⟨g, 0, none⟩ 6 (le n m) Tryd.underlying73 Tryd.underlying5 Tryd.underlying9 (fun j hj => by
    have e : (⟨g, 0, none⟩ : Addr).add j = ⟨g, j, none⟩ := by unfold Addr.add; split <;> simp_all
    rw [e]
    exact Blk.cell h j _ (arr_get n m j (by rw [le_len] at hj; exact hj)))
  rwa [le_len] at this

theorem len6 : Tryd.prog.arrayLen 87 = 6 := by kernel_rfl
theorem slice6 (g m : Nat) (h : m ≤ 6) (W : World) :
    (Instr.sliceAt 87 (.pointer (some ⟨g, 0, none⟩)) none (some (.int .i64 m)) none).run Tryd.prog W = .ok (.slice (some ⟨g, 0, none⟩) m 6) W := by
  have h0 : (sizeOf (Tryd.prog.elem 87)).run Tryd.prog W = .ok 1 W := by kernel_rfl
  rw [run_sliceAt_array_h W 87 ⟨g, 0, none⟩ (by kernel_rfl) .i64 m (by omega) (by rw [len6]; omega), h0, len6]
  simp [slicedAt, Result.andThen, Addr.add]

set_option maxHeartbeats 1000000 in
theorem put_ok (b : Nat) (L : List UInt8) (n k : Nat) (w : World) (h : Wr w b L) (h1 : 1 ≤ k) (h6 : k ≤ 6) (hn : n < pow k) (hL : L.length ≤ 140737488350000) :
    Calls Tryd.prog 52 #[.pointer (some ⟨b, 0, none⟩), .int .i64 n, .int .i64 k] w fun e w' => e = .returned (.tuple #[]) ∧ Wr w' b (L ++ le n k) ∧ But b w w' := by
  have hq : (((n : Int) / 2 ^ (8 * k)) != 0) = false := shr_eq hn
  have h0 := h.c0
  have H := Lib.hid h
  have HL := Lib.hid hL
  clear h hL hn
  go_enter Tryd.func52, Tryd.ntmps52
  go_wp2_with (first | (go_at_call 50; refine (sound_any _ _ _ h0).mono ?_; rintro e w' ⟨rfl, rfl⟩) | (go_at_call 71; refine (allows_yes _ _ _ (by omega) (by omega)).mono ?_; rintro e w' ⟨rfl, rfl⟩))
  go_loopw [39] (fun i wr => ∃ m : Nat, m ≤ k ∧ i = .int .i64 m ∧ Blk wr w.heap.size 87 (arr n m) ∧ Below w.heap.size w wr) (fun i _ => k - (intOf i).toNat)
  case atStart => exact ⟨0, Nat.zero_le _, rfl, Blk.new _ _ _ _ rfl, (Below.refl _ _).alloc (Nat.le_refl _) _⟩
  case round =>
    obtain ⟨m, hm, rfl, hblk, hbel⟩ := hrel
    by_cases hlt : m < k
    · have HB := Lib.hid hblk
      have HW := Lib.hid hbel
      obtain ⟨v, hv⟩ : ∃ v, (arr n m)[m]? = some v := ⟨_, List.getElem?_eq_getElem (by rw [arr_len _ _ (by omega)]; omega)⟩
      have hc := Blk.cell hblk m v hv
      have hf := Blk.frozen hblk m
      clear hblk hbel hv
      have HS := Lib.hid (arr_set n m (by omega))
      go_wp2
      go_roundw
      case rel =>
        refine ⟨m + 1, by omega, by go_num, ?_, ?_⟩
        · rw [shr_val, ← HS.out]; exact HB.out.set m _
        · exact HW.out.setCell (Nat.le_refl _) _
      case measure => simp [intOf]; omega
    · obtain rfl : m = k := by omega
      have hc := arr_conv hblk
      have hsl := slice6 w.heap.size m h6
      have HB := Lib.hid hblk
      have HW := Lib.hid hbel
      clear hblk hbel
      go_wp2_with (go_at_call 51; refine (add_any _ _ _ _ (H.out.below HW.out) (by have := HL.out; simp [ByteArray.size, le_len]; omega)).mono ?_; rintro e w' ⟨rfl, hr⟩; have HR := Lib.hid hr; clear hr)
      go_returns
      refine ⟨rfl, HR.out.1, (But.of_below HW.out (Nat.le_refl _)).trans HR.out.2⟩
end Go.Proofs.YthpilpcjnpnodaaDoor
