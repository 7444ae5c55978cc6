/-
  WALKS of the reference of layer 3: Add32, Sum32, Sum8, Last, Seal, Open.
-/
import Derived.Test.YtkhnhlahfedkhaaDoorRows
import Derived.Test.YtkhnhlahfedkhaaDoorCkMath
import Derived.WalkKit
import Derived.WalkSpells
import Derived.WalkLawsBesides
import Derived.Deep.QuietTactic
import Derived.BigQuiet
import Derived.Lib.Hide
import Derived.Handy
import Derived.Laws.Concat
import Derived.Laws.IdiomStrings
import Derived.Deep.RegionWith
namespace Go.Proofs.YtkhnhlahfedkhaaDoor
open Go.RowKit Go.Wr Go.Ck

set_option maxHeartbeats 2000000 in
theorem refAdd_any (n : Nat) (s : ByteArray) (w : World) (hn : n < 4294967296) (hs : s.size ≤ 140737488351232) :
    Calls Tryd.prog 92 #[.int .u32 n, .string s] w fun e w' => e = .returned (.int .u32 ((reg (n ^^^ ones) s.data.toList ^^^ ones : Nat) : Int)) ∧ w = w' := by
  have e1 : bits .xor .u32 (n : Int) 4294967295 = ((n ^^^ ones : Nat) : Int) := u32_xor_nat n 4294967295 hn (by decide)
  go_enter Tryd.func92, Tryd.ntmps92
  go_wp2
  go_loop [5, 6] (fun x i => ∃ m : Nat, m ≤ s.size ∧ i = .int .i64 m ∧ x = .int .u32 ((reg (n ^^^ ones) (s.data.toList.take m) : Nat) : Int)) (fun _ i => s.size - (intOf i).toNat)
  case atStart => exact ⟨0, Nat.zero_le _, rfl, by rw [List.take_zero]; rfl⟩
  case round =>
    obtain ⟨m, hm, rfl, rfl⟩ := hrel
    by_cases hlt : m < s.size
    · obtain ⟨R, hR⟩ : ∃ R, R = reg (n ^^^ ones) (s.data.toList.take m) := ⟨_, rfl⟩
      have hRl : R < 4294967296 := by rw [hR]; exact reg_lt (Nat.xor_lt_two_pow (n := 32) hn ones_lt) _
      have HR := Lib.hid hR
      rw [← hR]
      clear hR
      go_wp2
      go_loop [5, 7] (fun x i => ∃ k : Nat, k ≤ 8 ∧ i = .int .i64 k ∧ x = .int .u32 ((stn k (R ^^^ (s[m]'hlt).toNat) : Nat) : Int)) (fun _ i => 8 - (intOf i).toNat)
      case atStart => exact ⟨0, by omega, rfl, by rw [xor_oct _ hRl]; rfl⟩
      case round =>
        obtain ⟨k, hk, rfl, rfl⟩ := hrel
        by_cases hl : k < 8
        · have HS := Lib.hid (stn_succ k (R ^^^ (s[m]'hlt).toNat))
          have hx : stn k (R ^^^ (s[m]'hlt).toNat) < 4294967296 := stn_lt k (Nat.xor_lt_two_pow (n := 32) hRl (u8_lt _))
          generalize stn k (R ^^^ (s[m]'hlt).toNat) = x at hx HS ⊢
          by_cases ho : x % 2 = 1
          · have hb := odd_u32 hx ho
            have HV := Lib.hid (st_odd hx ho)
            clear ho
            go_wp2
            go_round
            case rel => exact ⟨k + 1, by omega, by go_num, by rw [HS.out, HV.out]⟩
            case measure => simp [intOf]; omega
          · have hb := even_u32 hx ho
            have HV := Lib.hid (st_even ho)
            clear ho
            go_wp2
            go_round
            case rel => exact ⟨k + 1, by omega, by go_num, by rw [HS.out, HV.out]⟩
            case measure => simp [intOf]; omega
        · obtain rfl : k = 8 := by omega
          go_wp2
          go_round
          case rel => exact ⟨m + 1, by omega, by go_num, by rw [reg_take _ _ _ hlt, ← HR.out]; rfl⟩
          case measure => simp [intOf]; omega
    · obtain rfl : m = s.size := by omega
      have hl : s.data.toList.take s.size = s.data.toList := List.take_of_length_le (by rw [Array.length_toList]; exact Nat.le_refl _)
      have hx := xor_u32 (reg_lt (Nat.xor_lt_two_pow (n := 32) hn ones_lt) (s.data.toList.take s.size)) ones_lt
      have HX : Hid (bits .xor .u32 ((reg (n ^^^ ones) (s.data.toList.take s.size) : Nat) : Int) 4294967295 = ((reg (n ^^^ ones) s.data.toList ^^^ ones : Nat) : Int)) := by rw [hl] at hx ⊢; exact hx
      clear hx hl
      go_wp2
      go_returns
      exact ⟨congrArg (fun z : Int => Ending.returned (.int .u32 z)) HX.out, rfl⟩

set_option maxHeartbeats 400000 in
theorem refSum32_any (s : ByteArray) (w : World) (hs : s.size ≤ 140737488351232) :
    Calls Tryd.prog 64 #[.string s] w fun e w' => e = .returned (.int .u32 (crc s.data.toList : Int)) ∧ w = w' := by
  have h := fun w => refAdd_any 0 s w (by decide) hs
  rw [Nat.zero_xor] at h
  have H : Hid (∀ w, Calls Tryd.prog 92 #[.int .u32 0, .string s] w fun e w' => e = .returned (.int .u32 (crc s.data.toList : Int)) ∧ w = w') := h
  clear h
  go_enter Tryd.func64, Tryd.ntmps64
  go_wp2_with (go_at_call 92; refine (H.out _).mono ?_; rintro e w' ⟨rfl, rfl⟩)
  go_returns
  exact ⟨rfl, rfl⟩

theorem le4 (n : Nat) : le n 4 = [UInt8.ofNat (n % 256), UInt8.ofNat (n / 256 % 256), UInt8.ofNat (n / 65536 % 256), UInt8.ofNat (n / 16777216 % 256)] := by
  simp [le, pow]

theorem last_conv (n : Nat) (hn : n < 4294967296) (g : Nat) (W : World) (h0 : W.cell? ⟨g, 0, none⟩ = some (.int .u8 ((n : Int) % 256))) (h1 : W.cell? ⟨g, 1, none⟩ = some (.int .u8 ((n : Int) / 256 % 256)))
    (h2 : W.cell? ⟨g, 2, none⟩ = some (.int .u8 ((n : Int) / 65536 % 256))) (h3 : W.cell? ⟨g, 3, none⟩ = some (.int .u8 ((n : Int) / 16777216))) :
    (convert 63 9 (.slice (some ⟨g, 0, none⟩) 4 4)).run Tryd.prog W = .ok (.string ⟨(le n 4).toArray⟩) W := by
  have := run_convert_bytes_back (P := Tryd.prog) W 63 9 5 ⟨g, 0, none⟩ 4 (le n 4) Tryd.underlying63 Tryd.underlying5 Tryd.underlying9 (fun j hj => by
    have hj4 : j < 4 := by rw [le_len] at hj; exact hj
    have e : (⟨g, 0, none⟩ : Addr).add j = ⟨g, j, none⟩ := by unfold Addr.add; split <;> simp_all
    rw [e]
    match j, hj4 with
    | 0, _ => rw [h0]; simp [le4]
    | 1, _ => rw [h1]; simp [le4]
    | 2, _ => rw [h2]; simp [le4]
    | 3, _ => rw [h3]; simp [le4]; omega)
  rwa [le_len] at this

set_option maxRecDepth 100000 in
set_option maxHeartbeats 2000000 in
theorem refLast_any (n : Nat) (w : World) (hn : n < 4294967296) :
    Calls Tryd.prog 63 #[.int .u32 n] w fun e w' => e = .returned (.string ⟨(le n 4).toArray⟩) ∧ Below w.heap.size w w' := by
  have a0 : bits .and .u32 (n : Int) 255 = (n : Int) % 256 := and255_u32 hn
  have a1 : bits .and .u32 ((n : Int) / 256) 255 = (n : Int) / 256 % 256 := and255_u32 (x := n / 256) (by omega)
  have a2 : bits .and .u32 ((n : Int) / 65536) 255 = (n : Int) / 65536 % 256 := and255_u32 (x := n / 65536) (by omega)
  have hcv := last_conv n hn w.heap.size (w.alloc (.cells #[.int .u8 ((n : Int) % 256), .int .u8 ((n : Int) / 256 % 256), .int .u8 ((n : Int) / 65536 % 256), .int .u8 ((n : Int) / 16777216)] 5)) (by simp) (by simp) (by simp) (by simp)
  go_enter Tryd.func63, Tryd.ntmps63
  go_wp2
  go_returns
  exact ⟨rfl, (Below.refl _ _).alloc (Nat.le_refl _) _⟩

/-! Seal, Open -/
theorem str_snoc (s : ByteArray) (l : List UInt8) : s ++ ⟨l.toArray⟩ = ⟨(s.data.toList ++ l).toArray⟩ := by apply ByteArray.ext; simp

set_option maxHeartbeats 400000 in
theorem refSeal_any (s : ByteArray) (w : World) (hs : s.size ≤ 140737488351232) :
    Calls Tryd.prog 23 #[.string s] w fun e w' => e = .returned (.string ⟨(s.data.toList ++ le (crc s.data.toList) 4).toArray⟩) ∧ Below w.heap.size w w' := by
  have hadd : ∀ W, (Op.stringOp .add s ⟨(le (crc s.data.toList) 4).toArray⟩).run Tryd.prog W = .ok (.string ⟨(s.data.toList ++ le (crc s.data.toList) 4).toArray⟩) W := fun W => by
    rw [← str_snoc]
    refine run_string_add_sum (P := Tryd.prog) W s _ ?_
    show s.size + (le (crc s.data.toList) 4).toArray.size ≤ _
    rw [List.size_toArray, le_len]; omega
  have HS : Hid (∀ W, Calls Tryd.prog 64 #[.string s] W fun e w' => e = .returned (.int .u32 (crc s.data.toList : Int)) ∧ W = w') := fun W => refSum32_any s W hs
  have HL : Hid (∀ W, Calls Tryd.prog 63 #[.int .u32 (crc s.data.toList : Int)] W fun e w' => e = .returned (.string ⟨(le (crc s.data.toList) 4).toArray⟩) ∧ Below W.heap.size W w') := fun W => refLast_any _ W (crc_lt _)
  go_enter Tryd.func23, Tryd.ntmps23
  go_wp2_with (first | (go_at_call 64; refine (HS.out _).mono ?_; rintro e w' ⟨rfl, rfl⟩) | (go_at_call 63; refine (HL.out _).mono ?_; rintro e w1 ⟨rfl, hb⟩))
  go_returns
  exact ⟨rfl, hb⟩

set_option maxHeartbeats 400000 in
theorem refOpen_short (s : ByteArray) (w : World) (hs : s.size < 4) :
    Calls Tryd.prog 42 #[.string s] w fun e w' => e = .returned (.tuple #[.string ⟨#[]⟩, .int .i64 1]) ∧ Below w.heap.size w w' := by
  have h : (s.size : Int) < 4 := by omega
  clear hs
  go_enter Tryd.func42, Tryd.ntmps42
  go_wp2
  go_returns
  exact ⟨rfl, Below.refl _ _⟩

theorem sliceFrom (s : ByteArray) (n : Nat) (h : n ≤ s.size) (W : World) : (Instr.slice 9 (.string s) (some (.int .i64 n)) none none).run Tryd.prog W = .ok (.string (s.extract n s.size)) W := by
  rw [run_slice_string_from_if W 9 s .i64 n Tryd.underlying9, if_pos (by omega)]; simp
theorem sliceTo (s : ByteArray) (n : Nat) (h : n ≤ s.size) (W : World) : (Instr.slice 9 (.string s) none (some (.int .i64 n)) none).run Tryd.prog W = .ok (.string (s.extract 0 n)) W := by
  rw [run_slice_string_to_if W 9 s .i64 n Tryd.underlying9, if_pos (by omega)]; simp

set_option maxRecDepth 100000 in
set_option maxHeartbeats 2000000 in
theorem refOpen_long (s : ByteArray) (n : Nat) (b : Bool) (w : World) (hn : s.size = n + 4) (hs : s.size ≤ 140737488351232)
    (hb : ((s.extract n s.size).toList == (⟨(le (crc (s.extract 0 n).data.toList) 4).toArray⟩ : ByteArray).toList) = b) :
    Calls Tryd.prog 42 #[.string s] w fun e w' => e = .returned (.tuple #[.string (if b then s.extract 0 n else ⟨#[]⟩), .int .i64 (if b then 0 else 5)]) ∧ Below w.heap.size w w' := by
  have h4 : ¬ (s.size : Int) < 4 := by omega
  have hsz : (s.size : Int) - 4 = n := by omega
  have hle : (n : Int) ≤ s.size := by omega
  have hw64 : wrap64 (n : Int) = n := IntWalk.wrap64_in _ (by omega)
  have hsl1 := sliceFrom s n (by omega)
  have hsl2 := sliceTo s n (by omega)
  have hU : (s.extract 0 n).size ≤ 140737488351232 := by simp; omega
  obtain ⟨U, hUe⟩ : ∃ U, U = s.extract 0 n := ⟨_, rfl⟩
  rw [← hUe] at hb hU ⊢
  have HS : Hid (∀ W, Calls Tryd.prog 64 #[.string (s.extract 0 n)] W fun e w' => e = .returned (.int .u32 (crc U.data.toList : Int)) ∧ W = w') := fun W => by rw [← hUe]; exact refSum32_any U W hU
  have HL : Hid (∀ W, Calls Tryd.prog 63 #[.int .u32 (crc U.data.toList : Int)] W fun e w' => e = .returned (.string ⟨(le (crc U.data.toList) 4).toArray⟩) ∧ Below W.heap.size W w') := fun W => refLast_any _ W (crc_lt _)
  have HU := Lib.hid hUe
  generalize crc U.data.toList = c at hb HS HL
  generalize (⟨(le c 4).toArray⟩ : ByteArray) = V at hb HL
  clear hn hs hU hUe
  go_enter Tryd.func42, Tryd.ntmps42
  cases b
  all_goals
    go_wp2
    go_region_with (first | (go_at_call 64; refine (HS.out _).mono ?_; rintro e w' ⟨rfl, rfl⟩) | (go_at_call 63; refine (HL.out _).mono ?_; rintro e w1 ⟨rfl, hb1⟩))
    all_goals
      have hbw : Below w.heap.size w w1 := (Below.refl _ _).drew.trans hb1
      clear hb1
      go_wp2
      go_returns
      exact ⟨by first | rfl | (rw [HU.out]; rfl), hbw⟩
end Go.Proofs.YtkhnhlahfedkhaaDoor
