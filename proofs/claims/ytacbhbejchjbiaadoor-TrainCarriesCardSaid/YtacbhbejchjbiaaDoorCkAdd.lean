/-
  WALK of Add32 by a table of 16 entries in a package-level variable (64f328e: package checksum).
-/
import Derived.Test.YtacbhbejchjbiaaDoorCkRef
namespace Go.Proofs.YtacbhbejchjbiaaDoor
open Go.RowKit Go.Wr Go.Ck

set_option maxRecDepth 100000 in
set_option maxHeartbeats 2000000 in
theorem add32_any (n : Nat) (s : ByteArray) (w : World) (hn : n < 4294967296) (hs : s.size ≤ 140737488351232) (ht : ∀ i, i < 16 → w.cell? ⟨2, i, none⟩ = some (.int .u32 (tab i : Int))) :
    Calls Tryd.prog 57 #[.int .u32 n, .string s] w fun e w' => e = .returned (.int .u32 ((reg (n ^^^ ones) s.data.toList ^^^ ones : Nat) : Int)) ∧ w = w' := by
  have HT := Lib.hid ht
  clear ht
  have hn0 : bits .xor .u32 (n : Int) 4294967295 = ((n ^^^ ones : Nat) : Int) := u32_xor_nat n 4294967295 hn (by decide)
  go_enter Tryd.func57, Tryd.ntmps57
  go_wp2
  go_loop [5, 11] (fun x i => ∃ m : Nat, m ≤ s.size ∧ i = .int .i64 m ∧ x = .int .u32 ((reg (n ^^^ ones) (s.data.toList.take m) : Nat) : Int)) (fun _ i => s.size - (intOf i).toNat)
  case atStart => exact ⟨0, Nat.zero_le _, rfl, by rw [List.take_zero]; rfl⟩
  case round =>
    obtain ⟨m, hm, rfl, rfl⟩ := hrel
    by_cases hlt : m < s.size
    · obtain ⟨R, hR⟩ : ∃ R, R = reg (n ^^^ ones) (s.data.toList.take m) := ⟨_, rfl⟩
      have hRl : R < 4294967296 := by rw [hR]; exact reg_lt (Nat.xor_lt_two_pow (n := 32) hn ones_lt) _
      have HR := Lib.hid hR
      rw [← hR]
      clear hR
      have e0 := xor_oct (s[m]'hlt) hRl
      have hx : R ^^^ (s[m]'hlt).toNat < 4294967296 := Nat.xor_lt_two_pow (n := 32) hRl (u8_lt _)
      have HG := Lib.hid (show stn 4 (stn 4 (R ^^^ (s[m]'hlt).toNat)) = oc R (s[m]'hlt).toNat from (stn_add 4 4 _).symm)
      generalize R ^^^ (s[m]'hlt).toNat = x at e0 hx HG
      have a0 := and15_u32 hx
      have b0 := nib_u32 hx
      have c0 := HT.out (x % 16) (Nat.mod_lt _ (by decide))
      have hy : stn 4 x < 4294967296 := stn_lt 4 hx
      generalize stn 4 x = y at b0 hy HG
      have a1 := and15_u32 hy
      have b1 := nib_u32 hy
      have c1 := HT.out (y % 16) (Nat.mod_lt _ (by decide))
      generalize stn 4 y = z at b1 HG
      go_wp2
      go_round
      case rel => exact ⟨m + 1, by omega, by go_num, by rw [reg_take _ _ _ hlt, ← HR.out, ← HG.out]⟩
      case measure => simp [intOf]; omega
    · obtain rfl : m = s.size := by omega
      have hl : s.data.toList.take s.size = s.data.toList := List.take_of_length_le (by rw [Array.length_toList]; exact Nat.le_refl _)
      have hx := xor_u32 (reg_lt (Nat.xor_lt_two_pow (n := 32) hn ones_lt) (s.data.toList.take s.size)) ones_lt
      have HX : Hid (bits .xor .u32 ((reg (n ^^^ ones) (s.data.toList.take s.size) : Nat) : Int) 4294967295 = ((reg (n ^^^ ones) s.data.toList ^^^ ones : Nat) : Int)) := by rw [hl] at hx ⊢; exact hx
      clear hx hl
      go_wp2
      go_returns
      exact ⟨congrArg (fun z : Int => Ending.returned (.int .u32 z)) HX.out, rfl⟩
end Go.Proofs.YtacbhbejchjbiaaDoor
