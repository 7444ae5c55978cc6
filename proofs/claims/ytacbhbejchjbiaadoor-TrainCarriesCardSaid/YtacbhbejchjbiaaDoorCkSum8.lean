/-
  WALK of Sum8 by a table of 16 entries in a package-level variable (64f328e: package checksum).
-/
import Derived.Test.YtacbhbejchjbiaaDoorCkRef
namespace Go.Proofs.YtacbhbejchjbiaaDoor
open Go.RowKit Go.Wr Go.Ck

theorem xor255_u8 {x : Nat} (h : x < 256) : bits .xor .u8 (x : Int) 255 = ((255 - x : Nat) : Int) := by
  have := xor_u8 (b := 255) h (by decide)
  rw [sub_xor255 ⟨x, h⟩]; exact this

set_option maxRecDepth 100000 in
set_option maxHeartbeats 2000000 in
theorem sum8_any (s : ByteArray) (w : World) (hs : s.size ≤ 140737488351232) (ht : ∀ i, i < 16 → w.cell? ⟨1, i, none⟩ = some (.int .u8 (tab8 i : Int))) :
    Calls Tryd.prog 41 #[.string s] w fun e w' => e = .returned (.int .u8 (crc8 s.data.toList : Int)) ∧ w = w' := by
  have HT := Lib.hid ht
  clear ht
  go_enter Tryd.func41, Tryd.ntmps41
  go_wp2
  go_loop [3, 7] (fun x i => ∃ m : Nat, m ≤ s.size ∧ i = .int .i64 m ∧ x = .int .u8 ((reg8 255 (s.data.toList.take m) : Nat) : Int)) (fun _ i => s.size - (intOf i).toNat)
  case atStart => exact ⟨0, Nat.zero_le _, rfl, by rw [List.take_zero]; rfl⟩
  case round =>
    obtain ⟨m, hm, rfl, rfl⟩ := hrel
    by_cases hlt : m < s.size
    · obtain ⟨R, hR⟩ : ∃ R, R = reg8 255 (s.data.toList.take m) := ⟨_, rfl⟩
      have hRl : R < 256 := by rw [hR]; exact reg8_lt (by decide) _
      have HR := Lib.hid hR
      rw [← hR]
      clear hR
      have e0 := xor_u8 hRl (u8_lt8 (s[m]'hlt))
      have hx : R ^^^ (s[m]'hlt).toNat < 256 := xor_lt8 hRl (u8_lt8 _)
      have HG := Lib.hid (show s8n 4 (s8n 4 (R ^^^ (s[m]'hlt).toNat)) = oc8 R (s[m]'hlt).toNat from (s8n_add 4 4 _).symm)
      generalize R ^^^ (s[m]'hlt).toNat = x at e0 hx HG
      have b0 := nib_u8 hx
      have c0 := HT.out (x / 16) (by omega)
      have hy : s8n 4 x < 256 := s8n_lt 4 hx
      generalize s8n 4 x = y at b0 hy HG
      have b1 := nib_u8 hy
      have c1 := HT.out (y / 16) (by omega)
      generalize s8n 4 y = z at b1 HG
      go_wp2
      go_round
      case rel => exact ⟨m + 1, by omega, by go_num, by rw [reg8_take _ _ _ hlt, ← HR.out, ← HG.out]⟩
      case measure => simp [intOf]; omega
    · obtain rfl : m = s.size := by omega
      have hl : s.data.toList.take s.size = s.data.toList := List.take_of_length_le (by rw [Array.length_toList]; exact Nat.le_refl _)
      have hx := xor255_u8 (reg8_lt (show 255 < 256 by decide) (s.data.toList.take s.size))
      have HX : Hid (bits .xor .u8 ((reg8 255 (s.data.toList.take s.size) : Nat) : Int) 255 = ((crc8 s.data.toList : Nat) : Int)) := by rw [hl] at hx ⊢; exact hx
      clear hx hl
      go_wp2
      go_returns
      exact ⟨congrArg (fun z : Int => Ending.returned (.int .u8 z)) HX.out, rfl⟩
end Go.Proofs.YtacbhbejchjbiaaDoor
