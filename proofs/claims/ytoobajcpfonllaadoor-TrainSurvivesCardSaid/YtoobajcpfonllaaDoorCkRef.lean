/-
  WALKS of the reference of layer 3: Add32, Sum32, Sum8, Last, Seal, Open.
-/
import Derived.Test.YtoobajcpfonllaaDoorRows
import Derived.Test.YtoobajcpfonllaaDoorCkMath
import Derived.WalkKit
import Derived.WalkSpells
import Derived.WalkLawsBesides
import Derived.Deep.QuietTactic
import Derived.BigQuiet
import Derived.Lib.Hide
import Derived.Handy
import Derived.Laws.Concat
import Derived.Laws.IdiomStrings
import Derived.Deep.RegionWith
namespace Go.Proofs.YtoobajcpfonllaaDoor
open Go.RowKit Go.Wr Go.Ck

set_option maxRecDepth 100000 in
set_option maxHeartbeats 2000000 in
theorem refSum8_any (s : ByteArray) (w : World) (hs : s.size ≤ 140737488351232) :
    Calls Tryd.prog 28 #[.string s] w fun e w' => e = .returned (.int .u8 (crc8 s.data.toList : Int)) ∧ w = w' := by
  go_enter Tryd.func28, Tryd.ntmps28
  go_wp2
  go_loop [3, 4] (fun x i => ∃ m : Nat, m ≤ s.size ∧ i = .int .i64 m ∧ x = .int .i64 ((reg8 255 (s.data.toList.take m) : Nat) : Int)) (fun _ i => s.size - (intOf i).toNat)
  case atStart => exact ⟨0, Nat.zero_le _, rfl, by rw [List.take_zero]; rfl⟩
  case round =>
    obtain ⟨m, hm, rfl, rfl⟩ := hrel
    by_cases hlt : m < s.size
    · obtain ⟨R, hR⟩ : ∃ R, R = reg8 255 (s.data.toList.take m) := ⟨_, rfl⟩
      have hRl : R < 256 := by rw [hR]; exact reg8_lt (by decide) _
      have HR := Lib.hid hR
      rw [← hR]
      clear hR
      go_wp2
      go_loop [3, 5] (fun x i => ∃ k : Nat, k ≤ 8 ∧ i = .int .i64 k ∧ x = .int .i64 ((s8n k (R ^^^ (s[m]'hlt).toNat) : Nat) : Int)) (fun _ i => 8 - (intOf i).toNat)
      case atStart => exact ⟨0, by omega, rfl, by rw [xor_oct8 _ hRl]; rfl⟩
      case round =>
        obtain ⟨k, hk, rfl, rfl⟩ := hrel
        by_cases hl : k < 8
        · have HS := Lib.hid (s8n_succ k (R ^^^ (s[m]'hlt).toNat))
          have hx : s8n k (R ^^^ (s[m]'hlt).toNat) < 256 := s8n_lt k (xor_lt8 hRl (u8_lt8 _))
          generalize s8n k (R ^^^ (s[m]'hlt).toNat) = x at hx HS ⊢
          have hw2 : IntKind.i64.wrap (2 * (x : Int)) = 2 * x := IntWalk.i64_in _ (by omega)
          by_cases hb : 256 ≤ 2 * x
          · have hb' : (256 : Int) ≤ 2 * x := by omega
            have hw3 : IntKind.i64.wrap (2 * (x : Int) - 256) = 2 * x - 256 := IntWalk.i64_in _ (by omega)
            have HV := Lib.hid (s8_big hx hb)
            clear hb
            go_wp2
            go_round
            case rel => exact ⟨k + 1, by omega, by go_num, by rw [HS.out, HV.out]⟩
            case measure => simp [intOf]; omega
          · have hb' : ¬ (256 : Int) ≤ 2 * x := by omega
            have HV := Lib.hid (s8_small hb)
            clear hb
            go_wp2
            go_round
            case rel => exact ⟨k + 1, by omega, by go_num, by rw [HS.out, HV.out]⟩
            case measure => simp [intOf]; omega
        · obtain rfl : k = 8 := by omega
          go_wp2
          go_round
          case rel => exact ⟨m + 1, by omega, by go_num, by rw [reg8_take _ _ _ hlt, ← HR.out]; rfl⟩
          case measure => simp [intOf]; omega
    · obtain rfl : m = s.size := by omega
      have hl : s.data.toList.take s.size = s.data.toList := List.take_of_length_le (by rw [Array.length_toList]; exact Nat.le_refl _)
      have HX : Hid (wrap64 (255 - ((reg8 255 (s.data.toList.take s.size) : Nat) : Int)) % 256 = ((crc8 s.data.toList : Nat) : Int)) := by rw [hl]; exact crc8_walk (reg8_lt (by decide) _)
      clear hl
      go_wp2
      go_returns
      exact ⟨congrArg (fun z : Int => Ending.returned (.int .u8 z)) HX.out, rfl⟩

theorem le4 (n : Nat) : le n 4 = [UInt8.ofNat (n % 256), UInt8.ofNat (n / 256 % 256), UInt8.ofNat (n / 65536 % 256), UInt8.ofNat (n / 16777216 % 256)] := by
  simp [le, pow]

theorem last_conv (n : Nat) (hn : n < 4294967296) (g : Nat) (W : World) (h0 : W.cell? ⟨g, 0, none⟩ = some (.int .u8 ((n : Int) % 256))) (h1 : W.cell? ⟨g, 1, none⟩ = some (.int .u8 ((n : Int) / 256 % 256)))
    (h2 : W.cell? ⟨g, 2, none⟩ = some (.int .u8 ((n : Int) / 65536 % 256))) (h3 : W.cell? ⟨g, 3, none⟩ = some (.int .u8 ((n : Int) / 16777216))) :
    (convert 32 9 (.slice (some ⟨g, 0, none⟩) 4 4)).run Tryd.prog W = .ok (.string ⟨(le n 4).toArray⟩) W := by
  have := run_convert_bytes_back (P := Tryd.prog) W 32 9 5 ⟨g, 0, none⟩ 4 (le n 4) Tryd.underlying32 Tryd.underlying5 Tryd.underlying9 (fun j hj => by
    have hj4 : j < 4 := by rw [le_len] at hj; exact hj
    have e : (⟨g, 0, none⟩ : Addr).add j = ⟨g, j, none⟩ := by unfold Addr.add; split <;> simp_all
    rw [e]
    match j, hj4 with
    | 0, _ => rw [h0]; simp [le4]
    | 1, _ => rw [h1]; simp [le4]
    | 2, _ => rw [h2]; simp [le4]
    | 3, _ => rw [h3]; simp [le4]; omega)
  rwa [le_len] at this

/-! Seal, Open -/
theorem str_snoc (s : ByteArray) (l : List UInt8) : s ++ ⟨l.toArray⟩ = ⟨(s.data.toList ++ l).toArray⟩ := by apply ByteArray.ext; simp

theorem sliceFrom (s : ByteArray) (n : Nat) (h : n ≤ s.size) (W : World) : (Instr.slice 9 (.string s) (some (.int .i64 n)) none none).run Tryd.prog W = .ok (.string (s.extract n s.size)) W := by
  rw [run_slice_string_from_if W 9 s .i64 n Tryd.underlying9, if_pos (by omega)]; simp
theorem sliceTo (s : ByteArray) (n : Nat) (h : n ≤ s.size) (W : World) : (Instr.slice 9 (.string s) none (some (.int .i64 n)) none).run Tryd.prog W = .ok (.string (s.extract 0 n)) W := by
  rw [run_slice_string_to_if W 9 s .i64 n Tryd.underlying9, if_pos (by omega)]; simp

end Go.Proofs.YtoobajcpfonllaaDoor
