/-
  WALKS of layer 10: the reference's number, Address, Octets.
-/
import Derived.Test.YtkhnhlahfedkhaaDoorHdFlags
import Derived.Test.YtkhnhlahfedkhaaDoorHdRef
import Derived.Test.YtkhnhlahfedkhaaDoorHdOct
import Derived.Deep.AppendLies
import Derived.Laws.Concat
import Derived.Laws.IdiomStrings
namespace Go.Proofs.YtkhnhlahfedkhaaDoor
open Go.RowKit Go.Hd Go.Wr Go.Ad
attribute [local go_sem ↓ high] Fr_.loadF Fr_.storeF Fr_.v_cells Fr_.v_match
attribute [local go_sem] Fr_.C0 Fr_.C1 Fr_.C2 Fr_.C3 Fr_.C4 Fr_.C5 Fr_.C6 Fr_.C7 Fr_.C8 Fr_.C9 Fr_.C10 Fr_.C11 Fr_.C12 Fr_.C13 Fr_.C14 Fr_.C15 Fr_.C16 Fr_.C17 Fr_.loadF_new

/-- One octet as a slice, converted. -/
theorem one_conv (w : World) (q : Nat) (hq : q < 256) : (convert 63 9 (.slice (some ⟨w.heap.size, 0, none⟩) 1 1)).run Tryd.prog (w.alloc (.cells #[.int .u8 (q : Int)] 5)) = .ok (.string ⟨#[UInt8.ofNat q]⟩) (w.alloc (.cells #[.int .u8 (q : Int)] 5)) := by
  have := run_convert_bytes_back (P := Tryd.prog) (w.alloc (.cells #[.int .u8 (q : Int)] 5)) 63 9 5 ⟨w.heap.size, 0, none⟩ 1 [UInt8.ofNat q] Tryd.underlying63 Tryd.underlying5 Tryd.underlying9 (fun j hj => by
    obtain rfl : j = 0 := by simp at hj; omega
    have e : (⟨w.heap.size, 0, none⟩ : Addr).add 0 = ⟨w.heap.size, 0, none⟩ := by unfold Addr.add; rfl
    rw [e]
    simp [UInt8.toNat_ofNat', Nat.mod_eq_of_lt hq])
  exact this
theorem add_run (s t : List UInt8) (h : s.length + t.length ≤ 1000000) (W : World) : (Op.stringOp .add ⟨s.toArray⟩ ⟨t.toArray⟩).run Tryd.prog W = .ok (.string ⟨(s ++ t).toArray⟩) W := by
  have := run_string_add_sum (P := Tryd.prog) W ⟨s.toArray⟩ ⟨t.toArray⟩ (by simp [ByteArray.size]; omega)
  rw [this]
  congr 2
theorem w64_nat {x : Nat} (h : x < 9223372036854775808) : RowKit.wrap64 (x : Int) = x := IntWalk.wrap64_in _ (by omega)
theorem wu64_nat {x : Nat} (h : x < 18446744073709551616) : IntKind.u64.wrap (x : Int) = x := IntWalk.u64_in _ (by omega)
theorem nat_quo (n k : Nat) : ((n / pow k : Nat) : Int).tdiv 256 = ((n / pow (k + 1) : Nat) : Int) := by
  rw [Int.tdiv_eq_ediv_of_nonneg (Int.natCast_nonneg _), div_pow_succ]; rfl
theorem nat_rem (n k : Nat) : ((n / pow k : Nat) : Int).tmod 256 = ((n / pow k % 256 : Nat) : Int) := by
  rw [Int.tmod_eq_emod_of_nonneg (Int.natCast_nonneg _)]; rfl

set_option maxRecDepth 100000 in
set_option maxHeartbeats 2000000 in
theorem refNumber_any (n k : Nat) (w : World) (hn : n < 9223372036854775808) (hk : k ≤ 8) :
    Calls Tryd.prog 65 #[.int .i64 n, .int .i64 k] w fun e w' => e = .returned (.string ⟨(le n k).toArray⟩) ∧ Below w.heap.size w w' := by
  go_enter Tryd.func65, Tryd.ntmps65
  go_wp2
  go_loopw [0, 5, 6, 7, 8, 9, 10, 11, 12, 13, 14, 15, 16, 17, 18, 19, 20] (fun z s i a1 a2 a3 a4 a5 a6 a7 a8 a9 a10 a11 a12 a13 a14 wr => ∃ m : Nat, m ≤ k ∧ i = .int .i64 m ∧ z = .int .i64 ((n / pow m : Nat) : Int) ∧ s = .string ⟨(le n m).toArray⟩ ∧ Below w.heap.size w wr) (fun z s i a1 a2 a3 a4 a5 a6 a7 a8 a9 a10 a11 a12 a13 a14 _ => k - (intOf i).toNat)
  case atStart => exact ⟨0, Nat.zero_le _, rfl, by rw [pow_zero, Nat.div_one], rfl, Below.refl _ _⟩
  case round =>
    obtain ⟨m, hm, rfl, rfl, rfl, hb⟩ := hrel
    have HB := Lib.hid hb
    clear hb
    by_cases hlt : m < k
    · have q1 := nat_quo n m
      have q2 := nat_rem n m
      obtain ⟨q, hq⟩ : ∃ q, q = n / pow m % 256 := ⟨_, rfl⟩
      rw [← hq] at q2
      have hq8 : q < 256 := by rw [hq]; exact Nat.mod_lt _ (by decide)
      have hcv := one_conv wr q hq8
      have hadd := add_run (le n m) [UInt8.ofNat q] (by rw [le_len]; simp; omega)
      have e : le n m ++ [UInt8.ofNat q] = le n (m + 1) := by rw [hq]; rfl
      rw [e] at hadd
      have hx : n / pow m < 9223372036854775808 := Nat.lt_of_le_of_lt (Nat.div_le_self _ _) hn
      have hx2 : n / pow (m + 1) < 9223372036854775808 := Nat.lt_of_le_of_lt (Nat.div_le_self _ _) hn
      have hwx := w64_nat hx2
      generalize (le n m).toArray = s1 at *
      generalize E1 : (le n (m + 1)).toArray = s2 at *
      generalize E2 : n / pow (m + 1) = x2 at *
      generalize n / pow m = x1 at *
      have F1 := Lib.hid E1
      have F2 := Lib.hid E2
      clear hq e E1 E2
      have u1 : (q : Int) % 256 = q := by omega
      go_wp2
      go_roundw
      case rel => exact ⟨m + 1, by omega, by go_num, by rw [F2.out], by rw [F1.out], HB.out.alloc HB.out.size _⟩
      case measure => simp [intOf]; omega
    · obtain rfl : m = k := by omega
      go_wp2
      go_returns
      exact ⟨rfl, HB.out⟩

set_option maxRecDepth 100000 in
set_option maxHeartbeats 2000000 in
theorem refAddress_any (n : Nat) (w : World) (hn : n < 18446744073709551616) :
    Calls Tryd.prog 67 #[.int .u64 n] w fun e w' => e = .returned (.string ⟨(be n).toArray⟩) ∧ Below w.heap.size w w' := by
  go_enter Tryd.func67, Tryd.ntmps67
  go_wp2
  go_loopw [0, 3, 4, 5, 6, 7, 8, 9, 10, 11, 12, 13, 14, 15, 16, 17] (fun z s i a1 a2 a3 a4 a5 a6 a7 a8 a9 a10 a11 a12 a13 wr => ∃ m : Nat, m ≤ 6 ∧ i = .int .i64 m ∧ z = .int .u64 ((n / pow m : Nat) : Int) ∧ s = .string ⟨(le n m).reverse.toArray⟩ ∧ Below w.heap.size w wr) (fun z s i a1 a2 a3 a4 a5 a6 a7 a8 a9 a10 a11 a12 a13 _ => 6 - (intOf i).toNat)
  case atStart => exact ⟨0, Nat.zero_le _, rfl, by rw [pow_zero, Nat.div_one], rfl, Below.refl _ _⟩
  case round =>
    obtain ⟨m, hm, rfl, rfl, rfl, hb⟩ := hrel
    have HB := Lib.hid hb
    clear hb
    by_cases hlt : m < 6
    · have q1 := nat_quo n m
      have q2 := nat_rem n m
      obtain ⟨q, hq⟩ : ∃ q, q = n / pow m % 256 := ⟨_, rfl⟩
      rw [← hq] at q2
      have hq8 : q < 256 := by rw [hq]; exact Nat.mod_lt _ (by decide)
      have hcv := one_conv wr q hq8
      have hadd := add_run [UInt8.ofNat q] (le n m).reverse (by rw [List.length_reverse, le_len]; simp; omega)
      have e : [UInt8.ofNat q] ++ (le n m).reverse = (le n (m + 1)).reverse := by rw [hq, le, List.reverse_append]; rfl
      rw [e] at hadd
      have hx : n / pow m < 18446744073709551616 := Nat.lt_of_le_of_lt (Nat.div_le_self _ _) hn
      have hx2 : n / pow (m + 1) < 18446744073709551616 := Nat.lt_of_le_of_lt (Nat.div_le_self _ _) hn
      have hwx := wu64_nat hx2
      have hwq : IntKind.u64.wrap (q : Int) = (q : Int) := IntWalk.u64_in _ (by omega)
      generalize (le n m).reverse.toArray = s1 at *
      generalize E1 : (le n (m + 1)).reverse.toArray = s2 at *
      generalize E2 : n / pow (m + 1) = x2 at *
      generalize n / pow m = x1 at *
      have F1 := Lib.hid E1
      have F2 := Lib.hid E2
      clear hq e E1 E2
      have u1 : (q : Int) % 256 = q := by omega
      go_wp2
      go_roundw
      case rel => exact ⟨m + 1, by omega, by go_num, by rw [F2.out], by rw [F1.out], HB.out.alloc HB.out.size _⟩
      case measure => simp [intOf]; omega
    · obtain rfl : m = 6 := by omega
      have e : (le n 6).reverse = be n := rfl
      rw [e]
      go_wp2
      go_returns
      exact ⟨rfl, HB.out⟩

/-- A number that came as an int, in k octets. -/
theorem refNum10 (z : Int) (k : Nat) (w : World) (hz : 0 ≤ z ∧ z < 9223372036854775808) (hk : k ≤ 8) :
    Calls Tryd.prog 65 #[.int .i64 z, .int .i64 (k : Int)] w fun e w' => e = .returned (.string ⟨(le z.toNat k).toArray⟩) ∧ Below w.heap.size w w' := by
  obtain ⟨n, rfl⟩ : ∃ n : Nat, z = n := ⟨z.toNat, by have := hz.1; omega⟩
  exact refNumber_any n k w (by have := hz.2; omega) hk
theorem refAddr10 (a : Int) (w : World) (ha : u64 a) :
    Calls Tryd.prog 67 #[.int .u64 a] w fun e w' => e = .returned (.string ⟨(be a.toNat).toArray⟩) ∧ Below w.heap.size w w' := by
  obtain ⟨n, rfl⟩ : ∃ n : Nat, a = n := ⟨a.toNat, by have := ha.1; omega⟩
  exact refAddress_any n w (by have := ha.2; omega)

end Go.Proofs.YtkhnhlahfedkhaaDoor
