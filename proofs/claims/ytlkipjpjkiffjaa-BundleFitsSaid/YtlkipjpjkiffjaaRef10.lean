/-
  WALKS of layer 10's reference: Valid, Group, Address, Number, Addr; for seats without headers.
-/
import Derived.Test.YtlkipjpjkiffjaaWrAll
import Derived.Test.YtlkipjpjkiffjaaAdMath
import Derived.Deep.AppendLies
import Derived.Laws.Concat
import Derived.Laws.IdiomStrings
namespace Go.Proofs.Ytlkipjpjkiffjaa
open Go.RowKit Go.Wr Go.Ad

theorem r10Valid_any (n : Nat) (w : World) :
    Calls Try.prog 21 #[.int .u64 n] w fun e w' => e = .returned (.bool (vald n)) ∧ w = w' := by
  have hy := vald_yes (a := n)
  have hn := vald_no (a := n)
  have hz : (0 < n ∧ n < 281474976710656) ↔ ((0 : Int) < (n : Int) ∧ (n : Int) < 281474976710656) := by omega
  rw [hz] at hy hn
  generalize vald n = v at *
  clear hz
  generalize ((n : Nat) : Int) = z at *
  by_cases h0 : (0 : Int) < z
  · by_cases h1 : z < 281474976710656
    · obtain rfl := hy ⟨h0, h1⟩
      clear hy hn
      go_enter Try.func21, Try.ntmps21
      go_wp2
      go_returns
      exact ⟨rfl, rfl⟩
    · obtain rfl := hn (fun h => h1 h.2)
      have h1' : decide (z < 281474976710656) = false := decide_eq_false h1
      clear hy hn
      go_enter Try.func21, Try.ntmps21
      go_wp2
      go_returns
      exact ⟨rfl, rfl⟩
  · obtain rfl := hn (fun h => h0 h.1)
    clear hy hn
    go_enter Try.func21, Try.ntmps21
    go_wp2
    go_returns
    exact ⟨rfl, rfl⟩
theorem r10Group_any (n : Nat) (w : World) :
    Calls Try.prog 22 #[.int .u64 n] w fun e w' => e = .returned (.bool (grp n)) ∧ w = w' := by
  have HV := Lib.hid (r10Valid_any n)
  by_cases hv : 0 < n ∧ n < 281474976710656
  · rw [vald_yes hv] at HV
    obtain ⟨a, ha⟩ : ∃ a : Int, a = n := ⟨_, rfl⟩
    have ha0 : 0 < a ∧ a < 281474976710656 := by omega
    have hd : grp n = (a / 1099511627776 % 2 == 1) := by
      unfold grp
      rw [vald_yes hv, Bool.true_and]
      by_cases h : n / 1099511627776 % 2 = 1
      · rw [decide_eq_true h]; symm; rw [beq_iff_eq]; omega
      · rw [decide_eq_false h]; symm; rw [beq_eq_false_iff_ne]; omega
    rw [hd]
    rw [← ha] at HV ⊢
    have t1 : a.tdiv 1099511627776 = a / 1099511627776 := Int.tdiv_eq_ediv_of_nonneg (by omega)
    have t2 : (a / 1099511627776).tmod 2 = a / 1099511627776 % 2 := Int.tmod_eq_emod_of_nonneg (by omega)
    have q1 : IntKind.u64.wrap (a / 1099511627776) = a / 1099511627776 := (IntKind.wrap_u64 _).trans (by omega)
    have q2 : IntKind.u64.wrap (a / 1099511627776 % 2) = a / 1099511627776 % 2 := (IntKind.wrap_u64 _).trans (by omega)
    clear hd hv ha ha0
    go_enter Try.func22, Try.ntmps22
    go_wp2_with (go_at_call 21; refine (HV.out _).mono ?_; rintro e w' ⟨rfl, rfl⟩)
    go_returns
    exact ⟨rfl, rfl⟩
  · rw [vald_no hv] at HV
    have hg : grp n = false := by unfold grp; rw [vald_no hv, Bool.false_and]
    rw [hg]
    clear hv hg
    go_enter Try.func22, Try.ntmps22
    go_wp2_with (go_at_call 21; refine (HV.out _).mono ?_; rintro e w' ⟨rfl, rfl⟩)
    go_returns
    exact ⟨rfl, rfl⟩

theorem r10ba_len (s : ByteArray) : s.data.toList.length = s.size := Array.length_toList
/-- One octet as a slice, converted. -/
theorem r10one_conv (w : World) (q : Nat) (hq : q < 256) : (convert 40 9 (.slice (some ⟨w.heap.size, 0, none⟩) 1 1)).run Try.prog (w.alloc (.cells #[.int .u8 (q : Int)] 5)) = .ok (.string ⟨#[UInt8.ofNat q]⟩) (w.alloc (.cells #[.int .u8 (q : Int)] 5)) := by
  have := run_convert_bytes_back (P := Try.prog) (w.alloc (.cells #[.int .u8 (q : Int)] 5)) 40 9 5 ⟨w.heap.size, 0, none⟩ 1 [UInt8.ofNat q] Try.underlying40 Try.underlying5 Try.underlying9 (fun j hj => by
    obtain rfl : j = 0 := by simp at hj; omega
    have e : (⟨w.heap.size, 0, none⟩ : Addr).add 0 = ⟨w.heap.size, 0, none⟩ := by unfold Addr.add; rfl
    rw [e]
    simp [UInt8.toNat_ofNat', Nat.mod_eq_of_lt hq])
  exact this
theorem r10add_run (s t : List UInt8) (h : s.length + t.length ≤ 1000000) (W : World) : (Op.stringOp .add ⟨s.toArray⟩ ⟨t.toArray⟩).run Try.prog W = .ok (.string ⟨(s ++ t).toArray⟩) W := by
  have := run_string_add_sum (P := Try.prog) W ⟨s.toArray⟩ ⟨t.toArray⟩ (by simp [ByteArray.size]; omega)
  rw [this]
  congr 2
theorem r10w64_nat {x : Nat} (h : x < 9223372036854775808) : RowKit.wrap64 (x : Int) = x := IntWalk.wrap64_in _ (by omega)
theorem r10wu64_nat {x : Nat} (h : x < 18446744073709551616) : IntKind.u64.wrap (x : Int) = x := IntWalk.u64_in _ (by omega)
theorem r10nat_quo (n k : Nat) : ((n / pow k : Nat) : Int).tdiv 256 = ((n / pow (k + 1) : Nat) : Int) := by
  rw [Int.tdiv_eq_ediv_of_nonneg (Int.natCast_nonneg _), div_pow_succ]; rfl
theorem r10nat_rem (n k : Nat) : ((n / pow k : Nat) : Int).tmod 256 = ((n / pow k % 256 : Nat) : Int) := by
  rw [Int.tmod_eq_emod_of_nonneg (Int.natCast_nonneg _)]; rfl

set_option maxRecDepth 100000 in
set_option maxHeartbeats 2000000 in
theorem r10Address_any (n : Nat) (w : World) (hn : n < 18446744073709551616) :
    Calls Try.prog 39 #[.int .u64 n] w fun e w' => e = .returned (.string ⟨(be n).toArray⟩) ∧ Below w.heap.size w w' := by
  go_enter Try.func39, Try.ntmps39
  go_wp2
  go_loopw [0, 3, 4, 5, 6, 7, 8, 9, 10, 11, 12, 13, 14, 15, 16, 17] (fun z s i a1 a2 a3 a4 a5 a6 a7 a8 a9 a10 a11 a12 a13 wr => ∃ m : Nat, m ≤ 6 ∧ i = .int .i64 m ∧ z = .int .u64 ((n / pow m : Nat) : Int) ∧ s = .string ⟨(le n m).reverse.toArray⟩ ∧ Below w.heap.size w wr) (fun z s i a1 a2 a3 a4 a5 a6 a7 a8 a9 a10 a11 a12 a13 _ => 6 - (intOf i).toNat)
  case atStart => exact ⟨0, Nat.zero_le _, rfl, by rw [pow_zero, Nat.div_one], rfl, Below.refl _ _⟩
  case round =>
    obtain ⟨m, hm, rfl, rfl, rfl, hb⟩ := hrel
    have HB := Lib.hid hb
    clear hb
    by_cases hlt : m < 6
    · have q1 := r10nat_quo n m
      have q2 := r10nat_rem n m
      obtain ⟨q, hq⟩ : ∃ q, q = n / pow m % 256 := ⟨_, rfl⟩
      rw [← hq] at q2
      have hq8 : q < 256 := by rw [hq]; exact Nat.mod_lt _ (by decide)
      have hcv := r10one_conv wr q hq8
      have hadd := r10add_run [UInt8.ofNat q] (le n m).reverse (by rw [List.length_reverse, le_len]; simp; omega)
      have e : [UInt8.ofNat q] ++ (le n m).reverse = (le n (m + 1)).reverse := by rw [hq, le, List.reverse_append]; rfl
      rw [e] at hadd
      have hx : n / pow m < 18446744073709551616 := Nat.lt_of_le_of_lt (Nat.div_le_self _ _) hn
      have hx2 : n / pow (m + 1) < 18446744073709551616 := Nat.lt_of_le_of_lt (Nat.div_le_self _ _) hn
      have hwx := r10wu64_nat hx2
      have hwq : IntKind.u64.wrap (q : Int) = (q : Int) := IntWalk.u64_in _ (by omega)
      generalize (le n m).reverse.toArray = s1 at *
      generalize E1 : (le n (m + 1)).reverse.toArray = s2 at *
      generalize E2 : n / pow (m + 1) = x2 at *
      generalize n / pow m = x1 at *
      have F1 := Lib.hid E1
      have F2 := Lib.hid E2
      clear hq e E1 E2
      have u1 : (q : Int) % 256 = q := by omega
      go_wp2
      go_roundw
      case rel => exact ⟨m + 1, by omega, by go_num, by rw [F2.out], by rw [F1.out], HB.out.alloc HB.out.size _⟩
      case measure => simp [intOf]; omega
    · obtain rfl : m = 6 := by omega
      have e : (le n 6).reverse = be n := rfl
      rw [e]
      go_wp2
      go_returns
      exact ⟨rfl, HB.out⟩

theorem r10step_num {x q y : Nat} (h : y = q + 256 * x) : (x : Int) * 256 + (q : Int) = (y : Int) := by omega
theorem r10step_small {x q : Nat} (h : x < 256 ^ 6) (hq : q < 256) : RowKit.wrap64 ((x : Int) * 256) = (x : Int) * 256 ∧ RowKit.wrap64 ((x : Int) * 256 + (q : Int)) = (x : Int) * 256 + (q : Int) ∧ RowKit.wrap64 (q : Int) = q :=
  ⟨IntWalk.wrap64_in _ (by omega), IntWalk.wrap64_in _ (by omega), IntWalk.wrap64_in _ (by omega)⟩

set_option maxRecDepth 100000 in
set_option maxHeartbeats 2000000 in
theorem r10Number_any (s : ByteArray) (w : World) (hs : s.size ≤ 7) :
    Calls Try.prog 46 #[.string s] w fun e w' => e = .returned (.int .i64 (val s.data.toList : Nat)) ∧ w = w' := by
  go_enter Try.func46, Try.ntmps46
  have e1 : RowKit.wrap64 ((s.size : Int) - 1) = (s.size : Int) - 1 := IntWalk.wrap64_in _ (by omega)
  go_wp2
  go_loopw [3, 4] (fun z i wr => ∃ m : Nat, m ≤ s.size ∧ i = .int .i64 ((m : Int) - 1) ∧ z = .int .i64 (val (s.data.toList.drop m) : Nat) ∧ w = wr) (fun z i _ => (intOf i + 1).toNat)
  case atStart => exact ⟨s.size, Nat.le_refl _, rfl, by rw [List.drop_of_length_le (Nat.le_of_eq (r10ba_len s))]; rfl, rfl⟩
  case round =>
    obtain ⟨m, hm, rfl, rfl, rfl⟩ := hrel
    match m, hm with
    | 0, _ =>
      go_wp2
      go_returns
      exact ⟨rfl, rfl⟩
    | m + 1, hm =>
      have hlt : m < s.size := hm
      clear hm e1
      have hlen := r10ba_len s
      have hv := val_drop s.data.toList m (by omega)
      have hb : val (s.data.toList.drop (m + 1)) < 256 ^ 6 := Nat.lt_of_lt_of_le (val_lt _) (pow_le (j := 6) (by rw [List.length_drop]; omega))
      have hg : (s[m]'(by omega)).toNat = (s.data.toList[m]'(by omega)).toNat := rfl
      have hq := (s.data.toList[m]'(by omega)).toNat_lt
      generalize val (s.data.toList.drop (m + 1)) = x at *
      obtain ⟨y, hy⟩ : ∃ y, val (s.data.toList.drop m) = y := ⟨_, rfl⟩
      rw [hy] at hv
      generalize (s.data.toList[m]'(by omega)).toNat = q at *
      have c1 : ((m + 1 : Nat) : Int) - 1 = (m : Int) := by omega
      rw [c1]
      obtain ⟨e2, e3, e0⟩ := r10step_small hb hq
      have e4 : RowKit.wrap64 ((m : Int) - 1) = (m : Int) - 1 := IntWalk.wrap64_in _ (by omega)
      have HY := Lib.hid hy
      have e3 := e3.trans (r10step_num hv)
      have HE := Lib.hid e3
      clear hy hv c1 hb hq e3
      go_wp2
      go_roundw
      case rel => exact ⟨m, by omega, rfl, by rw [HY.out, HE.out], trivial⟩
      case measure => simp [intOf]

set_option maxRecDepth 100000 in
set_option maxHeartbeats 2000000 in
theorem r10Addr_any (s : ByteArray) (w : World) (hs : s.size ≤ 6) :
    Calls Try.prog 45 #[.string s] w fun e w' => e = .returned (.int .u64 (bev s.data.toList : Nat)) ∧ w = w' := by
  go_enter Try.func45, Try.ntmps45
  go_wp2
  go_loopw [3, 4] (fun z i wr => ∃ m : Nat, m ≤ s.size ∧ i = .int .i64 (m : Int) ∧ z = .int .u64 (bev (s.data.toList.take m) : Nat) ∧ w = wr) (fun z i _ => (s.size - intOf i).toNat)
  case atStart => exact ⟨0, Nat.zero_le _, rfl, rfl, rfl⟩
  case round =>
    obtain ⟨m, hm, rfl, rfl, rfl⟩ := hrel
    by_cases hlt : m < s.size
    · have hlen := r10ba_len s
      have hv := bev_take s.data.toList m (by omega)
      have hb : bev (s.data.toList.take m) < 256 ^ 5 := Nat.lt_of_lt_of_le (bev_lt _) (Nat.pow_le_pow_right (by decide) (by rw [List.length_take]; omega))
      have hg : (s[m]'(by omega)).toNat = (s.data.toList[m]'(by omega)).toNat := rfl
      have hq := (s.data.toList[m]'(by omega)).toNat_lt
      generalize bev (s.data.toList.take m) = x at *
      obtain ⟨y, hy⟩ : ∃ y, bev (s.data.toList.take (m + 1)) = y := ⟨_, rfl⟩
      rw [hy] at hv
      generalize (s.data.toList[m]'(by omega)).toNat = q at *
      have e0 : IntKind.u64.wrap (q : Int) = q := IntWalk.u64_in _ (by omega)
      have e2 : IntKind.u64.wrap ((x : Int) * 256) = (x : Int) * 256 := IntWalk.u64_in _ (by omega)
      have e3 : IntKind.u64.wrap ((x : Int) * 256 + (q : Int)) = (y : Int) := by rw [IntWalk.u64_in _ (by omega)]; omega
      have HY := Lib.hid hy
      clear hy hv hb
      go_wp2
      go_roundw
      case rel => exact ⟨m + 1, by omega, by go_num, by rw [HY.out], trivial⟩
      case measure => simp [intOf]; omega
    · obtain rfl : m = s.size := by omega
      have hw : s.data.toList.take s.size = s.data.toList := List.take_of_length_le (Nat.le_of_eq (r10ba_len s))
      rw [hw]
      go_wp2
      go_returns
      exact ⟨rfl, rfl⟩
end Go.Proofs.Ytlkipjpjkiffjaa
