/-
  THE WALK of the program's Order (written over a program of my own: the landed code may read otherwise).
-/
import Derived.Test.YtlifnaofppofmaaDwInts
import Derived.Deep.OwnRows
namespace Go.Proofs.Ytlifnaofppofmaa
open Go.RowKit Go.Dw

set_option maxRecDepth 100000 in
set_option maxHeartbeats 2000000 in
theorem order_any (x : Nat) (n : Int) (w : World) (hx : x < 18446744073709551616) :
    Calls Try.prog 16 #[.int .u64 x, .int .i64 n] w fun e w' => OrdPost x (cnt n) w e w' := by
  obtain ⟨mx, hmx, hmn⟩ := cnt_cast n
  have Hx := Lib.hid hx
  have Hm := Lib.hid (cnt_le n)
  generalize cnt n = m at *
  have hm64 : m ≤ 64 := Hm.out
  clear hx
  go_enter Try.func16, Try.ntmps16
  have hmk := run_make_row' (P := Try.prog) 31 3 (.int .i64 0) 8 Try.underlying31 infoInt rfl .i64 .i64 m (by omega) (by omega) w
  have HN0 := Lib.hid (ints_made w m 3)
  have HB0 : Hid (Below w.heap.size w (w.alloc (.cells (madeCells #[.int .i64 0] m) 3)) ∧ w.heap.size < (w.alloc (.cells (madeCells #[.int .i64 0] m) 3)).heap.size) := ⟨(Below.refl _ _).alloc (Nat.le_refl _) _, by simp⟩
  generalize w.alloc (.cells (madeCells #[.int .i64 0] m) 3) = w0 at hmk HN0 HB0
  go_wp2
  clear hmk hmx hmn
  go_loopw [16] (fun i wr => ∃ k : Nat, k ≤ m ∧ i = .int .i64 k ∧ Ints wr w.heap.size (part m k) ∧ Below w.heap.size w wr ∧ w.heap.size < wr.heap.size) (fun i _ => m - (intOf i).toNat)
  case atStart => exact ⟨0, Nat.zero_le _, rfl, HN0.out, HB0.out.1, HB0.out.2⟩
  case round =>
    clear HN0 HB0
    obtain ⟨k, hk, rfl, hin, hb, hg⟩ := hrel
    have HB := Lib.hid hb
    have HG := Lib.hid hg
    have HNN := Lib.hid hin
    by_cases hlt : k < m
    · obtain ⟨c0, f0⟩ := hin k (by rw [part_len hk]; exact hlt)
      have HP := Lib.hid (part_set hlt)
      have hlt' := Lib.hid hlt
      clear hin hb hg
      go_wp2
      go_roundw
      case rel => exact ⟨k + 1, hlt'.out, by go_num, by rw [← HP.out]; exact HNN.out.set k _, HB.out.setCell (Nat.le_refl _) _, by simpa using HG.out⟩
      case measure => have := hlt'.out; simp [intOf]; omega
    · obtain rfl : k = m := by omega
      have h3 := HNN.out
      rw [part_full] at h3
      have H3 := Lib.hid h3
      clear h3
      clear hin hb hg HNN
      go_wp2
      go_loopw [0, 8] (fun xv iv wr2 => ∃ (t y : Nat) (l : List Int) (z : Int), t ≤ k ∧ z = (t : Int) - 1 ∧ iv = .int .i64 z ∧ xv = .int .u64 y ∧ y < 18446744073709551616 ∧ l.length = k ∧ Ints wr2 w.heap.size l ∧ shuf (t - 1) l y = ord x k ∧ Below w.heap.size w wr2 ∧ w.heap.size < wr2.heap.size) (fun _ i _ => (intOf i).toNat)
      case atStart => exact ⟨k, x, ids k, _, Nat.le_refl _, rfl, rfl, rfl, Hx.out, ids_len k, H3.out, rfl, HB.out, HG.out⟩
      case round =>
        clear H3 HB HG
        obtain ⟨t, y, l, z, ht, hz, rfl, rfl, hy, hll, hin, hsh, hb, hgg⟩ := hrel
        have HG := Lib.hid hgg
        by_cases h2 : 2 ≤ t
        · obtain ⟨q, rfl⟩ : ∃ q, t = q + 2 := ⟨t - 2, by omega⟩
          obtain rfl : z = (q : Int) + 1 := by omega
          have hj : bl y (q + 2) < q + 2 := bl_lt y (by omega)
          have CB : Hid (∀ w, Calls Try.prog 14 #[.int .u64 y, .int .i64 ((q : Int) + 2)] w fun e w' => e = .returned (.tuple #[.int .i64 ((bl y (q + 2) : Nat) : Int), .int .u64 ((nx y : Nat) : Int)]) ∧ w = w') := fun w => below_big y (q + 2) w hy (by omega) (by omega)
          have HS : Hid (shuf (q + 1 - 1) (swp l (q + 1) (bl y (q + 2))) (nx y) = ord x k) := hsh
          have HN : Hid (nx y < 18446744073709551616) := nx_lt hy
          generalize bl y (q + 2) = j at hj CB HS
          generalize nx y = y' at CB HS HN
          obtain ⟨ca, fa⟩ := hin (q + 1) (by omega)
          obtain ⟨cb, fb⟩ := hin j (by omega)
          obtain ⟨cb2, fb2⟩ := (hin.set (q + 1) (l.getD j 0)) j (by rw [List.length_set]; omega)
          rw [getD_set_self] at cb2
          have HI2 := Lib.hid (hin.drew.swap (q + 1) j)
          have HB2 := Lib.hid hb
          have HL := Lib.hid hll
          generalize l.getD (q + 1) 0 = a at ca HI2
          generalize l.getD j 0 = b at cb HI2 cb2 fb2
          clear hin hb hsh hz hy hgg
          go_wp2_with (go_at_call 14; refine (CB.out _).mono ?_; rintro e w' ⟨rfl, rfl⟩)
          go_region
          go_wp2
          go_roundw
          case rel => exact ⟨q + 1, y', swp l (q + 1) j, (q : Int), by omega, by omega, by go_num, rfl, HN.out, by rw [swp_len]; exact HL.out, HI2.out, HS.out, ((HB2.out.drew.setCell (Nat.le_refl _) _).setCell (Nat.le_refl _) _), by simpa using HG.out⟩
          case measure => simp [intOf]
        · have hz1 : z < 1 := by omega
          have HZ := Lib.hid hin
          have HB2 := Lib.hid hb
          have hl0 : (ord x k).1 = l ∧ (ord x k).2 = y := by
            have e0 : t - 1 = 0 := by omega
            rw [e0] at hsh
            rw [← hsh]; exact ⟨rfl, rfl⟩
          have HL0 := Lib.hid hl0
          have HLL := Lib.hid hll
          clear hin hb hsh hl0 hll hgg
          go_wp2
          go_returns
          refine ⟨w.heap.size, k, ?_, ?_, (Nat.le_refl _), HG.out, HB2.out⟩
          · rw [HL0.out.2]; rfl
          · rw [HL0.out.1]; intro j hj; exact (HZ.out j (by rw [HLL.out]; exact hj)).1
end Go.Proofs.Ytlifnaofppofmaa
