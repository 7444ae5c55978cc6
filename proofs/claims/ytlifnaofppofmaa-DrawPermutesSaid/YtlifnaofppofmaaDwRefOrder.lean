/-
  THE WALK of the reference's Order.
-/
import Derived.Test.YtlifnaofppofmaaDwInts
namespace Go.Proofs.Ytlifnaofppofmaa
open Go.RowKit Go.Dw

set_option maxRecDepth 100000 in
set_option maxHeartbeats 2000000 in
theorem refOrder_any (x : Nat) (n : Int) (w : World) (hx : x < 18446744073709551616) :
    Calls Try.prog 17 #[.int .u64 x, .int .i64 n] w fun e w' => OrdPost x (cnt n) w e w' := by
  have HI := Lib.hid (info_parts infoInt)
  obtain ⟨mx, hmx, hmn⟩ := cnt_cast n
  have Hx := Lib.hid hx
  have Hm := Lib.hid (cnt_le n)
  generalize cnt n = m at *
  clear hx
  go_enter Try.func17, Try.ntmps17
  go_wp2
  clear hmx hmn
  go_loopw [6, 7] (fun v i wr => ∃ k : Nat, k ≤ m ∧ i = .int .i64 k ∧ wr.ownsRow w.heap.size 3 1 v (ids k).length ((ids k).map (Value.int .i64)) ∧ Below w.heap.size w wr ∧ v ≠ .slice none 0 0)
    (fun _ i _ => m - (intOf i).toNat)
  case atStart =>
    have h := World.ownsRow_made (base := w.heap.size) (e := 3) (size := 1) w #[] 0 (Nat.le_refl _) (by decide) rfl
    exact ⟨0, by omega, rfl, by simpa [ids] using h, (Below.refl _ _).alloc (Nat.le_refl _) _, by simp⟩
  case round =>
    rename_i wr
    obtain ⟨k, hk, rfl, hown, hb, hnn⟩ := hrel
    have hm64 : m ≤ 64 := Hm.out
    have hkl := ids_len k
    by_cases hlt : k < m
    · have HS := Lib.hid (ids_succ k)
      go_wp2_with (at_builtin; obtain ⟨i0, hi, hz0, hz1, hz2⟩ := HI.out; refine wpList_append_own _ rfl _ _ 31 rfl w.heap.size 3 i0 (.int .i64 0) 1 8 Try.underlying31 hi hz0 hz1 hz2 rfl (by decide) _ _ _ rfl (hown.alloc _) ⟨wr.heap.size, 0, none⟩ 1 1 [.int .i64 k] rfl rfl ?c1 ?c2 ?c3 ?c4 ?c5 ?_)
      case c1 =>
        intro j u hj
        match j, hj with
        | 0, hj => simp at hj; subst hj; simp [Addr.add]
      case c2 => intro u hu; simp at hu; subst hu; rfl
      case c3 => unfold maxLen; omega
      case c4 => omega
      case c5 => have := hb.size; simp; omega
      intro v' w1 hown' hgrow hn'
      clear hi hz0 hz1 hz2
      have R : w1.ownsRow w.heap.size 3 1 v' (ids (k + 1)).length ((ids (k + 1)).map (Value.int .i64)) ∧ Below w.heap.size w w1 ∧ v' ≠ .slice none 0 0 := by
        refine ⟨?_, ?_, hn'⟩
        · rw [HS.out]; simpa [ids_len] using hown'
        · refine Below.grown (hb.alloc hb.size _) hgrow (by simp; have := hb.size; omega) (fun j hj => ?_)
          exact (hown.lt j hj).1
      have hlt' := Lib.hid hlt
      clear hown' hgrow hown hn'
      go_wp2
      go_roundw
      case rel => exact ⟨k + 1, hlt'.out, by go_num, R.1, R.2.1, R.2.2⟩
      case measure => have := hlt'.out; simp [intOf]; omega
    · obtain rfl : k = m := by omega
      obtain ⟨g, cap, rfl, h1, h2, h3⟩ := owns_ints hown hnn
      rw [hkl]
      have H1 := Lib.hid h1
      have H2 := Lib.hid h2
      have H3 := Lib.hid h3
      have HB := Lib.hid hb
      clear hown hnn hkl hb h1 h2 h3
      go_wp2
      go_loopw [0, 8] (fun xv iv wr2 => ∃ (t y : Nat) (l : List Int) (z : Int), t ≤ k ∧ z = (t : Int) - 1 ∧ iv = .int .i64 z ∧ xv = .int .u64 y ∧ y < 18446744073709551616 ∧ l.length = k ∧ Ints wr2 g l ∧ shuf (t - 1) l y = ord x k ∧ Below w.heap.size w wr2 ∧ g < wr2.heap.size) (fun _ i _ => (intOf i).toNat)
      case atStart => exact ⟨k, x, ids k, _, Nat.le_refl _, rfl, rfl, rfl, Hx.out, ids_len k, H3.out, rfl, HB.out, H2.out⟩
      case round =>
        clear H3 HB H2
        obtain ⟨t, y, l, z, ht, hz, rfl, rfl, hy, hll, hin, hsh, hb, hgg⟩ := hrel
        have HG := Lib.hid hgg
        by_cases h2 : 2 ≤ t
        · obtain ⟨q, rfl⟩ : ∃ q, t = q + 2 := ⟨t - 2, by omega⟩
          obtain rfl : z = (q : Int) + 1 := by omega
          have hj : bl y (q + 2) < q + 2 := bl_lt y (by omega)
          have CB : Hid (∀ w, Calls Try.prog 15 #[.int .u64 y, .int .i64 ((q : Int) + 2)] w fun e w' => e = .returned (.tuple #[.int .i64 ((bl y (q + 2) : Nat) : Int), .int .u64 ((nx y : Nat) : Int)]) ∧ w = w') := fun w => refBelow_big y (q + 2) w hy (by omega) (by omega)
          have HS : Hid (shuf (q + 1 - 1) (swp l (q + 1) (bl y (q + 2))) (nx y) = ord x k) := hsh
          have HN : Hid (nx y < 18446744073709551616) := nx_lt hy
          generalize bl y (q + 2) = j at hj CB HS
          generalize nx y = y' at CB HS HN
          obtain ⟨ca, fa⟩ := hin (q + 1) (by omega)
          obtain ⟨cb, fb⟩ := hin j (by omega)
          obtain ⟨cb2, fb2⟩ := (hin.set (q + 1) (l.getD j 0)) j (by rw [List.length_set]; omega)
          rw [getD_set_self] at cb2
          have HI2 := Lib.hid (hin.drew.swap (q + 1) j)
          have HB2 := Lib.hid hb
          have HL := Lib.hid hll
          generalize l.getD (q + 1) 0 = a at ca HI2
          generalize l.getD j 0 = b at cb HI2 cb2 fb2
          clear hin hb hsh hz hy hgg
          go_wp2_with (go_at_call 15; refine (CB.out _).mono ?_; rintro e w' ⟨rfl, rfl⟩)
          go_region
          go_wp2
          go_roundw
          case rel => exact ⟨q + 1, y', swp l (q + 1) j, (q : Int), by omega, by omega, by go_num, rfl, HN.out, by rw [swp_len]; exact HL.out, HI2.out, HS.out, ((HB2.out.drew.setCell H1.out _).setCell H1.out _), by simpa using HG.out⟩
          case measure => simp [intOf]
        · have hz1 : z < 1 := by omega
          have HZ := Lib.hid hin
          have HB2 := Lib.hid hb
          have hl0 : (ord x k).1 = l ∧ (ord x k).2 = y := by
            have e0 : t - 1 = 0 := by omega
            rw [e0] at hsh
            rw [← hsh]; exact ⟨rfl, rfl⟩
          have HL0 := Lib.hid hl0
          have HLL := Lib.hid hll
          clear hin hb hsh hl0 hll hgg
          go_wp2
          go_returns
          refine ⟨g, cap, ?_, ?_, H1.out, HG.out, HB2.out⟩
          · rw [HL0.out.2]; rfl
          · rw [HL0.out.1]; intro j hj; exact (HZ.out j (by rw [HLL.out]; exact hj)).1
end Go.Proofs.Ytlifnaofppofmaa
