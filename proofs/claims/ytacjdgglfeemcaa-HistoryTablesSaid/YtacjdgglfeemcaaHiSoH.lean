/-
  slices.Sort's callees at addresses: xorshift's Next, nextPowerOfTwo, breakPatternsOrdered (rows shorter than 50).
-/
import Derived.Test.YtacjdgglfeemcaaHiSoE
import Derived.Test.YtacjdgglfeemcaaShelf
import Derived.Sort.Walk7
namespace Go.Proofs.Ytacjdgglfeemcaa
open Go.RowKit Go.Sort

/-- The random number in a block of its own. -/
def Cx (w : World) (sb R : Nat) : Prop := w.heap[sb]? = some (.cells #[.int .u64 R] 77 (0, 0))
theorem Cx.cell {w : World} {sb s : Nat} (h : Cx w sb s) : w.cell? ⟨sb, 0, none⟩ = some (.int .u64 s) := by
  unfold Cx at h
  simp [World.cell?, h]
theorem Cx.froz {w : World} {sb s : Nat} (h : Cx w sb s) : w.frozen? ⟨sb, 0, none⟩ = false := by
  unfold Cx at h
  simp [World.frozen?, h]
theorem Cx.set {w : World} {sb s : Nat} (h : Cx w sb s) (t : Nat) : Cx (w.setCell ⟨sb, 0, none⟩ (.int .u64 t)) sb t := by
  unfold Cx at h ⊢
  simp [World.setCell, Array.getElem?_modify, h]

set_option maxRecDepth 1000000 in
set_option maxHeartbeats 4000000 in
theorem next_walk (rb X : Nat) (hX : X < 18446744073709551616) (w : World) (hc : w.cell? ⟨rb, 0, none⟩ = some (.int .u64 X)) (hf : w.frozen? ⟨rb, 0, none⟩ = false) :
    Calls Try.prog 41 #[.pointer (some ⟨rb, 0, none⟩)] w fun e w' => e = .returned (.int .u64 (xorNextN X : Nat)) ∧ w' = (w.setCell ⟨rb, 0, none⟩ (.int .u64 (xorNextN X : Nat))).drewN 3 := by
  obtain ⟨A, hA⟩ : ∃ A : Nat, A = X ^^^ (X * 8192 % 18446744073709551616) := ⟨_, rfl⟩
  obtain ⟨B, hB⟩ : ∃ B : Nat, B = A ^^^ (A / 128) := ⟨_, rfl⟩
  obtain ⟨C, hC⟩ : ∃ C : Nat, C = B ^^^ (B * 131072 % 18446744073709551616) := ⟨_, rfl⟩
  have lA : A < 18446744073709551616 := by rw [hA]; exact Nat.xor_lt_two_pow (n := 64) (by omega) (by omega)
  have lB : B < 18446744073709551616 := by rw [hB]; exact Nat.xor_lt_two_pow (n := 64) (by omega) (by omega)
  have e1 : bits .xor .u64 (X : Int) (IntKind.u64.wrap ((X : Int) * 8192)) = (A : Int) := by
    rw [IntKind.wrap_u64, show ((X : Int) * 8192 % 18446744073709551616) = ((X * 8192 % 18446744073709551616 : Nat) : Int) by omega, bits_xor_u64_nat _ _ hX (by omega), hA]
  have e2 : bits .xor .u64 (A : Int) ((A : Int) / 128) = (B : Int) := by
    rw [show ((A : Int) / 128) = ((A / 128 : Nat) : Int) by omega, bits_xor_u64_nat _ _ lA (by omega), hB]
  have e3 : bits .xor .u64 (B : Int) (IntKind.u64.wrap ((B : Int) * 131072)) = (C : Int) := by
    rw [IntKind.wrap_u64, show ((B : Int) * 131072 % 18446744073709551616) = ((B * 131072 % 18446744073709551616 : Nat) : Int) by omega, bits_xor_u64_nat _ _ lB (by omega), hC]
  have hv : xorNextN X = C := by unfold xorNextN; simp only []; rw [← hA, ← hB, ← hC]
  rw [hv]
  clear hA hB hC hv
  have hss : ∀ v v', (w.setCell ⟨rb, 0, none⟩ v).setCell ⟨rb, 0, none⟩ v' = w.setCell ⟨rb, 0, none⟩ v' := setCell_setCell w rb 0
  go_enter Try.func41, Try.ntmps41
  go_wp2
  go_region
  all_goals go_wp2
  all_goals go_region
  all_goals go_wp2
  all_goals go_region
  all_goals go_wp2
  go_ret
  exact ⟨rfl, rfl⟩

theorem next_any (g o c sb R : Nat) (d : Array Int) (hR : R < 18446744073709551616) (w : World) (hH : Rw w g o d c) (hC : Cx w sb R) (hne : sb ≠ g) :
    Calls Try.prog 41 #[.pointer (some ⟨sb, 0, none⟩)] w fun e w' =>
      ∃ R' : Nat, e = .returned (.int .u64 R') ∧ R' < 18446744073709551616 ∧ Rw w' g o d c ∧ Cx w' sb R' ∧ w.grownBy w' (some sb) := by
  refine (next_walk sb R hR w hC.cell hC.froz).mono ?_
  rintro e w' ⟨rfl, rfl⟩
  exact ⟨xorNextN R, rfl, xorNextN_lt R hR, (hH.setOther hne _ _).kept rfl, hC.set _, grownBy_drewN (grownBy_set (grownBy_refl _ _) _ _) _⟩

set_option maxHeartbeats 4000000 in
theorem power_any (n : Nat) (hn : n < 1000) (w : World) :
    Calls Try.prog 40 #[.int .i64 n] w fun e w' => e = .returned (.int .u64 ((1 <<< bitsLen n : Nat) : Int)) ∧ w = w' := by
  have hLen : ∀ w, Calls Try.prog 27 #[.int .u64 (n : Int)] w fun e w' => e = .returned (.int .i64 (bitsLen n : Nat)) ∧ w' = w := fun w => by
    have h := Try.bits_Len (n : Int) w (by omega) (by omega)
    rw [Int.toNat_natCast, bitLen_eq _ (by omega)] at h
    exact h.mono fun _ _ q => q
  have hk : bitsLen n ≤ 62 := (bitsLen_le_iff n 62).2 (by omega)
  have hp := wrap_two_pow (bitsLen n) hk
  go_enter Try.func40, Try.ntmps40
  go_wp2_with (first | (go_at_call 27; refine (hLen _).mono ?_; rintro e w' ⟨rfl, rfl⟩))
  go_ret
  exact ⟨rfl, rfl⟩

theorem and_mask (R M : Nat) (hR : R < 18446744073709551616) (h1 : 1 ≤ M) (h2 : M < 18446744073709551616) : ∃ O : Nat, O ≤ M - 1 ∧ bits .and .u64 (R : Int) ((M : Int) - 1) = (O : Int) :=
  ⟨R &&& (M - 1), Nat.and_le_right, by rw [show ((M : Int) - 1) = ((M - 1 : Nat) : Int) by omega, bits_and_u64_nat _ _ hR (by omega)]⟩

/-- A change in a block that came later is none of the older ones'. -/
theorem grownBy_late {a b c : World} {g : Nat} (h1 : a.grownBy b (some g)) (h2 : b.grownBy c (some a.heap.size)) : a.grownBy c (some g) :=
  ⟨h2.os.trans h1.os, h2.tape.trans h1.tape, h2.output.trans h1.output, Nat.le_trans h1.size h2.size, fun k hk hr => (h2.block k (Nat.lt_of_lt_of_le hk h1.size) (fun e => by cases e; omega)).trans (h1.block k hk hr)⟩

/-- What stands while patterns are broken. -/
structure Bp (w : World) (g o c a b : Nat) (d dk : Array Int) (R : Nat) (wr : World) : Prop where
  st : St w g o c dk wr
  size : dk.size = d.size
  cx : Cx wr w.heap.size R
  lt : R < 18446744073709551616
  per : PermIn a b d dk

theorem Bp.swap {w : World} {g o c a b : Nat} {d dk : Array Int} {R : Nat} {wr : World} (h : Bp w g o c a b d dk R wr) (hne : w.heap.size ≠ g) (hb : b ≤ d.size) (n : Nat) {i j : Nat} (hi : a ≤ i ∧ i < b) (hj : a ≤ j ∧ j < b) :
    Bp w g o c a b d (swp dk i j) R (((wr.drewN n).setCell ⟨g, o + i, none⟩ (.int .u64 dk[j]!)).setCell ⟨g, o + j, none⟩ (.int .u64 dk[i]!)) := by
  have hs := h.size
  refine ⟨h.st.swap n (by omega) (by omega), by rw [size_swp]; exact hs, ?_, h.lt, permIn_trans _ _ _ _ _ h.per (swp_permIn dk a b i j hi.1 hi.2 hj.1 hj.2 (by omega))⟩
  exact ((Below.heap_setCell _ _ _ w.heap.size hne).trans (Below.heap_setCell _ _ _ w.heap.size hne)).trans h.cx

set_option maxRecDepth 1000000 in
set_option maxHeartbeats 8000000 in
theorem break_any (g o c a b : Nat) (d : Array Int) (w : World) (hH : Rw w g o d c) (h8 : a + 8 ≤ b) (hb : b ≤ d.size) (hsz : d.size < 1000) :
    Calls Try.prog 30 #[.slice (some ⟨g, o, none⟩) d.size c, .int .i64 a, .int .i64 b] w fun e w' =>
      e = .returned (.tuple #[]) ∧ ∃ dk, PermIn a b d dk ∧ St w g o c dk w' := by
  obtain ⟨L, hL⟩ : ∃ L : Nat, L = b - a := ⟨_, rfl⟩
  have eL : (b : Int) - (a : Int) = (L : Int) := by omega
  have hL8 : 8 ≤ L := by omega
  have haL : a + L ≤ d.size := by omega
  obtain ⟨M, hM⟩ : ∃ M : Nat, M = 1 <<< bitsLen L := ⟨_, rfl⟩
  have hM1 : 1 ≤ M := by rw [hM, Nat.one_shiftLeft]; exact Nat.two_pow_pos _
  have hM2 : M ≤ 2 * L := by rw [hM, Nat.one_shiftLeft]; exact two_pow_bitsLen_le (by omega)
  have hNP : ∀ w, Calls Try.prog 40 #[.int .i64 (L : Int)] w fun e w' => e = .returned (.int .u64 (M : Int)) ∧ w = w' := by rw [hM]; exact fun w => power_any L (by omega) w
  have HNP := Lib.hid hNP
  have hne : w.heap.size ≠ g := by have := hH.lt; omega
  have HB := Lib.hid (show Bp w g o c a b d d L (w.alloc (.cells #[.int .u64 (L : Int)] 77)) from
    ⟨⟨hH.kept (push_old _ _ hH.lt), grown_alloc _ _ _⟩, rfl, by
      show (w.heap.push (.cells #[.int .u64 (L : Int)] 77))[w.heap.size]? = _
      rw [Array.getElem?_push, if_pos rfl], by omega, permIn_refl _ _ _⟩)
  have HbL := Lib.hid (show b = a + L by omega)
  clear hH hM hNP hL
  go_enter Try.func30, Try.ntmps30
  go_wp2_with (first | (go_at_call 40; refine (HNP.out _).mono ?_; rintro e w' ⟨rfl, rfl⟩))
  go_loopw [9] (fun vi wr => ∃ (t R : Nat) (dk : Array Int), vi = .int .i64 ((a + L / 4 * 2 - 1 + t : Nat) : Int) ∧ t ≤ 3 ∧ Bp w g o c a b d dk R wr) (fun vi _ => a + L / 4 * 2 + 3 - (intOf vi).toNat)
  case atStart => exact ⟨0, L, d, by congr 1; omega, by omega, HB.out⟩
  case round =>
    clear HB HNP
    obtain ⟨t, R, dk, rfl, ht, hB⟩ := hrel
    have hsk := hB.size
    have HBk := Lib.hid hB
    clear hB
    go_wp2_with (first | (go_at_call 41
                          refine (next_any g o c w.heap.size R dk HBk.out.lt _ HBk.out.st.1 HBk.out.cx hne).mono ?_
                          rintro e w1 ⟨R', rfl, hR', hrw, hcx, hgr⟩
                          have HB1 := Lib.hid (show Bp w g o c a b d dk R' w1 from ⟨⟨hrw, grownBy_late HBk.out.st.2 hgr⟩, hsk, hcx, hR', HBk.out.per⟩)
                          clear hrw hcx hgr
                          obtain ⟨O, lO, eAnd⟩ := and_mask R' M hR' hM1 (by omega)
                          obtain ⟨G, hF⟩ := HB1.out.st.fam hsk
                          have HG := Lib.hid hF.val
                          have hcw := hF.cell
                          have hfw := hF.froz
                          clear hF))
    · have hLO : L ≤ O := by omega
      by_cases hEq : a + L / 4 * 2 - 1 + t = a + (O - L)
      all_goals
        go_region
        all_goals go_wp2
        go_roundw
        case rel =>
          refine ⟨t + 1, R', swp dk (a + L / 4 * 2 - 1 + t) (a + (O - L)), by first | rfl | (congr 1 <;> omega), by omega, ?_⟩
          (try rw [hEq])
          simp only [HG.out]
          exact HB1.out.swap hne hb 1 (by have := HbL.out; omega) (by have := HbL.out; omega)
        case measure => simp [intOf]; omega
    · have hLO : ¬ L ≤ O := by omega
      by_cases hEq : a + L / 4 * 2 - 1 + t = a + O
      all_goals
        go_region
        all_goals go_wp2
        go_roundw
        case rel =>
          refine ⟨t + 1, R', swp dk (a + L / 4 * 2 - 1 + t) (a + O), by first | rfl | (congr 1 <;> omega), by omega, ?_⟩
          (try rw [hEq])
          simp only [HG.out]
          exact HB1.out.swap hne hb 1 (by have := HbL.out; omega) (by have := HbL.out; omega)
        case measure => simp [intOf]; omega
    · obtain rfl : t = 3 := by omega
      go_end0
      exact ⟨rfl, dk, HBk.out.per, HBk.out.st⟩
end Go.Proofs.Ytacjdgglfeemcaa
