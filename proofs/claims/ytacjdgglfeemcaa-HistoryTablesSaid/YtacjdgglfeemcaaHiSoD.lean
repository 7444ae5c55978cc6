/-
  slices.Sort's callees at addresses: heapSortOrdered.
-/
import Derived.Test.YtacjdgglfeemcaaHiSoC
import Derived.Deep.LoopGhost
namespace Go.Proofs.Ytacjdgglfeemcaa
open Go.RowKit Go.Sort

theorem grownBy_trans {a b c : World} {r : Option Nat} (h1 : a.grownBy b r) (h2 : b.grownBy c r) : a.grownBy c r :=
  ⟨h2.os.trans h1.os, h2.tape.trans h1.tape, h2.output.trans h1.output, Nat.le_trans h1.size h2.size, fun k hk hr => (h2.block k (Nat.lt_of_lt_of_le hk h1.size) hr).trans (h1.block k hk hr)⟩
theorem St.then {w w1 w2 : World} {g o c : Nat} {d1 d2 : Array Int} (h1 : St w g o c d1 w1) (h2 : St w1 g o c d2 w2) : St w g o c d2 w2 := ⟨h2.1, grownBy_trans h1.2 h2.2⟩

set_option maxRecDepth 1000000 in
set_option maxHeartbeats 8000000 in
theorem heap_any (g o c a b : Nat) (d : Array Int) (w : World) (hH : Rw w g o d c) (hab : a ≤ b) (hb : b ≤ d.size) (hsz : d.size < 1000) :
    Calls Try.prog 29 #[.slice (some ⟨g, o, none⟩) d.size c, .int .i64 a, .int .i64 b] w fun e w' =>
      e = .returned (.tuple #[]) ∧ St w g o c (heapSort ltInt d a b) w' := by
  have ecast : ((b - a : Nat) : Int) = (b : Int) - (a : Int) := by omega
  go_enter Try.func29, Try.ntmps29
  go_wp2
  go_loopg [9] ((b - a - 1) / 2 + 1) (fun k s9 wr => s9 = .int .i64 ((k : Int) - 1) ∧ k ≤ (b - a - 1) / 2 + 1 ∧ ∃ (dk : Array Int), dk.size = d.size ∧ St w g o c dk wr ∧
    heapBuild ltInt (b - a) a k dk = heapBuild ltInt (b - a) a ((b - a - 1) / 2 + 1) d)
  case atStart => exact ⟨by rw [half_start hab], Nat.le_refl _, d, rfl, ⟨hH, grownBy_refl _ _⟩, rfl⟩
  case round =>
    obtain ⟨rfl, hkk, dk, hds, hwr, heq⟩ := hrel
    have HS := Lib.hid hwr
    clear hwr hH
    cases gk with
    | zero =>
      have hB : dk = heapBuild ltInt (b - a) a ((b - a - 1) / 2 + 1) d := heq
      have HB := Lib.hid hB
      clear heq hkk hB
      go_wp2
      go_loopg [10] (b - a) (fun k s10 wr2 => s10 = .int .i64 ((k : Int) - 1) ∧ k ≤ b - a ∧ ∃ (dj : Array Int), dj.size = d.size ∧ St w g o c dj wr2 ∧ heapPop ltInt a k dj = heapPop ltInt a (b - a) dk)
      case atStart => exact ⟨by rw [ecast], Nat.le_refl _, dk, hds, HS.out, rfl⟩
      case round =>
        obtain ⟨rfl, hkk, dj, hdj, hwr2, heq2⟩ := hrel
        have HQ := Lib.hid heq2
        have HS2 := Lib.hid hwr2
        clear HS
        cases gk with
        | zero =>
          clear hwr2 heq2
          go_wp2
          go_end0
          exact ⟨rfl, by rw [heapSort, ← HB.out, ← HQ.out]; exact HS2.out⟩
        | succ k =>
          obtain ⟨G, hF⟩ := hwr2.fam hdj
          have HG := Lib.hid hF.val
          have hcw := hF.cell
          have hfw := hF.froz
          clear hwr2 hF heq2
          obtain ⟨m, hm⟩ : ∃ m : Nat, a + k = m := ⟨_, rfl⟩
          have e1 : (a : Int) + (k : Int) = (m : Int) := by omega
          have HM := Lib.hid hm
          have hmd : m < d.size := by omega
          have had : a < d.size := by omega
          have CS := Lib.hid (fun w1 (h : Rw w1 g o (swp dj a m) c) => sift_any g o c 0 k a (swp dj a m) w1 h (by rw [size_swp]; omega) (by rw [size_swp]; omega) (by omega))
          rcases (show a < m ∨ (m = a ∧ k = 0) by omega) with hlt | ⟨he, hk0⟩
          · clear hm
            go_wp2_with fail
            go_region
            all_goals go_wp2_with fail
            have HS3 := Lib.hid (HS2.out.swap 0 (i := a) (j := m) (by omega) (by omega))
            rw [← HG.out, ← HG.out] at HS3
            have h3 := CS.out _ (HS3.out.drewN 1).1
            rw [size_swp, hdj] at h3
            refine h3.mono ?_
            rintro e w1 ⟨rfl, hw1⟩
            have HS4 := Lib.hid ((HS3.out.drewN 1).then hw1)
            clear hw1 h3 HS3
            go_wp2
            go_roundg k
            case measure => omega
            case rel =>
              refine ⟨by simp, by omega, siftDown ltInt k a 0 (swp dj a m), by rw [size_siftDown ltInt _ _ _ _ _ (Nat.le_refl _), size_swp]; exact hdj, HS4.out, ?_⟩
              have := HQ.out
              rw [← this, ← HM.out]
              rfl
          · clear hm e1
            subst hk0
            subst he
            go_wp2_with fail
            go_region
            all_goals go_wp2_with fail
            have HS3 := Lib.hid (HS2.out.swap 0 (i := m) (j := m) (by omega) (by omega))
            rw [← HG.out] at HS3
            have h3 := CS.out _ (HS3.out.drewN 1).1
            rw [size_swp, hdj] at h3
            refine h3.mono ?_
            rintro e w1 ⟨rfl, hw1⟩
            have HS4 := Lib.hid ((HS3.out.drewN 1).then hw1)
            clear hw1 h3 HS3
            go_wp2
            go_roundg 0
            case measure => omega
            case rel =>
              refine ⟨by simp, by omega, siftDown ltInt 0 m 0 (swp dj m m), by rw [size_siftDown ltInt _ _ _ _ _ (Nat.le_refl _), size_swp]; exact hdj, HS4.out, ?_⟩
              have := HQ.out
              rw [← this]
              rfl
    | succ k =>
      have hcall := Lib.hid (fun h => sift_any g o c k (b - a) a dk wr h (by omega) (by omega) (by omega))
      rw [ecast, hds] at hcall
      have HE := Lib.hid heq
      clear heq
      go_wp2_with (go_at_call 39; refine (hcall.out HS.out.1).mono ?_; rintro e w1 ⟨rfl, hw1⟩)
      go_roundg k
      case measure => omega
      case rel =>
        exact ⟨by simp, by omega, siftDown ltInt (b - a) a k dk, by rw [size_siftDown ltInt _ _ _ _ _ (Nat.le_refl _)]; exact hds, HS.out.then hw1, HE.out⟩
end Go.Proofs.Ytacjdgglfeemcaa
