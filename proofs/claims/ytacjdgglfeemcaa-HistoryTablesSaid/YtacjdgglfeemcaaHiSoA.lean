/-
  slices.Sort's callees at addresses: cmp.Less, insertionSortOrdered.
-/
import Derived.Test.YtacjdgglfeemcaaHiRow
import Derived.Sort.WalkA
import Derived.Handy
import Derived.Lib.Hide
import Derived.BigGuard
import Derived.BigCall
import Derived.CellFam
import Derived.Deep.QuietTactic
import Derived.BigQuiet
namespace Go.Proofs.Ytacjdgglfeemcaa
open Go.RowKit Go.Sort

theorem isNaN_any (x : Int) (w : World) : Calls Try.prog 44 #[.int .u64 x] w fun e w' => e = .returned (.bool false) ∧ w = w' := by
  have h : (x == x) = true := beq_self_eq_true x
  go_enter Try.func44, Try.ntmps44
  go_wp2
  go_ret
  exact ⟨by simp, rfl⟩
theorem less_any (x y : Int) (w : World) : Calls Try.prog 34 #[.int .u64 x, .int .u64 y] w fun e w' => e = .returned (.bool (ltInt x y)) ∧ w = w' := by
  have CN := Lib.hid isNaN_any
  go_enter Try.func34, Try.ntmps34
  go_wp2_with (go_at_call 44; refine (CN.out _ _).mono ?_; rintro e w' ⟨rfl, rfl⟩)
  go_ret
  exact ⟨rfl, rfl⟩

/-- What a step of a sort keeps: everything but the row. -/
def St (w : World) (g o c : Nat) (d : Array Int) (wr : World) : Prop := Rw wr g o d c ∧ w.grownBy wr (some g)
theorem St.drewN {w wr : World} {g o c : Nat} {d : Array Int} (h : St w g o c d wr) (n : Nat) : St w g o c d (wr.drewN n) := ⟨h.1.kept rfl, grownBy_drewN h.2 n⟩
theorem St.swap {w wr : World} {g o c : Nat} {d : Array Int} (h : St w g o c d wr) (n : Nat) {i j : Nat} (hi : i < d.size) (hj : j < d.size) : St w g o c (swp d i j) (((wr.drewN n).setCell ⟨g, o + i, none⟩ (.int .u64 d[j]!)).setCell ⟨g, o + j, none⟩ (.int .u64 d[i]!)) :=
  ⟨(h.drewN n).1.swap hi hj, grownBy_set (grownBy_set (h.drewN n).2 _ _) _ _⟩

set_option maxRecDepth 1000000 in
set_option maxHeartbeats 8000000 in
theorem ins_any (g o c a b : Nat) (d : Array Int) (w : World) (hH : Rw w g o d c) (hb : b ≤ d.size) (hsz : d.size < 1000) (ha : a < 1000) :
    Calls Try.prog 28 #[.slice (some ⟨g, o, none⟩) d.size c, .int .i64 a, .int .i64 b] w fun e w' =>
      e = .returned (.tuple #[]) ∧ St w g o c (insertionSort ltInt d a b) w' := by
  go_enter Try.func28, Try.ntmps28
  go_wp2
  go_loopw [6] (fun vi wr => ∃ (i : Nat) (dk : Array Int), vi = .int .i64 i ∧ a < i ∧ (i ≤ b ∨ i = a + 1) ∧ dk.size = d.size ∧ St w g o c dk wr ∧
      insOuter ltInt a b i dk = insOuter ltInt a b (a + 1) d) (fun vi _ => b + 1 - (intOf vi).toNat)
  case atStart => exact ⟨a + 1, d, by go_num, by omega, .inr rfl, rfl, ⟨hH, grownBy_refl _ _⟩, rfl⟩
  case round =>
    obtain ⟨i, dk, rfl, hai, hib, hsk, hwr, hO⟩ := hrel
    have HO := Lib.hid hO
    have HS := Lib.hid hwr
    clear hO hH
    go_wp2
    · go_loopw [7] (fun vj wr2 => ∃ (j : Nat) (dj : Array Int), vj = .int .i64 j ∧ a ≤ j ∧ j ≤ i ∧ dj.size = d.size ∧ St w g o c dj wr2 ∧
          insInner ltInt a j dj = insInner ltInt a i dk) (fun vj _ => (intOf vj).toNat)
      case atStart => exact ⟨i, dk, rfl, by omega, Nat.le_refl _, hsk, hwr, rfl⟩
      case round =>
        obtain ⟨j, dj, rfl, haj, hji, hsj, hw2, hI⟩ := hrel
        have hlt : i < b := by assumption
        obtain ⟨G, hG⟩ : ∃ G : Nat → Int, ∀ t, G t = dj[t]! := ⟨fun t => dj[t]!, fun _ => rfl⟩
        have hcw : ∀ t, t < d.size → wr.cell? ⟨g, o + t, none⟩ = some (.int .u64 (G t)) := fun t ht => by rw [hG]; exact hw2.1.cell (by omega)
        have hfw : ∀ t, t < d.size → wr.frozen? ⟨g, o + t, none⟩ = false := fun t _ => hw2.1.frozen _
        have HW := Lib.hid hw2
        have HG := Lib.hid hG
        have HI := Lib.hid hI
        clear hw2 hG hI hwr
        have out : (j ≤ a ∨ ltInt dj[j]! dj[j - 1]! = false) → ∀ q, ∃ i' dk', Value.int .i64 ((i : Int) + 1) = .int .i64 (i' : Nat) ∧ a < i' ∧ (i' ≤ b ∨ i' = a + 1) ∧ dk'.size = d.size ∧
            St w g o c dk' (wr.drewN q) ∧ insOuter ltInt a b i' dk' = insOuter ltInt a b (a + 1) d := fun hs q =>
          ⟨i + 1, dj, by go_num, by omega, by omega, hsj, HW.out.drewN q, by rw [← HO.out, insOuter_go _ _ _ _ _ hlt, ← HI.out, insInner_stop _ _ _ _ hs]⟩
        have OUT := Lib.hid out
        clear out
        have CL := Lib.hid less_any
        go_wp2
        by_cases hja : a < j
        · go_quiet (first | (go_at_call 34; exact Calls.quiet_of_same ((CL.out _ _ _).mono fun _ _ q => ⟨q.1, q.2.symm⟩)))
          go_wp2
          · have hl : ltInt (G j) (G (j - 1)) = true := by assumption
            go_region
            all_goals go_wp2
            go_roundw
            case rel =>
              refine ⟨j - 1, swp dj j (j - 1), by congr 1; omega, by omega, by omega, by rw [size_swp]; exact hsj, ?_, ?_⟩
              · rw [HG.out, HG.out]
                exact HW.out.swap (nq + 1) (by omega) (by omega)
              · rw [← HI.out, insInner_go ltInt a j dj hja (by rw [← HG.out, ← HG.out]; exact hl)]
            case measure => simp [intOf]; omega
          · have hl : ltInt (G j) (G (j - 1)) = false := by assumption
            go_roundw
            case rel => exact OUT.out (Or.inr (by rw [← HG.out, ← HG.out]; exact hl)) nq
            case measure => simp [intOf]; omega
        · go_quiet (first | (go_at_call 34; exact Calls.quiet_of_same ((CL.out _ _ _).mono fun _ _ q => ⟨q.1, q.2.symm⟩)))
          go_wp2
          go_roundw
          case rel => exact OUT.out (Or.inl (by omega)) nq
          case measure => simp [intOf]; omega
    · have hge : ¬ i < b := by assumption
      go_end0
      exact ⟨rfl, by unfold Sort.insertionSort; rw [← HO.out, insOuter_stop _ _ _ _ _ hge]; exact HS.out⟩
end Go.Proofs.Ytacjdgglfeemcaa
