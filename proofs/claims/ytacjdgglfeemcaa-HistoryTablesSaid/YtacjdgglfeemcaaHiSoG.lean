/-
  slices.Sort's callees at addresses: partialInsertionSortOrdered (rows shorter than 50), breakPatternsOrdered.
-/
import Derived.Test.YtacjdgglfeemcaaHiSoE
import Derived.Test.YtacjdgglfeemcaaShelf
import Derived.Sort.Walk7
namespace Go.Proofs.Ytacjdgglfeemcaa
open Go.RowKit Go.Sort

theorem sorted_adj {a b : Nat} {d : Array Int} (h : ∀ t, a < t → t < b → ltInt d[t]! d[t - 1]! = false) : SortedIn ltInt a b d := by
  have hle : ∀ t, a < t → t < b → d[t - 1]! ≤ d[t]! := fun t h1 h2 => by
    have : ¬ d[t]! < d[t - 1]! := of_decide_eq_false (h t h1 h2)
    omega
  have key : ∀ n i, a ≤ i → i + n < b → d[i]! ≤ d[i + n]! := by
    intro n
    induction n with
    | zero => intro i _ _; exact Int.le_refl _
    | succ n ih =>
      intro i h1 h2
      have h3 := ih i h1 (by omega)
      have h4 := hle (i + (n + 1)) (by omega) h2
      rw [show i + (n + 1) - 1 = i + n by omega] at h4
      omega
  intro i j h1 h2 h3
  have h4 := key (j - i) i h1 (by omega)
  rw [show i + (j - i) = j by omega] at h4
  exact decide_eq_false (by omega)

set_option maxRecDepth 1000000 in
set_option maxHeartbeats 8000000 in
theorem partial_any (g o c a b : Nat) (d : Array Int) (w : World) (hH : Rw w g o d c) (hab : a < b) (hb : b ≤ d.size) (h50 : b < a + 50) (hsz : d.size < 1000) :
    Calls Try.prog 33 #[.slice (some ⟨g, o, none⟩) d.size c, .int .i64 a, .int .i64 b] w fun e w' =>
      ∃ x : Bool, e = .returned (.bool x) ∧ (x = true → SortedIn ltInt a b d) ∧ St w g o c d w' := by
  have CL := Lib.hid less_any
  have HS0 := Lib.hid (show St w g o c d w from ⟨hH, grownBy_refl _ _⟩)
  have z50 : (b : Int) - (a : Int) < 50 := by omega
  clear hH
  go_enter Try.func33, Try.ntmps33
  go_wp2
  refine wp_loop_rounds 1 ?_
  rw [rounds_succ]
  go_wp2
  go_loopw [7] (fun vi wr => ∃ k : Nat, vi = .int .i64 k ∧ a < k ∧ k ≤ b ∧ St w g o c d wr ∧ ∀ t, a < t → t < k → ltInt d[t]! d[t - 1]! = false) (fun vi _ => b - (intOf vi).toNat)
  case atStart => exact ⟨a + 1, by go_num, by omega, by omega, HS0.out, fun t h1 h2 => by omega⟩
  case round =>
    clear HS0
    obtain ⟨k, rfl, hak, hkb, hwr, hA⟩ := hrel
    have HA := Lib.hid hA
    obtain ⟨G, hF⟩ := hwr.fam rfl
    have HG := Lib.hid hF.val
    have hcw := hF.cell
    have hfw := hF.froz
    have HS := Lib.hid hwr
    clear hF hwr hA
    go_wp2
    by_cases hkb' : k < b
    · go_quiet (first | (go_at_call 34; exact Calls.quiet_of_same ((CL.out _ _ _).mono fun _ _ q => ⟨q.1, q.2.symm⟩)))
      go_wp2
      · have hl : ltInt (G k) (G (k - 1)) = false := (by have h : (!ltInt (G k) (G (k - 1))) = true := (by assumption); simpa using h)
        go_roundw
        case rel =>
          refine ⟨k + 1, by go_num, by omega, by omega, HS.out.drewN nq, fun t h1 h2 => ?_⟩
          by_cases e : t = k
          · rw [e, ← HG.out, ← HG.out]; exact hl
          · exact HA.out t h1 (by omega)
        case measure => simp [intOf]; omega
      · go_ret
        exact ⟨false, rfl, fun h => Bool.noConfusion h, HS.out.drewN nq⟩
    · obtain rfl : k = b := by omega
      go_quiet (first | (go_at_call 34; exact Calls.quiet_of_same ((CL.out _ _ _).mono fun _ _ q => ⟨q.1, q.2.symm⟩)))
      go_wp2
      go_ret
      exact ⟨true, rfl, fun _ => sorted_adj HA.out, HS.out.drewN nq⟩
end Go.Proofs.Ytacjdgglfeemcaa
