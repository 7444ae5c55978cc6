/-
  THE WALKS of the law's own tidy and count of layer 7.
-/
import Derived.Test.YtjfhkheedcpimaaSpProg
namespace Go.Proofs.Ytjfhkheedcpimaa
open Go.RowKit Go.Sp

set_option maxRecDepth 100000 in
set_option maxHeartbeats 1000000 in
theorem tidy_any (l : List Sp) (sa : Option Addr) (c : Nat) (w : World) (hl : l.length ≤ 1000000) (h : SpAt w sa l) (ht : Tidy l) :
    Calls Try.prog 25 #[.slice sa l.length c] w fun e w' => e = .returned (.bool true) ∧ Below w.heap.size w w' := by
  have H1 := Lib.hid h
  have HT := Lib.hid ht
  clear h ht
  go_enter Try.func25, Try.ntmps25
  go_wp2
  go_loopw [6] (fun i wr => ∃ k q : Nat, k ≤ l.length ∧ i = .int .i64 k ∧ wr = w.drewN q) (fun i _ => l.length - (intOf i).toNat)
  case atStart => exact ⟨0, 0, Nat.zero_le _, rfl, rfl⟩
  case round =>
    obtain ⟨k, q, hk, rfl, rfl⟩ := hrel
    by_cases hlt : k < l.length
    · obtain ⟨b, off, rfl, -, c1, c2⟩ := H1.out k hlt
      have i0 : (0 : Int) ≤ (k : Int) := by omega
      have i1 : (k : Int) < (l.length : Int) := by omega
      have hlt' := Lib.hid hlt
      have hne : l[k].f < l[k].t := HT.out.1 _ (List.getElem_mem hlt)
      have hne2 : ¬ l[k].t ≤ l[k].f := by omega
      by_cases hk0 : k = 0
      · have k0 : ¬ (0 : Int) < (k : Int) := by omega
        clear hk0
        have e0 : decide (0 < k) = false := decide_eq_false (by omega)
        have e1 : decide (l[k].t ≤ l[k].f) = false := decide_eq_false hne2
        generalize l[k].f = f at *
        generalize l[k].t = t at *
        go_wp2
        go_quiet (fail)
        go_wp2
        go_roundw
        case rel => exact ⟨k + 1, _, hlt'.out, by go_num, rfl⟩
        case measure => have := hlt'.out; simp [intOf]; omega
      · obtain ⟨j, hj⟩ : ∃ j, k = j + 1 := ⟨k - 1, by omega⟩
        obtain ⟨b', off', e, -, d1, d2⟩ := H1.out j (by omega)
        cases e
        have hlt2 : l[j].t < l[k].f := List.pairwise_iff_getElem.1 HT.out.2 j k (by omega) hlt (by omega)
        have hlt3 : ¬ l[k].f ≤ l[j].t := by omega
        have j0 : (0 : Int) < (k : Int) := by omega
        have j1 : (k : Int) - 1 = (j : Int) := by omega
        have j2 : (j : Int) < (l.length : Int) := by omega
        have j3 : (0 : Int) ≤ (j : Int) := by omega
        have e0 : decide (0 < k) = true := decide_eq_true (by omega)
        have e1 : decide (l[k].t ≤ l[k].f) = false := decide_eq_false hne2
        have e2 : decide (l[k].f ≤ l[j].t) = false := decide_eq_false hlt3
        generalize l[k].f = f at *
        generalize l[k].t = t at *
        generalize l[j].f = f' at *
        generalize l[j].t = t' at *
        clear hk0 hj
        go_wp2
        go_quiet (fail)
        go_wp2
        go_roundw
        case rel => exact ⟨k + 1, _, hlt'.out, by go_num, rfl⟩
        case measure => have := hlt'.out; simp [intOf]; omega
    · obtain rfl : k = l.length := by omega
      go_wp2
      go_returns
      exact ⟨rfl, ⟨rfl, rfl, rfl, Nat.le_refl _, fun _ _ => rfl⟩⟩
end Go.Proofs.Ytjfhkheedcpimaa
