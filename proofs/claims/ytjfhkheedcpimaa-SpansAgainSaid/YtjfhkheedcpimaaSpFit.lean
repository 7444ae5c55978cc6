/-
  THE WALK of the reference's Fit of layer 7.
-/
import Derived.Test.YtjfhkheedcpimaaSpLaws
namespace Go.Proofs.Ytjfhkheedcpimaa
open Go.RowKit Go.Sp

instance (s : Sp) : Decidable (fits s) := by unfold fits; infer_instance
/-- What Fit answers. -/
def fitL (l : List Sp) : Bool := decide ((∀ s ∈ l, fits s) ∧ l.length ≤ 12)

set_option maxRecDepth 100000 in
set_option maxHeartbeats 1000000 in
theorem refFit_any (l : List Sp) (sa : Option Addr) (c : Nat) (w : World) (hl : l.length ≤ 9223372036854775807) (h : SpAt w sa l) :
    Calls Try.prog 16 #[.slice sa l.length c] w fun e w' => e = .returned (.bool (fitL l)) ∧ Below w.heap.size w w' := by
  have H1 := Lib.hid h
  clear h
  have HL := Lib.hid hl
  go_enter Try.func16, Try.ntmps16
  go_wp2
  go_loopw [3] (fun i wr => ∃ k q : Nat, k ≤ l.length ∧ i = .int .i64 k ∧ wr = w.drewN q ∧ (∀ j (hj : j < l.length), j < k → fits l[j])) (fun i _ => l.length - (intOf i).toNat)
  case atStart => exact ⟨0, 0, Nat.zero_le _, rfl, rfl, fun j _ hj => absurd hj (Nat.not_lt_zero _)⟩
  case round =>
    obtain ⟨k, q, hk, rfl, rfl, hno⟩ := hrel
    have HNO := Lib.hid hno
    clear hno
    by_cases hlt : k < l.length
    · obtain ⟨b, off, rfl, -, c1, c2⟩ := H1.out k hlt
      have i0 : (0 : Int) ≤ (k : Int) := by omega
      have i1 : (k : Int) < (l.length : Int) := by omega
      have hlt' := Lib.hid hlt
      have HF : Hid (fits l[k] ↔ ((-200 ≤ l[k].f ∧ l[k].f ≤ 200) ∧ (-200 ≤ l[k].t ∧ l[k].t ≤ 200))) := Iff.rfl
      have HM : Hid (¬ fits l[k] → fitL l = false) := fun hn => decide_eq_false fun h => hn (h.1 _ (List.getElem_mem hlt))
      have HK : Hid (fits l[k] → ∀ j (hj : j < l.length), j < k + 1 → fits l[j]) := fun hy j hj hjk => by
        by_cases e : j = k
        · subst e; exact hy
        · exact HNO.out j hj (by omega)
      generalize fits l[k] = F at *
      generalize l[k].f = f at *
      generalize l[k].t = t at *
      by_cases g1 : f < -200
      · have hr := Lib.hid (HM.out (fun h => by have := HF.out.1 h; omega))
        clear HF HM HK
        go_wp2
        go_returns
        exact ⟨by rw [hr.out]; rfl, rfl, rfl, rfl, Nat.le_refl _, fun _ _ => rfl⟩
      by_cases g2 : 200 < f
      · have hr := Lib.hid (HM.out (fun h => by have := HF.out.1 h; omega))
        clear HF HM HK
        go_wp2
        go_returns
        exact ⟨by rw [hr.out]; rfl, rfl, rfl, rfl, Nat.le_refl _, fun _ _ => rfl⟩
      by_cases g3 : t < -200
      · have hr := Lib.hid (HM.out (fun h => by have := HF.out.1 h; omega))
        clear HF HM HK
        go_wp2
        go_returns
        exact ⟨by rw [hr.out]; rfl, rfl, rfl, rfl, Nat.le_refl _, fun _ _ => rfl⟩
      by_cases g4 : 200 < t
      · have hr := Lib.hid (HM.out (fun h => by have := HF.out.1 h; omega))
        clear HF HM HK
        go_wp2
        go_returns
        exact ⟨by rw [hr.out]; rfl, rfl, rfl, rfl, Nat.le_refl _, fun _ _ => rfl⟩
      have hy := Lib.hid (HK.out (HF.out.2 (by omega)))
      clear HF HM HK
      go_wp2
      go_roundw
      case rel => exact ⟨k + 1, q, hlt'.out, by go_num, rfl, hy.out⟩
      case measure => have := hlt'.out; simp [intOf]; omega
    · obtain rfl : k = l.length := by omega
      have hr : fitL l = decide ((l.length : Int) ≤ 12) := by
        have : ∀ s ∈ l, fits s := fun s hs => by obtain ⟨i, hi, rfl⟩ := List.getElem_of_mem hs; exact HNO.out i hi hi
        by_cases h12 : l.length ≤ 12
        · rw [fitL, decide_eq_true ⟨this, h12⟩, decide_eq_true (by omega)]
        · rw [fitL, decide_eq_false (fun h => h12 h.2), decide_eq_false (by omega)]
      have HR := Lib.hid hr
      clear hr
      go_wp2
      go_returns
      exact ⟨by rw [HR.out]; rfl, ⟨rfl, rfl, rfl, Nat.le_refl _, fun _ _ => rfl⟩⟩
end Go.Proofs.Ytjfhkheedcpimaa
