/-
  WALKS of layer 9: the reference's Small, Check, first, Find, Same.
-/
import Derived.Test.YtojiffpmmgjpjaaDoorElAt
import Derived.WalkSpells
import Derived.WalkLawsBesides
import Derived.Deep.QuietTactic
import Derived.BigQuiet
import Derived.Lib.Hide
import Derived.Handy
import Derived.Deep.LoopGhost
namespace Go.Proofs.YtojiffpmmgjpjaaDoor
open Go.RowKit Go.Em El_

theorem top_lt {l : List El} {k : Nat} (h : k < top l) : k < l.length ∧ k < 101 := by unfold top at h; split at h <;> omega
theorem top_end {l : List El} {k : Nat} (h : k ≤ top l) (hn : ¬ k < top l) : k = top l ∧ (¬ k < l.length ∨ (k < l.length ∧ ¬ k < 101)) := by
  by_cases h1 : l.length < 101
  · have e : top l = l.length := if_pos h1
    omega
  · have e : top l = 101 := if_neg h1
    omega

set_option maxRecDepth 100000 in
set_option maxHeartbeats 1000000 in
theorem refCheck_any (l : List El) (sa : Option Addr) (c : Nat) (w : World) (h : At w sa l) (hl : l.length ≤ 1000000) :
    Calls Tryd.prog 53 #[.slice sa l.length c] w fun e w' => e = .returned (.int .i64 (chk l)) ∧ w = w' := by
  have HA := Lib.hid h
  clear h
  by_cases h32 : 32 < l.length
  · have HC : Hid (chk l = 6) := if_pos h32
    go_enter Tryd.func53, Tryd.ntmps53
    go_wp2
    go_returns
    exact ⟨by rw [HC.out]; rfl, rfl⟩
  · have HC : Hid (chk l = chkL l) := if_neg h32
    go_enter Tryd.func53, Tryd.ntmps53
    go_wp2
    go_loop [3] (fun i => ∃ k : Nat, k ≤ l.length ∧ i = .int .i64 k ∧ ∀ j (hj : j < l.length), j < k → chkE l[j] = 0) (fun i => l.length - (intOf i).toNat)
    case atStart => exact ⟨0, Nat.zero_le _, rfl, fun j _ hj => absurd hj (Nat.not_lt_zero j)⟩
    case round =>
      obtain ⟨k, hk, rfl, hj⟩ := hrel
      have HJ := Lib.hid hj
      clear hj
      by_cases hlt : k < l.length
      · obtain ⟨b, off, rfl, -, c0, c1⟩ := HA.out k hlt
        have HLT := Lib.hid hlt
        have HE : Hid (chkE l[k] = if l[k].id < 0 ∨ 255 < l[k].id then 4 else if 255 < l[k].s.size then 2 else 0) := rfl
        have HX : Hid (¬ chkE l[k] = 0 → chkL l = chkE l[k]) := fun hn => chkL_at hlt HJ.out hn
        have HN : Hid (chkE l[k] = 0 → ∀ j (hj : j < l.length), j < k + 1 → chkE l[j] = 0) := fun h0 j hj hjk => by
          by_cases e : j = k
          · subst e; exact h0
          · exact HJ.out j hj (by omega)
        generalize l[k].id = id at *
        generalize l[k].s = t at *
        generalize chkE l[k] = r at *
        clear HJ
        by_cases h0 : id < 0
        · rw [if_pos (.inl h0)] at HE
          obtain rfl := HE.out
          have HR := Lib.hid (HX.out (by decide))
          clear HX HN
          go_wp2
          go_returns
          exact ⟨by rw [HC.out, HR.out]; rfl, rfl⟩
        · by_cases h255 : 255 < id
          · rw [if_pos (.inr h255)] at HE
            obtain rfl := HE.out
            have HR := Lib.hid (HX.out (by decide))
            clear HX HN
            go_wp2
            go_returns
            exact ⟨by rw [HC.out, HR.out]; rfl, rfl⟩
          · rw [if_neg (by omega)] at HE
            have h255' : decide (255 < id) = false := decide_eq_false h255
            by_cases hs : 255 < t.size
            · rw [if_pos hs] at HE
              obtain rfl := HE.out
              have HR := Lib.hid (HX.out (by decide))
              clear HX HN
              go_wp2
              go_returns
              exact ⟨by rw [HC.out, HR.out]; rfl, rfl⟩
            · rw [if_neg hs] at HE
              obtain rfl := HE.out
              have HR := Lib.hid (HN.out rfl)
              clear HX HN
              go_wp2
              go_round
              case rel => exact ⟨k + 1, HLT.out, by go_num, HR.out⟩
              case measure => have := HLT.out; simp [intOf]; omega
      · obtain rfl : k = l.length := by omega
        have HR : Hid (chkL l = 0) := chkL_all fun j hj => HJ.out j hj hj
        clear HJ
        go_wp2
        go_returns
        exact ⟨by rw [HC.out, HR.out]; rfl, rfl⟩

/-- The index of the first element, or -1. -/
def fst1 (l : List El) (id : Int) : Int := if idx l id < l.length then idx l id else -1

end Go.Proofs.YtojiffpmmgjpjaaDoor
