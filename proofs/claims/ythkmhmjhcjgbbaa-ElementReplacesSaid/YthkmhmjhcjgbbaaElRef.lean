/-
  WALKS of layer 9: the reference's Small, Check, first, Find, Same.
-/
import Derived.Test.YthkmhmjhcjgbbaaElAt
import Derived.WalkSpells
import Derived.WalkLawsBesides
import Derived.Deep.QuietTactic
import Derived.BigQuiet
import Derived.Lib.Hide
import Derived.Handy
import Derived.Deep.LoopGhost
namespace Go.Proofs.Ythkmhmjhcjgbbaa
open Go.RowKit Go.Em El_

theorem top_lt {l : List El} {k : Nat} (h : k < top l) : k < l.length ∧ k < 101 := by unfold top at h; split at h <;> omega
theorem top_end {l : List El} {k : Nat} (h : k ≤ top l) (hn : ¬ k < top l) : k = top l ∧ (¬ k < l.length ∨ (k < l.length ∧ ¬ k < 101)) := by
  by_cases h1 : l.length < 101
  · have e : top l = l.length := if_pos h1
    omega
  · have e : top l = 101 := if_neg h1
    omega

set_option maxRecDepth 100000 in
set_option maxHeartbeats 1000000 in
theorem refSmall_any (l : List El) (sa : Option Addr) (c : Nat) (w : World) (h : At w sa l) (hl : l.length ≤ maxLen) :
    Calls Try.prog 8 #[.slice sa l.length c] w fun e w' => e = .returned (.bool (sml l)) ∧ w = w' := by
  have HA := Lib.hid h
  have HL := Lib.hid hl
  unfold maxLen at hl
  clear h
  go_enter Try.func8, Try.ntmps8
  go_wp2
  go_loop [3, 4] (fun n i => ∃ k : Nat, k ≤ top l ∧ i = .int .i64 k ∧ n = .int .i64 (sumN l k)) (fun _ i => 101 - (intOf i).toNat)
  case atStart => exact ⟨0, Nat.zero_le _, rfl, rfl⟩
  case round =>
    obtain ⟨k, hk, rfl, rfl⟩ := hrel
    by_cases hlt : k < top l
    · obtain ⟨h1, h2⟩ := top_lt hlt
      obtain ⟨b, off, rfl, -, c0, c1⟩ := HA.out k h1
      have HS : Hid (sumN l (k + 1) = sumN l k + cut ((l.getD k ⟨0, ⟨#[]⟩⟩).s.size)) := rfl
      rw [List.getD_eq_getElem?_getD, List.getElem?_eq_getElem h1, Option.getD_some] at HS
      have hs := sumN_le l k
      have HLT := Lib.hid hlt
      generalize sumN l k = n at *
      generalize l[k].s = t at *
      clear c0 hlt hk
      by_cases ht : t.size < 20001
      · have hcut : cut t.size = t.size := if_pos ht
        rw [hcut] at HS
        clear hcut
        go_wp2
        go_round
        case rel => exact ⟨k + 1, HLT.out, by go_num, by rw [HS.out]; go_num⟩
        case measure => simp [intOf]; omega
      · have hcut : cut t.size = 20001 := if_neg ht
        rw [hcut] at HS
        clear hcut
        go_wp2
        go_round
        case rel => exact ⟨k + 1, HLT.out, by go_num, by rw [HS.out]; go_num⟩
        case measure => simp [intOf]; omega
    · obtain ⟨rfl, hx⟩ := top_end hk hlt
      have hE : sml l = (decide (l.length ≤ 100) && decide (sumN l (top l) ≤ 20000)) := rfl
      have hs := sumN_le l (top l)
      have HE := Lib.hid hE
      clear hE
      generalize sumN l (top l) = n at *
      generalize top l = k at *
      clear hk hlt
      by_cases h1 : l.length ≤ 100
      · by_cases h2 : n ≤ 20000
        · rw [decide_eq_true h1, decide_eq_true h2] at HE
          have h2' : decide ((n : Int) ≤ 20000) = true := decide_eq_true (by omega)
          rcases hx with hx | ⟨hx, hx'⟩
          · go_wp2
            go_returns
            exact ⟨by rw [HE.out]; rfl, rfl⟩
          · omega
        · rw [decide_eq_true h1, decide_eq_false h2] at HE
          have h2' : decide ((n : Int) ≤ 20000) = false := decide_eq_false (by omega)
          rcases hx with hx | ⟨hx, hx'⟩
          · go_wp2
            go_returns
            exact ⟨by rw [HE.out]; rfl, rfl⟩
          · omega
      · rw [decide_eq_false h1] at HE
        have hx2 : k < l.length → decide ((k : Int) < 101) = false := fun _ => decide_eq_false (by omega)
        rcases hx with hx | ⟨hx, hx'⟩
        · go_wp2
          go_returns
          exact ⟨by rw [HE.out]; rfl, rfl⟩
        · have hx3 := hx2 hx
          go_wp2
          go_returns
          exact ⟨by rw [HE.out]; rfl, rfl⟩

set_option maxRecDepth 100000 in
set_option maxHeartbeats 1000000 in
theorem refCheck_any (l : List El) (sa : Option Addr) (c : Nat) (w : World) (h : At w sa l) (hl : l.length ≤ 1000000) :
    Calls Try.prog 13 #[.slice sa l.length c] w fun e w' => e = .returned (.int .i64 (chk l)) ∧ w = w' := by
  have HA := Lib.hid h
  clear h
  by_cases h32 : 32 < l.length
  · have HC : Hid (chk l = 6) := if_pos h32
    go_enter Try.func13, Try.ntmps13
    go_wp2
    go_returns
    exact ⟨by rw [HC.out]; rfl, rfl⟩
  · have HC : Hid (chk l = chkL l) := if_neg h32
    go_enter Try.func13, Try.ntmps13
    go_wp2
    go_loop [3] (fun i => ∃ k : Nat, k ≤ l.length ∧ i = .int .i64 k ∧ ∀ j (hj : j < l.length), j < k → chkE l[j] = 0) (fun i => l.length - (intOf i).toNat)
    case atStart => exact ⟨0, Nat.zero_le _, rfl, fun j _ hj => absurd hj (Nat.not_lt_zero j)⟩
    case round =>
      obtain ⟨k, hk, rfl, hj⟩ := hrel
      have HJ := Lib.hid hj
      clear hj
      by_cases hlt : k < l.length
      · obtain ⟨b, off, rfl, -, c0, c1⟩ := HA.out k hlt
        have HLT := Lib.hid hlt
        have HE : Hid (chkE l[k] = if l[k].id < 0 ∨ 255 < l[k].id then 4 else if 255 < l[k].s.size then 2 else 0) := rfl
        have HX : Hid (¬ chkE l[k] = 0 → chkL l = chkE l[k]) := fun hn => chkL_at hlt HJ.out hn
        have HN : Hid (chkE l[k] = 0 → ∀ j (hj : j < l.length), j < k + 1 → chkE l[j] = 0) := fun h0 j hj hjk => by
          by_cases e : j = k
          · subst e; exact h0
          · exact HJ.out j hj (by omega)
        generalize l[k].id = id at *
        generalize l[k].s = t at *
        generalize chkE l[k] = r at *
        clear HJ
        by_cases h0 : id < 0
        · rw [if_pos (.inl h0)] at HE
          obtain rfl := HE.out
          have HR := Lib.hid (HX.out (by decide))
          clear HX HN
          go_wp2
          go_returns
          exact ⟨by rw [HC.out, HR.out]; rfl, rfl⟩
        · by_cases h255 : 255 < id
          · rw [if_pos (.inr h255)] at HE
            obtain rfl := HE.out
            have HR := Lib.hid (HX.out (by decide))
            clear HX HN
            go_wp2
            go_returns
            exact ⟨by rw [HC.out, HR.out]; rfl, rfl⟩
          · rw [if_neg (by omega)] at HE
            have h255' : decide (255 < id) = false := decide_eq_false h255
            by_cases hs : 255 < t.size
            · rw [if_pos hs] at HE
              obtain rfl := HE.out
              have HR := Lib.hid (HX.out (by decide))
              clear HX HN
              go_wp2
              go_returns
              exact ⟨by rw [HC.out, HR.out]; rfl, rfl⟩
            · rw [if_neg hs] at HE
              obtain rfl := HE.out
              have HR := Lib.hid (HN.out rfl)
              clear HX HN
              go_wp2
              go_round
              case rel => exact ⟨k + 1, HLT.out, by go_num, HR.out⟩
              case measure => have := HLT.out; simp [intOf]; omega
      · obtain rfl : k = l.length := by omega
        have HR : Hid (chkL l = 0) := chkL_all fun j hj => HJ.out j hj hj
        clear HJ
        go_wp2
        go_returns
        exact ⟨by rw [HC.out, HR.out]; rfl, rfl⟩

/-- The index of the first element, or -1. -/
def fst1 (l : List El) (id : Int) : Int := if idx l id < l.length then idx l id else -1

set_option maxRecDepth 100000 in
set_option maxHeartbeats 1000000 in
theorem refFirst_any (l : List El) (sa : Option Addr) (c : Nat) (id : Int) (w : World) (h : At w sa l) (hl : l.length ≤ 1000000) :
    Calls Try.prog 23 #[.slice sa l.length c, .int .i64 id] w fun e w' => e = .returned (.int .i64 (fst1 l id)) ∧ w = w' := by
  have HA := Lib.hid h
  clear h
  go_enter Try.func23, Try.ntmps23
  go_wp2
  go_loop [5] (fun i => ∃ k : Nat, k ≤ l.length ∧ i = .int .i64 k ∧ ∀ j (hj : j < l.length), j < k → ¬ l[j].id = id) (fun i => l.length - (intOf i).toNat)
  case atStart => exact ⟨0, Nat.zero_le _, rfl, fun j _ hj => absurd hj (Nat.not_lt_zero j)⟩
  case round =>
    obtain ⟨k, hk, rfl, hj⟩ := hrel
    have HJ := Lib.hid hj
    clear hj
    by_cases hlt : k < l.length
    · obtain ⟨b, off, rfl, -, c0, c1⟩ := HA.out k hlt
      have HLT := Lib.hid hlt
      have HX : Hid (l[k].id = id → fst1 l id = k) := fun he => by
        have hi := idx_at hlt HJ.out he
        unfold fst1; rw [hi, if_pos hlt]
      have HN : Hid (¬ l[k].id = id → ∀ j (hj : j < l.length), j < k + 1 → ¬ l[j].id = id) := fun h0 j hj hjk => by
        by_cases e : j = k
        · subst e; exact h0
        · exact HJ.out j hj (by omega)
      generalize l[k].id = x at *
      clear HJ c1
      by_cases he : x = id
      · have HR := Lib.hid (HX.out he)
        clear HX HN
        go_wp2
        go_returns
        exact ⟨by rw [HR.out]; rfl, rfl⟩
      · have HR := Lib.hid (HN.out he)
        clear HX HN
        go_wp2
        go_round
        case rel => exact ⟨k + 1, HLT.out, by go_num, HR.out⟩
        case measure => have := HLT.out; simp [intOf]; omega
    · obtain rfl : k = l.length := by omega
      have HR : Hid (fst1 l id = -1) := by
        have hi := idx_none (id := id) fun j hj => HJ.out j hj hj
        show fst1 l id = -1
        unfold fst1; rw [hi, if_neg (Nat.lt_irrefl _)]
      clear HJ
      go_wp2
      go_returns
      exact ⟨by rw [HR.out]; rfl, rfl⟩

set_option maxRecDepth 100000 in
set_option maxHeartbeats 1000000 in
theorem refFind_any (l : List El) (sa : Option Addr) (c : Nat) (id : Int) (w : World) (h : At w sa l) (hl : l.length ≤ 1000000) :
    Calls Try.prog 18 #[.slice sa l.length c, .int .i64 id] w fun e w' => e = .returned (.tuple #[.string (fnd l id).1, .bool (fnd l id).2]) ∧ w = w' := by
  have CF := Lib.hid (refFirst_any l sa c id w h hl)
  by_cases hi : idx l id < l.length
  · have hf : fst1 l id = idx l id := if_pos hi
    have hn : fnd l id = ((l[idx l id]'hi).s, true) := fnd_yes hi rfl
    obtain ⟨b, off, rfl, -, c0, c1⟩ := h (idx l id) hi
    have HN := Lib.hid hn
    rw [hf] at CF
    generalize (l[idx l id]'hi).s = t at *
    generalize idx l id = k at *
    clear hf hn c0 h
    go_enter Try.func18, Try.ntmps18
    go_wp2_with (go_at_call 23; refine CF.out.mono ?_; rintro e w' ⟨rfl, rfl⟩)
    go_returns
    exact ⟨by rw [HN.out]; rfl, rfl⟩
  · have hf : fst1 l id = -1 := if_neg hi
    have HN : Hid (fnd l id = (⟨#[]⟩, false)) := fnd_no (by have := idx_le l id; omega)
    rw [hf] at CF
    clear hf h
    go_enter Try.func18, Try.ntmps18
    go_wp2_with (go_at_call 23; refine CF.out.mono ?_; rintro e w' ⟨rfl, rfl⟩)
    go_returns
    exact ⟨by rw [HN.out]; rfl, rfl⟩
end Go.Proofs.Ythkmhmjhcjgbbaa
