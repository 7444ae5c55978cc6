/-
  WALKS of the landed functions of layer 9: Check, place, Find.
-/
import Derived.Test.YthkmhmjhcjgbbaaElLaws3
namespace Go.Proofs.Ythkmhmjhcjgbbaa
open Go.RowKit Go.Em El_

set_option maxRecDepth 100000 in
set_option maxHeartbeats 1000000 in
theorem check_any (l : List El) (sa : Option Addr) (c : Nat) (w : World) (h : At w sa l) (hl : l.length ≤ 1000000) :
    Calls Try.prog 12 #[.slice sa l.length c] w fun e w' => e = .returned (.int .i64 (chk l)) ∧ Below w.heap.size w w' := by
  have HA := Lib.hid h
  clear h
  by_cases h32 : 32 < l.length
  · have HC : Hid (chk l = 6) := if_pos h32
    go_enter Try.func12, Try.ntmps12
    go_wp2
    go_returns
    exact ⟨by rw [HC.out]; rfl, Below.refl _ _⟩
  · have HC : Hid (chk l = chkL l) := if_neg h32
    go_enter Try.func12, Try.ntmps12
    go_wp2
    go_loopw [10] (fun i wr => ∃ k : Nat, k ≤ l.length ∧ i = .int .i64 k ∧ (∀ j (hj : j < l.length), j < k → chkE l[j] = 0) ∧ Below w.heap.size w wr) (fun i _ => l.length - (intOf i).toNat)
    case atStart => exact ⟨0, Nat.zero_le _, rfl, fun j _ hj => absurd hj (Nat.not_lt_zero j), Below.refl _ _⟩
    case round =>
      rename_i wr
      obtain ⟨k, hk, rfl, hj, hb⟩ := hrel
      have HJ := Lib.hid hj
      have HB := Lib.hid hb
      have HB1 : Hid (Below w.heap.size w (wr.alloc (.cells #[.int .i64 0, .string ⟨#[]⟩] 35))) := hb.alloc hb.size _
      clear hj
      by_cases hlt : k < l.length
      · obtain ⟨b, off, rfl, -, c0, c1⟩ := HA.out.below hb k hlt
        have HLT := Lib.hid hlt
        have HE : Hid (chkE l[k] = if l[k].id < 0 ∨ 255 < l[k].id then 4 else if 255 < l[k].s.size then 2 else 0) := rfl
        have HX : Hid (¬ chkE l[k] = 0 → chkL l = chkE l[k]) := fun hn => chkL_at hlt HJ.out hn
        have HN : Hid (chkE l[k] = 0 → ∀ j (hj : j < l.length), j < k + 1 → chkE l[j] = 0) := fun h0 j hj hjk => by
          by_cases e : j = k
          · subst e; exact h0
          · exact HJ.out j hj (by omega)
        have HB2 : Hid (Below w.heap.size w (wr.alloc (.cells #[.int .i64 l[k].id, .string l[k].s] 35))) := hb.alloc hb.size _
        generalize l[k].id = id at *
        generalize l[k].s = t at *
        generalize chkE l[k] = r at *
        clear HJ hb HB1
        by_cases h0 : id < 0
        · rw [if_pos (.inl h0)] at HE
          obtain rfl := HE.out
          have HR := Lib.hid (HX.out (by decide))
          clear HX HN
          go_wp2
          go_returns
          exact ⟨by rw [HC.out, HR.out]; rfl, HB2.out⟩
        · by_cases h255 : 255 < id
          · rw [if_pos (.inr h255)] at HE
            obtain rfl := HE.out
            have HR := Lib.hid (HX.out (by decide))
            clear HX HN
            go_wp2
            go_returns
            exact ⟨by rw [HC.out, HR.out]; rfl, HB2.out⟩
          · rw [if_neg (by omega)] at HE
            have h255' : decide (255 < id) = false := decide_eq_false h255
            by_cases hs : 255 < t.size
            · rw [if_pos hs] at HE
              obtain rfl := HE.out
              have HR := Lib.hid (HX.out (by decide))
              clear HX HN
              go_wp2
              go_returns
              exact ⟨by rw [HC.out, HR.out]; rfl, HB2.out⟩
            · rw [if_neg hs] at HE
              obtain rfl := HE.out
              have HR := Lib.hid (HN.out rfl)
              clear HX HN
              go_wp2
              go_roundw
              case rel => exact ⟨k + 1, HLT.out, by go_num, HR.out, HB2.out⟩
              case measure => have := HLT.out; simp [intOf]; omega
      · obtain rfl : k = l.length := by omega
        have HR : Hid (chkL l = 0) := chkL_all fun j hj => HJ.out j hj hj
        clear HJ hb HB1
        go_wp2
        go_returns
        exact ⟨by rw [HC.out, HR.out]; rfl, HB.out⟩

set_option maxRecDepth 100000 in
set_option maxHeartbeats 1000000 in
theorem place_any (l : List El) (sa : Option Addr) (c : Nat) (id : Int) (w : World) (h : At w sa l) (hl : l.length ≤ 1000000) :
    Calls Try.prog 22 #[.slice sa l.length c, .int .i64 id] w fun e w' => e = .returned (.int .i64 (idx l id)) ∧ Below w.heap.size w w' := by
  have HA := Lib.hid h
  clear h
  go_enter Try.func22, Try.ntmps22
  go_wp2
  go_loopw [9] (fun i wr => ∃ k : Nat, k ≤ l.length ∧ i = .int .i64 k ∧ (∀ j (hj : j < l.length), j < k → ¬ l[j].id = id) ∧ Below w.heap.size w wr) (fun i _ => l.length - (intOf i).toNat)
  case atStart => exact ⟨0, Nat.zero_le _, rfl, fun j _ hj => absurd hj (Nat.not_lt_zero j), Below.refl _ _⟩
  case round =>
    rename_i wr
    obtain ⟨k, hk, rfl, hj, hb⟩ := hrel
    have HJ := Lib.hid hj
    have HB := Lib.hid hb
    clear hj
    by_cases hlt : k < l.length
    · obtain ⟨b, off, rfl, -, c0, c1⟩ := HA.out.below hb k hlt
      have HLT := Lib.hid hlt
      have HX : Hid (l[k].id = id → idx l id = k) := fun he => idx_at hlt HJ.out he
      have HN : Hid (¬ l[k].id = id → ∀ j (hj : j < l.length), j < k + 1 → ¬ l[j].id = id) := fun h0 j hj hjk => by
        by_cases e : j = k
        · subst e; exact h0
        · exact HJ.out j hj (by omega)
      have HB2 : Hid (Below w.heap.size w (wr.alloc (.cells #[.int .i64 l[k].id, .string l[k].s] 35))) := hb.alloc hb.size _
      generalize l[k].id = x at *
      generalize l[k].s = t at *
      clear HJ hb
      by_cases he : x = id
      · have HR := Lib.hid (HX.out he)
        have HB3 := HB2
        rw [he] at HB3
        clear HX HN HB2
        go_wp2
        go_returns
        exact ⟨by rw [HR.out]; rfl, HB3.out⟩
      · have HR := Lib.hid (HN.out he)
        clear HX HN
        go_wp2
        go_roundw
        case rel => exact ⟨k + 1, HLT.out, by go_num, HR.out, HB2.out⟩
        case measure => have := HLT.out; simp [intOf]; omega
    · obtain rfl : k = l.length := by omega
      have HR : Hid (idx l id = l.length) := idx_none (id := id) fun j hj => HJ.out j hj hj
      clear HJ hb
      go_wp2
      go_returns
      exact ⟨by rw [HR.out]; rfl, HB.out⟩

set_option maxRecDepth 100000 in
set_option maxHeartbeats 1000000 in
theorem find_any (l : List El) (sa : Option Addr) (c : Nat) (id : Int) (w : World) (h : At w sa l) (hl : l.length ≤ 1000000) :
    Calls Try.prog 17 #[.slice sa l.length c, .int .i64 id] w fun e w' => e = .returned (.tuple #[.string (fnd l id).1, .bool (fnd l id).2]) ∧ Below w.heap.size w w' := by
  have CF := Lib.hid (place_any l sa c id w h hl)
  by_cases hi : idx l id < l.length
  · have hn : fnd l id = ((l[idx l id]'hi).s, true) := fnd_yes hi rfl
    obtain ⟨b, off, rfl, hbl, -, c1⟩ := h (idx l id) hi
    have HC1 := Lib.hid (fun (w' : World) (hb : Below w.heap.size w w') => (hb.cell (p := ⟨b, off + idx l id * 2 + 1, none⟩) hbl).trans c1)
    have HN := Lib.hid hn
    have hne : ((idx l id : Int) == (l.length : Int)) = false := by simp; omega
    generalize (l[idx l id]'hi).s = t at *
    generalize idx l id = k at *
    clear hn h c1
    go_enter Try.func17, Try.ntmps17
    go_wp2_with (go_at_call 22; refine CF.out.mono ?_; rintro e w' ⟨rfl, hb⟩; have c1 := HC1.out _ hb; have HB := Lib.hid hb; clear hb)
    go_returns
    exact ⟨by rw [HN.out]; rfl, HB.out⟩
  · have hf : idx l id = l.length := by have := idx_le l id; omega
    have HN : Hid (fnd l id = (⟨#[]⟩, false)) := fnd_no hf
    rw [hf] at CF
    clear hf h hi
    go_enter Try.func17, Try.ntmps17
    go_wp2_with (go_at_call 22; refine CF.out.mono ?_; rintro e w' ⟨rfl, hb⟩; have HB := Lib.hid hb; clear hb)
    go_returns
    exact ⟨by rw [HN.out]; rfl, HB.out⟩
end Go.Proofs.Ythkmhmjhcjgbbaa
