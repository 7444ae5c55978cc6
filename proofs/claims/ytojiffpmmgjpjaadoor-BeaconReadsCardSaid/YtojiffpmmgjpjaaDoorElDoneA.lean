/-
  WALKS of the landed functions of layer 9: Check, place, Find.
-/
import Derived.Test.YtojiffpmmgjpjaaDoorElRef3
import Derived.Test.YtojiffpmmgjpjaaDoorElProg
namespace Go.Proofs.YtojiffpmmgjpjaaDoor
open Go.RowKit Go.Em El_

set_option maxRecDepth 100000 in
set_option maxHeartbeats 1000000 in
theorem check_any (l : List El) (sa : Option Addr) (c : Nat) (w : World) (h : At w sa l) (hl : l.length ≤ 1000000) :
    Calls Tryd.prog 35 #[.slice sa l.length c] w fun e w' => e = .returned (.int .i64 (chk l)) ∧ Below w.heap.size w w' := by
  have HA := Lib.hid h
  clear h
  by_cases h32 : 32 < l.length
  · have HC : Hid (chk l = 6) := if_pos h32
    go_enter Tryd.func35, Tryd.ntmps35
    go_wp2
    go_returns
    exact ⟨by rw [HC.out]; rfl, Below.refl _ _⟩
  · have HC : Hid (chk l = chkL l) := if_neg h32
    go_enter Tryd.func35, Tryd.ntmps35
    go_wp2
    go_loopw [10] (fun i wr => ∃ k : Nat, k ≤ l.length ∧ i = .int .i64 k ∧ (∀ j (hj : j < l.length), j < k → chkE l[j] = 0) ∧ Below w.heap.size w wr) (fun i _ => l.length - (intOf i).toNat)
    case atStart => exact ⟨0, Nat.zero_le _, rfl, fun j _ hj => absurd hj (Nat.not_lt_zero j), Below.refl _ _⟩
    case round =>
      rename_i wr
      obtain ⟨k, hk, rfl, hj, hb⟩ := hrel
      have HJ := Lib.hid hj
      have HB := Lib.hid hb
      have HB1 : Hid (Below w.heap.size w (wr.alloc (.cells #[.int .i64 0, .string ⟨#[]⟩] 49))) := hb.alloc hb.size _
      clear hj
      by_cases hlt : k < l.length
      · obtain ⟨b, off, rfl, -, c0, c1⟩ := HA.out.below hb k hlt
        have HLT := Lib.hid hlt
        have HE : Hid (chkE l[k] = if l[k].id < 0 ∨ 255 < l[k].id then 4 else if 255 < l[k].s.size then 2 else 0) := rfl
        have HX : Hid (¬ chkE l[k] = 0 → chkL l = chkE l[k]) := fun hn => chkL_at hlt HJ.out hn
        have HN : Hid (chkE l[k] = 0 → ∀ j (hj : j < l.length), j < k + 1 → chkE l[j] = 0) := fun h0 j hj hjk => by
          by_cases e : j = k
          · subst e; exact h0
          · exact HJ.out j hj (by omega)
        have HB2 : Hid (Below w.heap.size w (wr.alloc (.cells #[.int .i64 l[k].id, .string l[k].s] 49))) := hb.alloc hb.size _
        generalize l[k].id = id at *
        generalize l[k].s = t at *
        generalize chkE l[k] = r at *
        clear HJ hb HB1
        by_cases h0 : id < 0
        · rw [if_pos (.inl h0)] at HE
          obtain rfl := HE.out
          have HR := Lib.hid (HX.out (by decide))
          clear HX HN
          go_wp2
          go_returns
          exact ⟨by rw [HC.out, HR.out]; rfl, HB2.out⟩
        · by_cases h255 : 255 < id
          · rw [if_pos (.inr h255)] at HE
            obtain rfl := HE.out
            have HR := Lib.hid (HX.out (by decide))
            clear HX HN
            go_wp2
            go_returns
            exact ⟨by rw [HC.out, HR.out]; rfl, HB2.out⟩
          · rw [if_neg (by omega)] at HE
            have h255' : decide (255 < id) = false := decide_eq_false h255
            by_cases hs : 255 < t.size
            · rw [if_pos hs] at HE
              obtain rfl := HE.out
              have HR := Lib.hid (HX.out (by decide))
              clear HX HN
              go_wp2
              go_returns
              exact ⟨by rw [HC.out, HR.out]; rfl, HB2.out⟩
            · rw [if_neg hs] at HE
              obtain rfl := HE.out
              have HR := Lib.hid (HN.out rfl)
              clear HX HN
              go_wp2
              go_roundw
              case rel => exact ⟨k + 1, HLT.out, by go_num, HR.out, HB2.out⟩
              case measure => have := HLT.out; simp [intOf]; omega
      · obtain rfl : k = l.length := by omega
        have HR : Hid (chkL l = 0) := chkL_all fun j hj => HJ.out j hj hj
        clear HJ hb HB1
        go_wp2
        go_returns
        exact ⟨by rw [HC.out, HR.out]; rfl, HB.out⟩

end Go.Proofs.YtojiffpmmgjpjaaDoor
