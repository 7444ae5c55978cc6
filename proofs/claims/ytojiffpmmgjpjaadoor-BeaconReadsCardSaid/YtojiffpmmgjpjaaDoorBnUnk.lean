/-
  THE WALK of the laws of layer 14: unknown.
-/
import Derived.Test.YtojiffpmmgjpjaaDoorBnRefK
namespace Go.Bn
/-- An element with an unknown ID and not too many octets. -/
def unkE (e : Go.Em.El) : Bool := decide (0 ≤ e.id) && (decide (e.id ≤ 255) && (decide (e.s.size ≤ 200) && !kn e.id))
def unk (l : List Go.Em.El) : Bool := decide (l.length ≤ 20) && l.all unkE
theorem unkE_iff {e : Go.Em.El} : unkE e = true ↔ 0 ≤ e.id ∧ e.id ≤ 255 ∧ e.s.size ≤ 200 ∧ kn e.id = false := by
  unfold unkE; simp
theorem unk_iff {l : List Go.Em.El} : unk l = true ↔ l.length ≤ 20 ∧ ∀ e ∈ l, unkE e = true := by
  unfold unk; rw [Bool.and_eq_true, decide_eq_true_iff, List.all_eq_true]
theorem unk_no {l : List Go.Em.El} {i : Nat} (hi : i < l.length) (h : unkE l[i] = false) : unk l = false := by
  rw [Bool.eq_false_iff]; intro hu
  have := (unk_iff.1 hu).2 _ (List.getElem_mem hi)
  rw [h] at this; cases this
theorem unk_yes {l : List Go.Em.El} (hn : l.length ≤ 20) (h : ∀ i (hi : i < l.length), unkE l[i] = true) : unk l = true :=
  unk_iff.2 ⟨hn, fun e he => by obtain ⟨i, hi, rfl⟩ := List.getElem_of_mem he; exact h i hi⟩
end Go.Bn

namespace Go.Proofs.YtojiffpmmgjpjaaDoor
open Go.RowKit Go.Bn Go.Wr

/-- The IDs in their block, the elements that came in. -/
structure Ust (w : World) (sa : Option Addr) (l : List Go.Em.El) (wi : World) : Prop where
  ids : ∀ j : Nat, j < 6 → wi.cell? ⟨w.heap.size, j, none⟩ = some (.int .i64 (Go.Bn.ids.getD j 0))
  lies : El_.At wi sa l
  bel : Below w.heap.size w wi
theorem Ust.drew {w wi : World} {sa : Option Addr} {l : List Go.Em.El} (h : Ust w sa l wi) : Ust w sa l wi.drew :=
  ⟨h.ids, h.lies.drew, h.bel.drew⟩
theorem Ust.new {w : World} {sa : Option Addr} {l : List Go.Em.El} (h : El_.At w sa l) : Ust w sa l (w.alloc (.cells #[.int .i64 0, .int .i64 3, .int .i64 5, .int .i64 11, .int .i64 12, .int .i64 37] 3)) :=
  have K := Kst.new h
  ⟨K.ids, K.lies, K.bel⟩

set_option maxRecDepth 100000 in
set_option maxHeartbeats 8000000 in
theorem unknown14_any (l : List Go.Em.El) (sa : Option Addr) (c : Nat) (w : World) (h : El_.At w sa l) :
    Calls Tryd.prog 7 #[.slice sa l.length c] w fun e w' => e = .returned (.bool (unk l)) ∧ Below w.heap.size w w' := by
  by_cases hn : 20 < l.length
  · have hn' : 20 < (l.length : Int) := by omega
    have HR : Hid (unk l = false) := by
      show unk l = false
      rw [Bool.eq_false_iff]; intro hu; have := (unk_iff.1 hu).1; omega
    clear hn h
    go_enter Tryd.func7, Tryd.ntmps7
    go_wp2
    go_returns
    exact ⟨by rw [HR.out]; rfl, Below.refl _ _⟩
  have hn' : ¬ 20 < (l.length : Int) := by omega
  have K0 := Lib.hid (Ust.new h)
  have HN : Hid (l.length ≤ 20) := by show l.length ≤ 20; omega
  clear h hn
  go_enter Tryd.func7, Tryd.ntmps7
  go_wp2_with (go_at_call 17; refine (refIDs14_any _).mono ?_; rintro e w' ⟨rfl, rfl⟩)
  go_loopw [4, 5] (fun i _ wr => ∃ (n : Nat) (u : World), n ≤ l.length ∧ i = .int .i64 n ∧ u = wr ∧ Aside (∀ j (hj : j < l.length), j < n → unkE l[j] = true) ∧ Ust w sa l u) (fun i _ _ => l.length - (intOf i).toNat)
  case atStart => exact ⟨0, _, Nat.zero_le _, rfl, rfl, fun j _ hj => absurd hj (Nat.not_lt_zero j), K0.out⟩
  case round =>
    obtain ⟨i, wr, hi, rfl, rfl, hal, hst⟩ := hrel
    have HST := Lib.hid hst
    have HAL := Lib.hid hal.out
    clear hst hal K0
    by_cases hlt : i < l.length
    · obtain ⟨b, off, hsa, hbl, -, -⟩ := HST.out.lies i hlt
      subst hsa
      have HQ : Hid (∀ wi : World, El_.At wi (some ⟨b, off, none⟩) l → wi.cell? ⟨b, off + i * 2, none⟩ = some (.int .i64 l[i].id) ∧ wi.cell? ⟨b, off + i * 2 + 1, none⟩ = some (.string l[i].s)) := fun wi ha => by
        obtain ⟨b', off', e, -, q0, q1⟩ := ha i hlt
        injection e with e; injection e with e1 e2; subst e1; subst e2
        exact ⟨q0, q1⟩
      have HNO := Lib.hid (fun h => unk_no hlt h)
      have HS : Hid (unkE l[i] = true → ∀ j (hj : j < l.length), j < i + 1 → unkE l[j] = true) := fun he j hj hji => by
        by_cases e : j = i
        · subst e; exact he
        · exact HAL.out j hj (by omega)
      have HLT := Lib.hid hlt
      obtain ⟨q0, q1⟩ := HQ.out _ HST.out.lies
      generalize l[i] = x at *
      obtain ⟨xi, xt⟩ := x
      have HU := Lib.hid (unkE_iff (e := ⟨xi, xt⟩))
      simp only at HQ q0 q1 HU
      have i0 : (0 : Int) ≤ (i : Int) := by omega
      have i1 : (i : Int) < (l.length : Int) := by omega
      clear HAL hi hlt
      by_cases c0 : xi < 0
      · have HR : Hid (unk l = false) := HNO.out (by rw [Bool.eq_false_iff]; intro hu; have := (HU.out.1 hu).1; omega)
        clear HNO HS HU HQ
        go_wp2
        go_returns
        exact ⟨by rw [HR.out]; rfl, HST.out.bel⟩
      by_cases c1 : 255 < xi
      · have HR : Hid (unk l = false) := HNO.out (by rw [Bool.eq_false_iff]; intro hu; have := (HU.out.1 hu).2.1; omega)
        clear HNO HS HU HQ
        go_wp2
        go_returns
        exact ⟨by rw [HR.out]; rfl, HST.out.bel⟩
      by_cases c2 : 200 < (xt.size : Int)
      · have HR : Hid (unk l = false) := HNO.out (by rw [Bool.eq_false_iff]; intro hu; have := (HU.out.1 hu).2.2.1; omega)
        clear HNO HS HU HQ
        go_wp2
        go_returns
        exact ⟨by rw [HR.out]; rfl, HST.out.bel⟩
      have HKN : Hid (kn xi = true → unk l = false) := fun hk => HNO.out (by rw [Bool.eq_false_iff]; intro hu; have := (HU.out.1 hu).2.2.2; rw [hk] at this; cases this)
      have HKF : Hid (kn xi = false → ∀ j (hj : j < l.length), j < i + 1 → unkE l[j] = true) := fun hk => HS.out (HU.out.2 ⟨by omega, by omega, by omega, hk⟩)
      clear HNO HS HU
      go_wp2
      go_loopw [5] (fun j wj => ∃ (k : Nat) (u : World), k ≤ 6 ∧ j = .int .i64 k ∧ u = wj ∧ Aside (nkn xi k) ∧ Ust w (some ⟨b, off, none⟩) l u) (fun j _ => 6 - (intOf j).toNat)
      case atStart => exact ⟨0, _, by omega, rfl, rfl, fun j hj => absurd hj (Nat.not_lt_zero j), HST.out⟩
      case round =>
        obtain ⟨k, wj, hk, rfl, rfl, hnk, hst2⟩ := hrel
        have HS2 := Lib.hid hst2
        have HNK := Lib.hid hnk.out
        clear hst2 hnk HST q0 q1
        by_cases h6 : k < 6
        · obtain ⟨q0, -⟩ := HQ.out _ HS2.out.lies
          obtain ⟨q0', -⟩ := HQ.out _ HS2.out.drew.lies
          have t0 := HS2.out.ids k h6
          have t0' := HS2.out.drew.ids k h6
          have HS3 := Lib.hid HS2.out.drew
          have HK := Lib.hid (fun h => kn_at (id := xi) h6 h)
          have HSU := Lib.hid (fun h => nkn_succ HNK.out h)
          generalize Go.Bn.ids.getD k 0 = z at *
          have j0 : (0 : Int) ≤ (k : Int) := by omega
          have j1 : (k : Int) < 6 := by omega
          clear HNK
          by_cases hz : xi = z
          · have HR := Lib.hid (HKN.out (HK.out hz.symm))
            have hz' : (xi == z) = true := by simp [hz]
            clear hz HK HSU HS2
            go_wp2
            go_region
            go_wp2
            go_returns
            exact ⟨by rw [HR.out]; rfl, HS3.out.bel⟩
          · have HR := Lib.hid (HSU.out (fun e => hz e.symm))
            have hz' : (xi == z) = false := by simp [hz]
            clear hz HK HSU HS2
            go_wp2
            go_region
            go_wp2
            go_roundw
            case rel => exact ⟨k + 1, _, by omega, by go_num, rfl, HR.out, HS3.out⟩
            case measure => simp [intOf]; omega
        · obtain rfl : k = 6 := by omega
          have HR := Lib.hid (HKF.out (kn_none HNK.out))
          clear HNK
          go_wp2
          go_roundw
          case rel => exact ⟨i + 1, _, HLT.out, by go_num, rfl, HR.out, HS2.out⟩
          case measure => have := HLT.out; simp [intOf]; omega
    · obtain rfl : i = l.length := by omega
      have HR := Lib.hid (unk_yes HN.out (fun j hj => HAL.out j hj hj))
      clear HAL
      go_wp2
      go_returns
      exact ⟨by rw [HR.out]; rfl, HST.out.bel⟩
end Go.Proofs.YtojiffpmmgjpjaaDoor
