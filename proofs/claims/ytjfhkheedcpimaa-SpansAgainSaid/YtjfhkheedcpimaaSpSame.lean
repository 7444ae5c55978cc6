/-
  THE WALKS of the reference's Same, Cross, Next; what its Union and Gaps are for spans that fit.
-/
import Derived.Test.YtjfhkheedcpimaaSpGaps
namespace Go.Proofs.Ytjfhkheedcpimaa
open Go.RowKit Go.Sp

/-- All bounds are from -200 to 200. -/
def fits (s : Sp) : Prop := (-200 ≤ s.f ∧ s.f ≤ 200) ∧ (-200 ≤ s.t ∧ s.t ≤ 200)
instance (s : Sp) : Decidable (fits s) := by unfold fits; infer_instance
theorem in_fits {l : List Sp} (h : ∀ s ∈ l, fits s) {t : Int} (ht : InL l t) : -200 ≤ t ∧ t < 200 := by
  obtain ⟨s, hs, h1, h2⟩ := ht
  have := h s hs
  unfold fits at this
  omega
theorem union_rs {l : List Sp} (h : ∀ s ∈ l, fits s) : IsUnion l (rs (mkU l) 403).1 := by
  have h0 : mkU l 402 = false := decide_eq_false (fun hi => by have := (in_fits h hi).2; omega)
  obtain ⟨h1, h2⟩ := rs_whole (mkU l) h0
  refine ⟨h1, fun t => ?_⟩
  rw [h2 t]
  constructor
  · rintro ⟨j, hj, rfl, hm⟩
    exact of_decide_eq_true hm
  · intro hi
    have := in_fits h hi
    exact ⟨(t + 201).toNat, by omega, by omega, decide_eq_true (by rw [show (((t + 201).toNat : Nat) : Int) - 201 = t by omega]; exact hi)⟩
theorem gaps_rs {w : Sp} {l : List Sp} (hw : fits w) : IsGaps w l (rs (mkG w l) 403).1 := by
  have hwt : ∀ t, has w t → -200 ≤ t ∧ t < 200 := fun t ht => by unfold fits at hw; unfold has at ht; omega
  have h0 : mkG w l 402 = false := by
    unfold mkG
    rw [decide_eq_false (fun hi => by have := (hwt _ hi).2; omega)]; rfl
  obtain ⟨h1, h2⟩ := rs_whole (mkG w l) h0
  refine ⟨h1, fun t => ?_⟩
  rw [h2 t]
  constructor
  · rintro ⟨j, hj, rfl, hm⟩
    unfold mkG at hm
    rw [Bool.and_eq_true, Bool.not_eq_true'] at hm
    exact ⟨of_decide_eq_true hm.1, of_decide_eq_false hm.2⟩
  · rintro ⟨hi, hn⟩
    have := hwt t hi
    refine ⟨(t + 201).toNat, by omega, by omega, ?_⟩
    unfold mkG
    rw [show (((t + 201).toNat : Nat) : Int) - 201 = t by omega, decide_eq_true hi, decide_eq_false hn]; rfl

set_option maxRecDepth 100000 in
set_option maxHeartbeats 1000000 in
theorem refSame_any (l : List Sp) (sa sb : Option Addr) (c c' : Nat) (w : World) (hl : l.length ≤ 1000000) (h : SpAt w sa l) (h' : SpAt w sb l) :
    Calls Try.prog 18 #[.slice sa l.length c, .slice sb l.length c'] w fun e w' => e = .returned (.bool true) ∧ Below w.heap.size w w' := by
  have H1 := Lib.hid h
  have H2 := Lib.hid h'
  clear h h'
  go_enter Try.func18, Try.ntmps18
  go_wp2
  go_loopw [5] (fun i wr => ∃ k q : Nat, k ≤ l.length ∧ i = .int .i64 k ∧ wr = w.drewN q) (fun i _ => l.length - (intOf i).toNat)
  case atStart => exact ⟨0, 0, Nat.zero_le _, rfl, rfl⟩
  case round =>
    obtain ⟨k, q, hk, rfl, rfl⟩ := hrel
    by_cases hlt : k < l.length
    · obtain ⟨b, off, rfl, -, c1, c2⟩ := H1.out k hlt
      obtain ⟨b', off', rfl, -, d1, d2⟩ := H2.out k hlt
      have i0 : (0 : Int) ≤ (k : Int) := by omega
      have i1 : (k : Int) < (l.length : Int) := by omega
      have hlt' := Lib.hid hlt
      generalize l[k].f = f at *
      generalize l[k].t = t at *
      go_wp2
      go_quiet (fail)
      go_wp2
      go_roundw
      case rel => exact ⟨k + 1, _, hlt'.out, by go_num, rfl⟩
      case measure => have := hlt'.out; simp [intOf]; omega
    · obtain rfl : k = l.length := by omega
      go_wp2
      go_returns
      exact ⟨rfl, ⟨rfl, rfl, rfl, Nat.le_refl _, fun _ _ => rfl⟩⟩

/-! Cross -/
def cross (a b : Sp) : Sp × Bool :=
  if (if b.t < a.t then b.t else a.t) ≤ (if a.f < b.f then b.f else a.f) then (⟨0, 0⟩, false) else (⟨if a.f < b.f then b.f else a.f, if b.t < a.t then b.t else a.t⟩, true)

set_option maxRecDepth 100000 in
set_option maxHeartbeats 1000000 in
theorem refCross_any (a b : Sp) (w : World) :
    Calls Try.prog 11 #[sv a, sv b] w fun e w' => e = .returned (.tuple #[sv (cross a b).1, .bool (cross a b).2]) ∧ Below w.heap.size w w' := by
  unfold cross sv
  obtain ⟨af, au⟩ := a
  obtain ⟨bf, bu⟩ := b
  simp only
  obtain ⟨mf, hmf⟩ : ∃ mf, (if af < bf then bf else af) = mf := ⟨_, rfl⟩
  obtain ⟨mt, hmt⟩ : ∃ mt, (if bu < au then bu else au) = mt := ⟨_, rfl⟩
  rw [hmf, hmt]
  by_cases hle : mt ≤ mf
  · rw [if_pos hle]
    go_enter Try.func11, Try.ntmps11
    go_wp2
    go_returns
    exact ⟨rfl, by go_grown⟩
  · rw [if_neg hle]
    go_enter Try.func11, Try.ntmps11
    go_wp2
    go_returns
    exact ⟨rfl, by go_grown⟩
end Go.Proofs.Ytjfhkheedcpimaa
