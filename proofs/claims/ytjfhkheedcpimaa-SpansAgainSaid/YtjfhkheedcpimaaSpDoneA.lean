/-
  WALKS OF THE LANDED CODE OF LAYER 7, first part: empty, Length, Has, Cross.
-/
import Derived.Test.YtjfhkheedcpimaaSpProg
namespace Go.Proofs.Ytjfhkheedcpimaa
open Go.RowKit Go.Sp

set_option maxHeartbeats 400000 in
theorem empty_any (s : Sp) (w : World) :
    Calls Try.prog 27 #[sv s] w fun e w' => e = .returned (.bool (decide (s.t ≤ s.f))) ∧ Below w.heap.size w w' := by
  obtain ⟨f, u⟩ := s
  unfold sv
  go_enter Try.func27, Try.ntmps27
  go_wp2
  go_returns
  exact ⟨rfl, (Below.refl _ _).alloc (Nat.le_refl _) _⟩

set_option maxHeartbeats 400000 in
theorem length_any (s : Sp) (w : World) (h : near s) :
    Calls Try.prog 12 #[sv s] w fun e w' => e = .returned (.int .i64 (len s)) ∧ Below w.heap.size w w' := by
  have HE := Lib.hid (fun w => empty_any s w)
  obtain ⟨f, u⟩ := s
  obtain ⟨⟨h1, h2⟩, h3, h4⟩ := h
  simp only at h1 h2 h3 h4 HE
  have hw : IntKind.i64.wrap (u - f) = u - f := IntWalk.i64_in _ (by omega)
  have hy : u ≤ f → len ⟨f, u⟩ = 0 := fun h => if_pos h
  have hn : ¬ u ≤ f → len ⟨f, u⟩ = u - f := fun h => if_neg h
  generalize len ⟨f, u⟩ = n at *
  unfold sv at *
  clear h1 h2 h3 h4
  have hlt : w.heap.size < (w.alloc (.cells #[.int .i64 f, .int .i64 u] 23)).heap.size := by simp
  have c0 : (w.alloc (.cells #[.int .i64 f, .int .i64 u] 23)).cell? ⟨w.heap.size, 0, none⟩ = some (.int .i64 f) := by simp
  have c1 : (w.alloc (.cells #[.int .i64 f, .int .i64 u] 23)).cell? ⟨w.heap.size, 1, none⟩ = some (.int .i64 u) := by simp
  have hb0 : Below w.heap.size w (w.alloc (.cells #[.int .i64 f, .int .i64 u] 23)) := (Below.refl _ _).alloc (Nat.le_refl _) _
  have HB := Lib.hid hb0
  have HC := Lib.hid (And.intro c0 (And.intro c1 hlt))
  clear hb0 c0 c1 hlt
  by_cases hneg : u ≤ f
  · obtain rfl := hy hneg
    have HT : Hid (∀ w, Calls Try.prog 27 #[.agg #[.int .i64 f, .int .i64 u]] w fun e w' => e = .returned (.bool true) ∧ Below w.heap.size w w') := fun w => by
      have := HE.out w; rwa [decide_eq_true hneg] at this
    clear hy hn HE hneg
    go_enter Try.func12, Try.ntmps12
    go_wp2_with (go_at_call 27; refine (HT.out _).mono ?_; rintro e w1 ⟨rfl, hb1⟩; have HB1 := Lib.hid (HB.out.trans (hb1.mono HB.out.size)); clear hb1)
    go_returns
    exact ⟨rfl, HB1.out⟩
  · obtain rfl := hn hneg
    have HT : Hid (∀ w, Calls Try.prog 27 #[.agg #[.int .i64 f, .int .i64 u]] w fun e w' => e = .returned (.bool false) ∧ Below w.heap.size w w') := fun w => by
      have := HE.out w; rwa [decide_eq_false hneg] at this
    clear hy hn HE hneg
    go_enter Try.func12, Try.ntmps12
    go_wp2_with (go_at_call 27; refine (HT.out _).mono ?_; rintro e w1 ⟨rfl, hb1⟩; have HB1 := Lib.hid (HB.out.trans (hb1.mono HB.out.size)); have c0 := (hb1.cell (p := ⟨w.heap.size, 0, none⟩) HC.out.2.2).trans HC.out.1; have c1 := (hb1.cell (p := ⟨w.heap.size, 1, none⟩) HC.out.2.2).trans HC.out.2.1; clear hb1)
    go_returns
    exact ⟨rfl, HB1.out⟩

set_option maxHeartbeats 400000 in
theorem has_any (s : Sp) (t : Int) (w : World) :
    Calls Try.prog 14 #[sv s, .int .i64 t] w fun e w' => e = .returned (.bool (decide (has s t))) ∧ Below w.heap.size w w' := by
  obtain ⟨f, u⟩ := s
  have hy : (f ≤ t ∧ t < u) → decide (has ⟨f, u⟩ t) = true := fun h => decide_eq_true h
  have hn : ¬ (f ≤ t ∧ t < u) → decide (has ⟨f, u⟩ t) = false := fun h => decide_eq_false h
  generalize decide (has ⟨f, u⟩ t) = v at *
  unfold sv
  by_cases h1 : f ≤ t
  · by_cases h2 : t < u
    · obtain rfl := hy ⟨h1, h2⟩
      clear hy hn
      go_enter Try.func14, Try.ntmps14
      go_wp2
      go_returns
      exact ⟨rfl, (Below.refl _ _).alloc (Nat.le_refl _) _⟩
    · obtain rfl := hn (fun h => h2 h.2)
      clear hy hn
      have h2' : decide (t < u) = false := decide_eq_false h2
      go_enter Try.func14, Try.ntmps14
      go_wp2
      go_returns
      exact ⟨rfl, (Below.refl _ _).alloc (Nat.le_refl _) _⟩
  · obtain rfl := hn (fun h => h1 h.1)
    clear hy hn
    go_enter Try.func14, Try.ntmps14
    go_wp2
    go_returns
    exact ⟨rfl, (Below.refl _ _).alloc (Nat.le_refl _) _⟩

end Go.Proofs.Ytjfhkheedcpimaa
