/-
  WALKS of the reference of layer 7: Has, Near, Length, Cross, In; a slice of spans.
-/
import Derived.Test.YtjfhkheedcpimaaRows
import Derived.Test.YtjfhkheedcpimaaSpMath
import Derived.WalkKit
import Derived.WalkSpells
import Derived.WalkLawsBesides
import Derived.Deep.QuietTactic
import Derived.BigQuiet
import Derived.Lib.Hide
import Derived.Handy
import Derived.Below
namespace Go.Proofs.Ytjfhkheedcpimaa
open Go.RowKit Go.Sp

/-- A span as a value. -/
def sv (s : Sp) : Value := .agg #[.int .i64 s.f, .int .i64 s.t]

/-- The spans lie behind the address. -/
def SpAt (W : World) (sa : Option Addr) (l : List Sp) : Prop :=
  ∀ i (h : i < l.length), ∃ b off, sa = some ⟨b, off, none⟩ ∧ b < W.heap.size ∧ W.cell? ⟨b, off + i * 2, none⟩ = some (.int .i64 l[i].f) ∧ W.cell? ⟨b, off + i * 2 + 1, none⟩ = some (.int .i64 l[i].t)
theorem SpAt.below {W W' : World} {sa : Option Addr} {l : List Sp} (h : SpAt W sa l) (hb : Below W.heap.size W W') : SpAt W' sa l := by
  intro i hi
  obtain ⟨b, off, e, hl, h0, h1⟩ := h i hi
  exact ⟨b, off, e, Nat.lt_of_lt_of_le hl hb.size, (hb.cell hl).trans h0, (hb.cell hl).trans h1⟩

set_option maxHeartbeats 400000 in
theorem refHas_any (s : Sp) (t : Int) (w : World) :
    Calls Try.prog 15 #[sv s, .int .i64 t] w fun e w' => e = .returned (.bool (decide (has s t))) ∧ Below w.heap.size w w' := by
  obtain ⟨f, u⟩ := s
  have hy : (f ≤ t ∧ t < u) → decide (has ⟨f, u⟩ t) = true := fun h => decide_eq_true h
  have hn : ¬ (f ≤ t ∧ t < u) → decide (has ⟨f, u⟩ t) = false := fun h => decide_eq_false h
  generalize decide (has ⟨f, u⟩ t) = v at *
  unfold sv
  by_cases h1 : f ≤ t
  · by_cases h2 : t < u
    · obtain rfl := hy ⟨h1, h2⟩
      clear hy hn
      go_enter Try.func15, Try.ntmps15
      go_wp2
      go_returns
      exact ⟨rfl, (Below.refl _ _).alloc (Nat.le_refl _) _⟩
    · obtain rfl := hn (fun h => h2 h.2)
      clear hy hn
      have h2' : decide (t < u) = false := decide_eq_false h2
      go_enter Try.func15, Try.ntmps15
      go_wp2
      go_returns
      exact ⟨rfl, (Below.refl _ _).alloc (Nat.le_refl _) _⟩
  · obtain rfl := hn (fun h => h1 h.1)
    clear hy hn
    go_enter Try.func15, Try.ntmps15
    go_wp2
    go_returns
    exact ⟨rfl, (Below.refl _ _).alloc (Nat.le_refl _) _⟩

/-- Both bounds are from -2^40 to 2^40. -/
def near (s : Sp) : Prop := (-1099511627776 ≤ s.f ∧ s.f ≤ 1099511627776) ∧ (-1099511627776 ≤ s.t ∧ s.t ≤ 1099511627776)
instance (s : Sp) : Decidable (near s) := by unfold near; infer_instance

set_option maxRecDepth 100000 in
set_option maxHeartbeats 400000 in
theorem refNear_any (s : Sp) (w : World) :
    Calls Try.prog 8 #[sv s] w fun e w' => e = .returned (.bool (decide (near s))) ∧ Below w.heap.size w w' := by
  obtain ⟨f, u⟩ := s
  have hy : ((-1099511627776 ≤ f ∧ f ≤ 1099511627776) ∧ (-1099511627776 ≤ u ∧ u ≤ 1099511627776)) → decide (near ⟨f, u⟩) = true := fun h => decide_eq_true h
  have hn : ¬ ((-1099511627776 ≤ f ∧ f ≤ 1099511627776) ∧ (-1099511627776 ≤ u ∧ u ≤ 1099511627776)) → decide (near ⟨f, u⟩) = false := fun h => decide_eq_false h
  generalize decide (near ⟨f, u⟩) = v at *
  unfold sv
  by_cases h1 : -1099511627776 ≤ f
  · by_cases h2 : f ≤ 1099511627776
    · by_cases h3 : -1099511627776 ≤ u
      · by_cases h4 : u ≤ 1099511627776
        · obtain rfl := hy ⟨⟨h1, h2⟩, ⟨h3, h4⟩⟩
          clear hy hn
          go_enter Try.func8, Try.ntmps8
          go_wp2
          go_returns
          exact ⟨rfl, (Below.refl _ _).alloc (Nat.le_refl _) _⟩
        · obtain rfl := hn (fun h => h4 h.2.2)
          have h4' : decide (u ≤ 1099511627776) = false := decide_eq_false h4
          clear hy hn
          go_enter Try.func8, Try.ntmps8
          go_wp2
          go_returns
          exact ⟨rfl, (Below.refl _ _).alloc (Nat.le_refl _) _⟩
      · obtain rfl := hn (fun h => h3 h.2.1)
        have h3' : decide (-1099511627776 ≤ u) = false := decide_eq_false h3
        clear hy hn
        go_enter Try.func8, Try.ntmps8
        go_wp2
        go_returns
        exact ⟨rfl, (Below.refl _ _).alloc (Nat.le_refl _) _⟩
    · obtain rfl := hn (fun h => h2 h.1.2)
      have h2' : decide (f ≤ 1099511627776) = false := decide_eq_false h2
      clear hy hn
      go_enter Try.func8, Try.ntmps8
      go_wp2
      go_returns
      exact ⟨rfl, (Below.refl _ _).alloc (Nat.le_refl _) _⟩
  · obtain rfl := hn (fun h => h1 h.1.1)
    have h1' : decide (-1099511627776 ≤ f) = false := decide_eq_false h1
    clear hy hn
    go_enter Try.func8, Try.ntmps8
    go_wp2
    go_returns
    exact ⟨rfl, (Below.refl _ _).alloc (Nat.le_refl _) _⟩

set_option maxHeartbeats 400000 in
theorem refLength_any (s : Sp) (w : World) (h : near s) :
    Calls Try.prog 13 #[sv s] w fun e w' => e = .returned (.int .i64 (len s)) ∧ Below w.heap.size w w' := by
  obtain ⟨f, u⟩ := s
  obtain ⟨⟨h1, h2⟩, h3, h4⟩ := h
  simp only at h1 h2 h3 h4
  have hw : IntKind.i64.wrap (u - f) = u - f := IntWalk.i64_in _ (by omega)
  have hy : u ≤ f → len ⟨f, u⟩ = 0 := fun h => if_pos h
  have hn : ¬ u ≤ f → len ⟨f, u⟩ = u - f := fun h => if_neg h
  generalize len ⟨f, u⟩ = n at *
  unfold sv
  clear h1 h2 h3 h4
  by_cases hneg : u ≤ f
  · obtain rfl := hy hneg
    have hneg' : u - f ≤ 0 := by omega
    clear hy hn
    go_enter Try.func13, Try.ntmps13
    go_wp2
    go_returns
    exact ⟨rfl, (Below.refl _ _).alloc (Nat.le_refl _) _⟩
  · obtain rfl := hn hneg
    have hneg' : 0 < u - f := by omega
    clear hy hn
    go_enter Try.func13, Try.ntmps13
    go_wp2
    go_returns
    exact ⟨rfl, (Below.refl _ _).alloc (Nat.le_refl _) _⟩

set_option maxRecDepth 100000 in
set_option maxHeartbeats 1000000 in
theorem refIn_any (l : List Sp) (sa : Option Addr) (c : Nat) (t : Int) (w : World) (hl : l.length ≤ 1000000) (h : SpAt w sa l) :
    Calls Try.prog 28 #[.slice sa l.length c, .int .i64 t] w fun e w' => e = .returned (.bool (decide (InL l t))) ∧ Below w.heap.size w w' := by
  have HO := Lib.hid h
  have HH := Lib.hid (fun s w => refHas_any s t w)
  unfold sv at HH
  clear h
  go_enter Try.func28, Try.ntmps28
  go_wp2
  go_loopw [5] (fun i wr => ∃ k : Nat, k ≤ l.length ∧ i = .int .i64 k ∧ (∀ j (hj : j < l.length), j < k → ¬ has l[j] t) ∧ SpAt wr sa l ∧ Below w.heap.size w wr) (fun i _ => l.length - (intOf i).toNat)
  case atStart => exact ⟨0, Nat.zero_le _, rfl, fun j _ hj => absurd hj (Nat.not_lt_zero _), HO.out, Below.refl _ _⟩
  case round =>
    clear HO
    obtain ⟨k, hk, rfl, hno, hsp, hb⟩ := hrel
    have HNO := Lib.hid hno
    have HSP := Lib.hid hsp
    have HB := Lib.hid hb
    by_cases hlt : k < l.length
    · obtain ⟨b, off, rfl, -, h0, h1⟩ := hsp k hlt
      have hh : Hid (l[k] = ⟨l[k].f, l[k].t⟩) := rfl
      obtain ⟨d, hd⟩ : ∃ d, d = decide (has l[k] t) := ⟨_, rfl⟩
      have HHK : Hid (∀ w, Calls Try.prog 15 #[.agg #[.int .i64 l[k].f, .int .i64 l[k].t], .int .i64 t] w fun e w' => e = .returned (.bool d) ∧ Below w.heap.size w w') := fun w => by rw [hd]; exact HH.out l[k] w
      have hlt' := Lib.hid hlt
      clear hno hsp hb
      by_cases hx : has l[k] t
      · have hin : Hid (decide (InL l t) = true) := decide_eq_true ⟨l[k], List.getElem_mem hlt, hx⟩
        obtain rfl : d = true := by rw [hd]; exact decide_eq_true hx
        clear hd
        generalize l[k].f = f at *
        generalize l[k].t = u at *
        clear hx hh
        go_wp2_with (go_at_call 15; refine (HHK.out _).mono ?_; rintro e w2 ⟨rfl, hb2⟩)
        go_returns
        exact ⟨by rw [hin.out]; rfl, HB.out.trans (hb2.mono HB.out.size)⟩
      · have HX := Lib.hid hx
        obtain rfl : d = false := by rw [hd]; exact decide_eq_false hx
        clear hd
        generalize l[k].f = f at *
        generalize l[k].t = u at *
        clear hx hh
        go_wp2_with (go_at_call 15; refine (HHK.out _).mono ?_; rintro e w2 ⟨rfl, hb2⟩; have HSP2 := Lib.hid (HSP.out.below hb2); have HB2 := Lib.hid (HB.out.trans (hb2.mono HB.out.size)); clear hb2)
        go_roundw
        case rel => exact ⟨k + 1, hlt'.out, by go_num, fun j hj hjk => by
          by_cases e : j = k
          · subst e; exact HX.out
          · exact HNO.out j hj (by omega), HSP2.out, HB2.out⟩
        case measure => have := hlt'.out; simp [intOf]; omega
    · obtain rfl : k = l.length := by omega
      have hin : Hid (decide (InL l t) = false) := decide_eq_false (fun ⟨s, hs, ht⟩ => by
        obtain ⟨j, hj, rfl⟩ := List.getElem_of_mem hs
        exact hno j hj hj ht)
      clear hno hsp hb
      go_wp2
      go_returns
      exact ⟨by rw [hin.out]; rfl, HB.out⟩
end Go.Proofs.Ytjfhkheedcpimaa
