/-
  WHAT THE PROGRAM's FUNCTIONS OF LAYER 7 DO, as the laws' walks ask it: a structure of contracts (XSpDone proves it over the landed code).
-/
import Derived.Test.YtjfhkheedcpimaaSpSame
import Derived.Test.YtjfhkheedcpimaaSpNext
namespace Go.Proofs.Ytjfhkheedcpimaa
open Go.RowKit Go.Sp

structure Does : Prop where
  length_any : ∀ (s : Sp) (w : World) (_ : near s),
    Calls Try.prog 12 #[sv s] w fun e w' => e = .returned (.int .i64 (len s)) ∧ Below w.heap.size w w'
  has_any : ∀ (s : Sp) (t : Int) (w : World) (_ : (Lit.int .i64 t).wf = true),
    Calls Try.prog 14 #[sv s, .int .i64 t] w fun e w' => e = .returned (.bool (decide (has s t))) ∧ Below w.heap.size w w'
  cross_any : ∀ (a b : Sp) (w : World) (_ : near a) (_ : near b),
    Calls Try.prog 10 #[sv a, sv b] w fun e w' => e = .returned (.tuple #[sv (cross a b).1, .bool (cross a b).2]) ∧ Below w.heap.size w w'
  union_any : ∀ (l : List Sp) (sa : Option Addr) (c : Nat) (w : World) (_ : l.length ≤ 12) (_ : ∀ s ∈ l, near s) (_ : SpAt w sa l),
    Calls Try.prog 19 #[.slice sa l.length c] w fun e w' => (∃ u v0 c', e = .returned (.slice v0 u.length c') ∧ IsUnion l u ∧ u.length ≤ l.length ∧ (∀ s ∈ u, near s) ∧ SpAt w' v0 u) ∧ Below w.heap.size w w'
  total_any : ∀ (l u : List Sp) (sa : Option Addr) (c : Nat) (w : World) (_ : l.length ≤ 12) (_ : ∀ s ∈ l, near s) (_ : SpAt w sa l) (_ : IsUnion l u),
    Calls Try.prog 20 #[.slice sa l.length c] w fun e w' => e = .returned (.int .i64 (sum u)) ∧ Below w.heap.size w w'
  gaps_any : ∀ (s : Sp) (l : List Sp) (sa : Option Addr) (c : Nat) (w : World) (_ : l.length ≤ 12) (_ : near s) (_ : ∀ s ∈ l, near s) (_ : SpAt w sa l),
    Calls Try.prog 21 #[sv s, .slice sa l.length c] w fun e w' => (∃ g v0 c', e = .returned (.slice v0 g.length c') ∧ IsGaps s l g ∧ g.length ≤ l.length + 1 ∧ SpAt w' v0 g) ∧ Below w.heap.size w w'
  next_any : ∀ (now f p : Int) (w : World) (_ : (Lit.int .i64 now).wf = true) (_ : (Lit.int .i64 f).wf = true) (_ : (Lit.int .i64 p).wf = true),
    Calls Try.prog 23 #[.int .i64 now, .int .i64 f, .int .i64 p] w fun e w' => e = .returned (.tuple #[.int .i64 (nxt now f p).1, .bool (nxt now f p).2]) ∧ Below w.heap.size w w'

def l1 : List Sp := [⟨5, 7⟩, ⟨0, 2⟩, ⟨2, 3⟩, ⟨9, 9⟩]
def l2 : List Sp := [⟨2, 4⟩, ⟨4, 5⟩]
theorem u1 {u : List Sp} (h : IsUnion l1 u) : u = [⟨0, 3⟩, ⟨5, 7⟩] := by
  refine h.unique ⟨⟨by decide, by decide⟩, fun t => ?_⟩
  simp only [l1, InL.cons, has, InL.nil, or_false]
  omega
theorem g2 {g : List Sp} (h : IsGaps ⟨0, 10⟩ l2 g) : g = [⟨0, 2⟩, ⟨5, 10⟩] := by
  refine h.unique ⟨⟨by decide, by decide⟩, fun t => ?_⟩
  simp only [l2, InL.cons, has, InL.nil, or_false]
  omega
theorem near1 : ∀ s ∈ l1, near s := by unfold near; decide
theorem near2 : ∀ s ∈ l2, near s := by unfold near; decide

theorem spat_lit (w : World) (l : List Sp) (T : TypeId) : SpAt (w.alloc (.cells (flt l).toArray T)) (some ⟨w.heap.size, 0, none⟩) l := by
  intro i hi
  have hg := flt_get l i hi
  have hb : (w.alloc (.cells (flt l).toArray T)).heap[w.heap.size]? = some (.cells (flt l).toArray T) := Array.getElem?_push_size ..
  have e0 : 0 + i * 2 = 2 * i := by omega
  refine ⟨w.heap.size, 0, rfl, by simp, ?_, ?_⟩
  · rw [World.cell?, hb, e0]
    simpa using hg.1
  · rw [World.cell?, hb, e0]
    simpa using hg.2

/-- Two spans behind an address. -/
theorem spat_two {W : World} {sa : Option Addr} {a b : Sp} (h : SpAt W sa [a, b]) :
    ∃ g off, sa = some ⟨g, off, none⟩ ∧ g < W.heap.size ∧ W.cell? ⟨g, off, none⟩ = some (.int .i64 a.f) ∧ W.cell? ⟨g, off + 1, none⟩ = some (.int .i64 a.t) ∧ W.cell? ⟨g, off + 2, none⟩ = some (.int .i64 b.f) ∧ W.cell? ⟨g, off + 3, none⟩ = some (.int .i64 b.t) := by
  obtain ⟨g, off, rfl, hg, h0, h1⟩ := h 0 (by simp)
  obtain ⟨g', off', e, -, h2, h3⟩ := h 1 (by simp)
  cases e
  exact ⟨g, off, rfl, hg, by simpa using h0, by simpa using h1, by simpa using h2, by simpa using h3⟩

set_option maxRecDepth 100000 in
set_option maxHeartbeats 2000000 in
theorem lives_any (D : Does) (w : World) : Calls Try.prog 9 #[] w fun e w' => e = .returned (.bool true) ∧ Below w.heap.size w w' := by
  have HU := Lib.hid (fun sa c w h => D.union_any l1 sa c w (by decide) near1 h)
  have HG := Lib.hid (fun sa c w h => D.gaps_any ⟨0, 10⟩ l2 sa c w (by decide) (by unfold near; decide) near2 h)
  have HN := Lib.hid (fun w => D.next_any 11 3 5 w (by decide) (by decide) (by decide))
  rw [show nxt 11 3 5 = (13, true) from by decide] at HN
  go_enter Try.func9, Try.ntmps9
  go_wp2_with fail
  refine (HU.out _ 4 _ (spat_lit w l1 _)).mono ?_
  rintro e w1 ⟨⟨u, v0, c, rfl, hu, -, -, hat⟩, hb⟩
  have B1 := Lib.hid (((Below.refl w.heap.size w).alloc (Nat.le_refl _) _).trans (hb.mono (by simp)))
  obtain rfl := u1 hu
  clear hu hb
  have A1 := Lib.hid hat
  clear hat
  go_wp2_with fail
  refine (HG.out _ 2 _ (spat_lit w1 l2 _)).mono ?_
  rintro e w2 ⟨⟨u2, v2, c2, rfl, hu2, -, hat2⟩, hb⟩
  have b2 := ((Below.refl w1.heap.size w1).alloc (Nat.le_refl _) _).trans (hb.mono (by simp))
  have B2 := Lib.hid (B1.out.trans (b2.mono B1.out.size))
  obtain rfl := g2 hu2
  have A2 := Lib.hid (A1.out.below b2)
  have G2 := Lib.hid hat2
  clear hu2 hb b2 hat2 A1
  go_wp2_with fail
  refine (HN.out _).mono ?_
  rintro e w3 ⟨rfl, hb⟩
  have B3 := Lib.hid (B2.out.trans (hb.mono B2.out.size))
  obtain ⟨g, off, rfl, -, a0, a1, a2, a3⟩ := spat_two (A2.out.below hb)
  obtain ⟨g', off', rfl, -, b0, b1, b2, b3⟩ := spat_two (G2.out.below hb)
  clear hb A2 G2
  go_wp2
  go_returns
  exact ⟨rfl, B3.out⟩
end Go.Proofs.Ytjfhkheedcpimaa
