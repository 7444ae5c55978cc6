/-
  THE WALK of the reference's Same, at two slices that hold the same numbers; states laid into cells.
-/
import Derived.Test.YtldeflpaghbmmaaWnLives2
import Derived.Test.YtldeflpaghbmmaaWnRef6
namespace Go.Proofs.Ytldeflpaghbmmaa
open Go.RowKit Go.Wn Go.Sq Go.Wr
attribute [local go_sem ↓ high] Wv_.loadF Wv_.storeF Wv_.v_cells Wv_.v_match
attribute [local go_sem] Wv_.C0 Wv_.C1 Wv_.C2 Wv_.C3 Wv_.loadF_new Wv_.storeF_zero Oper.semAt_some

set_option maxRecDepth 100000 in
set_option maxHeartbeats 4000000 in
theorem sameIs22_any (L : List Int) (sa sb : Option Addr) (c c' : Nat) (w : World) (h : Is_.Sl w sa L c) (h' : Is_.Sl w sb L c') (hl : L.length ≤ 1000) :
    Calls Try.prog 31 #[.slice sa L.length c, .slice sb L.length c'] w fun e w' => e = .returned (.bool true) ∧ Below w.heap.size w w' := by
  have HA := Lib.hid h.lies
  have HB' := Lib.hid h'.lies
  clear h h'
  go_enter Try.func31, Try.ntmps31
  go_wp2
  go_loopw [5] (fun i wr => ∃ k : Nat, k ≤ L.length ∧ i = .int .i64 k ∧ Below w.heap.size w wr) (fun i _ => L.length - (intOf i).toNat)
  case atStart => exact ⟨0, Nat.zero_le _, rfl, Below.refl _ _⟩
  case round =>
    rename World => wr
    obtain ⟨k, hk, rfl, hb⟩ := hrel
    have HB := Lib.hid hb
    by_cases hlt : k < L.length
    · obtain ⟨b, off, rfl, -, c0⟩ := HA.out.below hb k hlt
      obtain ⟨b2, off2, rfl, -, d0⟩ := HB'.out.below hb k hlt
      have HLT := Lib.hid hlt
      generalize L[k] = x at *
      have i0 : (0 : Int) ≤ (k : Int) := by omega
      have i1 : (k : Int) < (L.length : Int) := by omega
      clear hb
      go_wp2
      go_quiet (fail)
      go_wp2
      go_roundw
      case rel => exact ⟨k + 1, HLT.out, by go_num, below_drewN22 HB.out _⟩
      case measure => have := HLT.out; simp [intOf]; omega
    · obtain rfl : k = L.length := by omega
      clear hb
      go_wp2
      go_returns
      exact ⟨rfl, HB.out⟩

/-- A state of the reference in a cell of its own, its packets behind it. -/
structure Kv (w : World) (b : Nat) (x : Wn) (s : St) (wi : World) : Prop where
  bx : Wv_.Box wi b x
  lies : Lies wi x s
  bel : Below w.heap.size w wi
theorem Kv.keep {w : World} {b : Nat} {x : Wn} {s : St} {wi wj : World} (h : Kv w b x s wi) (hb : Below wi.heap.size wi wj) : Kv w b x s wj := ⟨h.bx.below hb h.bx.lt, h.lies.below hb, h.bel.trans (hb.mono h.bel.size)⟩
theorem Kv.new {w wi wj : World} {s : St} {x : Wn} (h : Lies wj x s) (h2 : Below wi.heap.size wi wj) (hb : Below w.heap.size w wi) : Kv w wj.heap.size x s (wj.alloc (.cells (Wv_.C x) 24)) :=
  ⟨Wv_.Box.new wj x, h.below ((Below.refl _ _).alloc (Nat.le_refl _) _), (hb.trans (h2.mono hb.size)).alloc (Nat.le_trans hb.size h2.size) _⟩
end Go.Proofs.Ytldeflpaghbmmaa
