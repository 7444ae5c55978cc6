/-
  WALKS of the reference's Decimal, for the numbers from 0 to 63.
-/
import Derived.Test.YtfmjekfgfkcleaaDoorBsText
import Derived.Deep.RegionWith
import Derived.Laws.IdiomStrings
namespace Go.Proofs.YtfmjekfgfkcleaaDoor
open Go.RowKit Go.Bs

theorem cell_nw (W : World) (g : Nat) (v : Value) (t : TypeId) (hg : g = W.heap.size) : (W.alloc (.cells #[v] t)).cell? ⟨g, 0, none⟩ = some v := by subst hg; simp
theorem conv1 (W : World) (g x : Nat) (hx : x < 256) (h : W.cell? ⟨g, 0, none⟩ = some (.int .u8 x)) : (convert 61 9 (.slice (some ⟨g, 0, none⟩) 1 1)).run Tryd.prog W = .ok (.string ⟨#[UInt8.ofNat x]⟩) W :=
  run_convert_bytes_back (P := Tryd.prog) W 61 9 5 ⟨g, 0, none⟩ 1 [UInt8.ofNat x] Tryd.underlying61 Tryd.underlying5 Tryd.underlying9 (fun j hj => by
    match j, hj with
    | 0, _ => rw [show (⟨g, 0, none⟩ : Addr).add 0 = ⟨g, 0, none⟩ from rfl, h]; simp; omega)

set_option maxRecDepth 100000 in
set_option maxHeartbeats 1000000 in
theorem decimal_small (n : Nat) (h : n < 10) (w : World) :
    Calls Tryd.prog 42 #[.int .i64 n] w fun e w' => e = .returned (.string ⟨(Lib.decDigits n).toArray⟩) ∧ Below w.heap.size w w' := by
  have HD := Lib.hid (dec_one h)
  obtain ⟨b, hb⟩ : ∃ b : UInt8, b = UInt8.ofNat (48 + n) := ⟨_, rfl⟩
  rw [← hb] at HD
  have hw : IntKind.i64.wrap (48 + (n : Int)) = 48 + n := IntWalk.i64_in _ (by omega)
  have hw8 : IntKind.u8.wrap (48 + (n : Int)) = 48 + n := IntKind.wrap_u8 _ |>.trans (by omega)
  have hc : (convert 61 9 (.slice (some ⟨w.heap.size, 0, none⟩) 1 1)).run Tryd.prog (w.alloc (.cells #[.int .u8 (48 + (n : Int))] 5)) = .ok (.string ⟨#[b]⟩) (w.alloc (.cells #[.int .u8 (48 + (n : Int))] 5)) := by rw [hb]; exact conv1 _ _ (48 + n) (by omega) (cell_nw _ _ _ _ rfl)
  clear hb
  go_enter Tryd.func42, Tryd.ntmps42
  go_wp2
  go_ret
  exact ⟨by rw [HD.out]; rfl, (Below.refl _ _).alloc (Nat.le_refl _) _⟩

set_option maxRecDepth 100000 in
set_option maxHeartbeats 1000000 in
theorem decimal_any (n : Nat) (h : n < 64) (w : World) :
    Calls Tryd.prog 42 #[.int .i64 n] w fun e w' => e = .returned (.string ⟨(Lib.decDigits n).toArray⟩) ∧ Below w.heap.size w w' := by
  by_cases h10 : n < 10
  · exact decimal_small n h10 w
  · have HD := Lib.hid (dec_two (n := n) (by omega) (by omega))
    obtain ⟨q, hq⟩ : ∃ q : Nat, q = n / 10 := ⟨_, rfl⟩
    obtain ⟨m, hm⟩ : ∃ m : Nat, m = n % 10 := ⟨_, rfl⟩
    rw [← hq, ← hm] at HD
    obtain ⟨b1, hb1⟩ : ∃ b : UInt8, b = UInt8.ofNat (48 + q) := ⟨_, rfl⟩
    obtain ⟨b2, hb2⟩ : ∃ b : UInt8, b = UInt8.ofNat (48 + m) := ⟨_, rfl⟩
    rw [← hb1, ← hb2] at HD
    have HCV : Hid (∀ (W : World) (g : Nat), W.cell? ⟨g, 0, none⟩ = some (.int .u8 (48 + (m : Int))) → (convert 61 9 (.slice (some ⟨g, 0, none⟩) 1 1)).run Tryd.prog W = .ok (.string ⟨#[b2]⟩) W) := fun W g h => by
      rw [hb2]; exact conv1 W g (48 + m) (by omega) h
    have hS : ∀ wx : World, Calls Tryd.prog 42 #[.int .i64 (q : Int)] wx fun e w' => e = .returned (.string ⟨#[b1]⟩) ∧ Below wx.heap.size wx w' := fun wx => by
      have := decimal_small q (by omega) wx
      rw [dec_one (show q < 10 by omega), ← hb1] at this
      exact this
    have c0 : (n : Int).tdiv 10 = q := by rw [Int.tdiv_eq_ediv_of_nonneg (by omega)]; omega
    have c1 : IntKind.i64.wrap (q : Int) = q := IntWalk.i64_in _ (by omega)
    have c4 : (n : Int).tmod 10 = m := by rw [Int.tmod_eq_emod_of_nonneg (by omega)]; omega
    have c2 : IntKind.i64.wrap (48 + (m : Int)) = 48 + m := IntWalk.i64_in _ (by omega)
    have c3 : IntKind.u8.wrap (48 + (m : Int)) = 48 + m := (IntKind.wrap_u8 _).trans (by omega)
    have hn1 : ¬ ((n : Int) < 10) := by omega
    have cvC := HCV.out (w.alloc (.cells #[.int .u8 (48 + (m : Int))] 5)).drew w.heap.size (cell_nw w _ _ _ rfl)
    clear hq hm h h10 hb1 hb2
    go_enter Tryd.func42, Tryd.ntmps42
    go_wp2
    go_region_with (go_at_call 42; (with_reducible refine (hS _).mono ?_); rintro e w1 ⟨rfl, hb1⟩; have cvA := HCV.out (w1.alloc (.cells #[.int .u8 (48 + (m : Int))] 5)) w1.heap.size (cell_nw _ _ _ _ rfl); first | (have cvB := HCV.out w1 w.heap.size ((hb1.cell (p := ⟨w.heap.size, 0, none⟩) (by simp)).trans (cell_nw w _ _ _ rfl))) | skip)
    all_goals go_wp2
    all_goals go_ret
    all_goals refine ⟨by rw [HD.out]; rfl, ?_⟩
    · exact ((Below.refl w.heap.size w).drew.trans hb1).alloc hb1.size _
    · exact (((Below.refl w.heap.size w).alloc (Nat.le_refl _) _).drew).trans (hb1.mono (by simp))
    · exact (((Below.refl w.heap.size w).alloc (Nat.le_refl _) _).drew).trans (hb1.mono (by simp))
end Go.Proofs.YtfmjekfgfkcleaaDoor
