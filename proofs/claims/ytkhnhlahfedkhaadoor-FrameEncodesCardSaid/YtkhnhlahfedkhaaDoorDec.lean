/-
  WALK of the reference's Decimal, for every number below 10^9.
-/
import Derived.Test.YtkhnhlahfedkhaaDoorRows
import Derived.WalkKit
import Derived.WalkSpells
import Derived.WalkLawsBesides
import Derived.Deep.QuietTactic
import Derived.BigQuiet
import Derived.Lib.Hide
import Derived.Handy
import Derived.Laws.Concat
import Derived.Laws.IdiomStrings
import Derived.Deep.RegionWith
import Derived.Below
import Derived.Lib.ItoaNum
import Derived.Lib.ItoaLen
namespace Go.Proofs.YtkhnhlahfedkhaaDoor
open Go.RowKit

theorem dec_cell (W : World) (g : Nat) (v : Value) (t : TypeId) (hg : g = W.heap.size) : (W.alloc (.cells #[v] t)).cell? ⟨g, 0, none⟩ = some v := by subst hg; simp
theorem dec_conv (W : World) (g x : Nat) (hx : x < 256) (h : W.cell? ⟨g, 0, none⟩ = some (.int .u8 x)) : (convert 63 9 (.slice (some ⟨g, 0, none⟩) 1 1)).run Tryd.prog W = .ok (.string ⟨#[UInt8.ofNat x]⟩) W :=
  run_convert_bytes_back (P := Tryd.prog) W 63 9 5 ⟨g, 0, none⟩ 1 [UInt8.ofNat x] Tryd.underlying63 Tryd.underlying5 Tryd.underlying9 (fun j hj => by
    match j, hj with
    | 0, _ => rw [show (⟨g, 0, none⟩ : Addr).add 0 = ⟨g, 0, none⟩ from rfl, h]; simp; omega)
theorem dec_step {n : Nat} (h : 10 ≤ n) : Lib.decDigits n = Lib.decDigits (n / 10) ++ [UInt8.ofNat (48 + n % 10)] := by
  rw [Lib.decDigits, dif_neg (by omega)]
theorem dec_first {n : Nat} (h : n < 10) : Lib.decDigits n = [UInt8.ofNat (48 + n)] := by rw [Lib.decDigits, dif_pos h]
theorem dec_cat (a b : List UInt8) : (⟨a.toArray⟩ ++ ⟨b.toArray⟩ : ByteArray) = ⟨(a ++ b).toArray⟩ := by apply ByteArray.ext; simp

set_option maxRecDepth 100000 in
set_option maxHeartbeats 1000000 in
theorem refDec_small (n : Nat) (h : n < 10) (w : World) :
    Calls Tryd.prog 34 #[.int .i64 n] w fun e w' => e = .returned (.string ⟨(Lib.decDigits n).toArray⟩) ∧ Below w.heap.size w w' := by
  have HD := Lib.hid (dec_first h)
  obtain ⟨b, hb⟩ : ∃ b : UInt8, b = UInt8.ofNat (48 + n) := ⟨_, rfl⟩
  rw [← hb] at HD
  have hw : IntKind.i64.wrap (48 + (n : Int)) = 48 + n := IntWalk.i64_in _ (by omega)
  have hw8 : IntKind.u8.wrap (48 + (n : Int)) = 48 + n := IntKind.wrap_u8 _ |>.trans (by omega)
  have hc : (convert 63 9 (.slice (some ⟨w.heap.size, 0, none⟩) 1 1)).run Tryd.prog (w.alloc (.cells #[.int .u8 (48 + (n : Int))] 5)) = .ok (.string ⟨#[b]⟩) (w.alloc (.cells #[.int .u8 (48 + (n : Int))] 5)) := by rw [hb]; exact dec_conv _ _ (48 + n) (by omega) (dec_cell _ _ _ _ rfl)
  clear hb
  go_enter Tryd.func34, Tryd.ntmps34
  go_wp2
  go_ret
  exact ⟨by rw [HD.out]; rfl, (Below.refl _ _).alloc (Nat.le_refl _) _⟩

set_option maxRecDepth 100000 in
set_option maxHeartbeats 1000000 in
theorem refDec_any (n : Nat) (h : n < 1000000000) (w : World) :
    Calls Tryd.prog 34 #[.int .i64 n] w fun e w' => e = .returned (.string ⟨(Lib.decDigits n).toArray⟩) ∧ Below w.heap.size w w' := by
  induction n using Nat.strongRecOn generalizing w with
  | _ n ih =>
  by_cases h10 : n < 10
  · exact refDec_small n h10 w
  · have hs := dec_step (n := n) (by omega)
    obtain ⟨q, hq⟩ : ∃ q : Nat, q = n / 10 := ⟨_, rfl⟩
    obtain ⟨m, hm⟩ : ∃ m : Nat, m = n % 10 := ⟨_, rfl⟩
    rw [← hq, ← hm] at hs
    obtain ⟨b2, hb2⟩ : ∃ b : UInt8, b = UInt8.ofNat (48 + m) := ⟨_, rfl⟩
    rw [← hb2] at hs
    have HCV : Hid (∀ (W : World) (g : Nat), W.cell? ⟨g, 0, none⟩ = some (.int .u8 (48 + (m : Int))) → (convert 63 9 (.slice (some ⟨g, 0, none⟩) 1 1)).run Tryd.prog W = .ok (.string ⟨#[b2]⟩) W) := fun W g h => by
      rw [hb2]; exact dec_conv W g (48 + m) (by omega) h
    have hl : (Lib.decDigits q).length ≤ 20 := by rw [Lib.decDigits_length]; exact Lib.nDigits_le20 _ (by omega)
    have hadd : ∀ W, (Op.stringOp .add ⟨(Lib.decDigits q).toArray⟩ ⟨#[b2]⟩).run Tryd.prog W = .ok (.string ⟨(Lib.decDigits n).toArray⟩) W := fun W => by
      rw [hs, ← dec_cat]
      refine run_string_add_sum (P := Tryd.prog) W _ _ ?_
      show (Lib.decDigits q).toArray.size + 1 ≤ _
      rw [List.size_toArray]; omega
    have hS : Hid (∀ wx : World, Calls Tryd.prog 34 #[.int .i64 (q : Int)] wx fun e w' => e = .returned (.string ⟨(Lib.decDigits q).toArray⟩) ∧ Below wx.heap.size wx w') := fun wx => ih q (by omega) (by omega) wx
    have c0 : (n : Int).tdiv 10 = q := by rw [Int.tdiv_eq_ediv_of_nonneg (by omega)]; omega
    have c1 : IntKind.i64.wrap (q : Int) = q := IntWalk.i64_in _ (by omega)
    have c4 : (n : Int).tmod 10 = m := by rw [Int.tmod_eq_emod_of_nonneg (by omega)]; omega
    have c2 : IntKind.i64.wrap (48 + (m : Int)) = 48 + m := IntWalk.i64_in _ (by omega)
    have c3 : IntKind.u8.wrap (48 + (m : Int)) = 48 + m := (IntKind.wrap_u8 _).trans (by omega)
    have hn1 : ¬ ((n : Int) < 10) := by omega
    have cvC := HCV.out (w.alloc (.cells #[.int .u8 (48 + (m : Int))] 5)).drew w.heap.size (dec_cell w _ _ _ rfl)
    generalize (⟨(Lib.decDigits q).toArray⟩ : ByteArray) = sq at *
    generalize (⟨(Lib.decDigits n).toArray⟩ : ByteArray) = sn at *
    clear hq hm h h10 hb2 hs ih hl
    go_enter Tryd.func34, Tryd.ntmps34
    go_wp2
    go_region_with (go_at_call 34; (with_reducible refine (hS.out _).mono ?_); rintro e w1 ⟨rfl, hb1⟩; have cvA := HCV.out (w1.alloc (.cells #[.int .u8 (48 + (m : Int))] 5)) w1.heap.size (dec_cell _ _ _ _ rfl); first | (have cvB := HCV.out w1 w.heap.size ((hb1.cell (p := ⟨w.heap.size, 0, none⟩) (by simp)).trans (dec_cell w _ _ _ rfl))) | skip)
    all_goals go_wp2
    all_goals go_ret
    all_goals refine ⟨rfl, ?_⟩
    · exact ((Below.refl w.heap.size w).drew.trans hb1).alloc hb1.size _
    · exact (((Below.refl w.heap.size w).alloc (Nat.le_refl _) _).drew).trans (hb1.mono (by simp))
    · exact (((Below.refl w.heap.size w).alloc (Nat.le_refl _) _).drew).trans (hb1.mono (by simp))
end Go.Proofs.YtkhnhlahfedkhaaDoor
