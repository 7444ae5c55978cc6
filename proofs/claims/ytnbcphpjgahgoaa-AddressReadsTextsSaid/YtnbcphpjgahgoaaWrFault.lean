/-
  WALKS of what a Writer and a Reader have in common: sound, record, allows.
-/
import Derived.Test.YtnbcphpjgahgoaaRows
import Derived.Test.YtnbcphpjgahgoaaWrObj
import Derived.Test.YtnbcphpjgahgoaaWrMath
import Derived.WalkKit
import Derived.WalkSpells
import Derived.WalkLawsBesides
import Derived.Deep.QuietTactic
import Derived.BigQuiet
import Derived.Lib.Hide
import Derived.Handy
namespace Go.Proofs.Ytnbcphpjgahgoaa
open Go.RowKit Go.Wr

set_option maxHeartbeats 400000 in
theorem sound_any (b : Nat) (e : Int) (w : World) (h : w.cell? ⟨b, 0, none⟩ = some (.int .i64 e)) :
    Calls Try.prog 33 #[.pointer (some ⟨b, 0, none⟩)] w fun x w' => x = .returned (.bool (e == 0)) ∧ w = w' := by
  go_enter Try.func33, Try.ntmps33
  go_wp2
  go_returns
  exact ⟨rfl, rfl⟩

set_option maxHeartbeats 400000 in
theorem record_ok (b : Nat) (x : Int) (w : World) (h : w.cell? ⟨b, 0, none⟩ = some (.int .i64 0)) (hf : w.frozen? ⟨b, 0, none⟩ = false) :
    Calls Try.prog 42 #[.pointer (some ⟨b, 0, none⟩), .int .i64 x] w fun e w' => e = .returned (.tuple #[]) ∧ w.setCell ⟨b, 0, none⟩ (.int .i64 x) = w' := by
  go_enter Try.func42, Try.ntmps42
  go_wp2_with (go_at_call 33; refine (sound_any _ _ _ h).mono ?_; rintro e w' ⟨rfl, rfl⟩)
  go_returns
  exact ⟨rfl, rfl⟩

set_option maxHeartbeats 400000 in
theorem record_bad (b : Nat) (x e0 : Int) (w : World) (h : w.cell? ⟨b, 0, none⟩ = some (.int .i64 e0)) (he : (e0 == 0) = false) :
    Calls Try.prog 42 #[.pointer (some ⟨b, 0, none⟩), .int .i64 x] w fun e w' => e = .returned (.tuple #[]) ∧ w = w' := by
  go_enter Try.func42, Try.ntmps42
  go_wp2_with (go_at_call 33; refine (sound_any _ _ _ h).mono ?_; rintro e w' ⟨rfl, rfl⟩)
  go_returns
  exact ⟨rfl, rfl⟩

set_option maxHeartbeats 400000 in
theorem allows_yes (a : Addr) (k : Int) (w : World) (h1 : 1 ≤ k) (h2 : k ≤ 6) :
    Calls Try.prog 41 #[.pointer (some a), .int .i64 k] w fun e w' => e = .returned (.bool true) ∧ w = w' := by
  go_enter Try.func41, Try.ntmps41
  go_wp2
  go_returns
  exact ⟨rfl, rfl⟩

set_option maxHeartbeats 400000 in
theorem allows_no (b : Nat) (k : Int) (w : World) (hk : ¬ (1 ≤ k ∧ k ≤ 6)) (h : w.cell? ⟨b, 0, none⟩ = some (.int .i64 0)) (hf : w.frozen? ⟨b, 0, none⟩ = false) :
    Calls Try.prog 41 #[.pointer (some ⟨b, 0, none⟩), .int .i64 k] w fun e w' => e = .returned (.bool false) ∧ w.setCell ⟨b, 0, none⟩ (.int .i64 4) = w' := by
  go_enter Try.func41, Try.ntmps41
  go_wp2_with (go_at_call 42; refine (record_ok _ _ _ h hf).mono ?_; rintro e w' ⟨rfl, rfl⟩)
  all_goals go_returns
  all_goals exact ⟨rfl, rfl⟩
end Go.Proofs.Ytnbcphpjgahgoaa
