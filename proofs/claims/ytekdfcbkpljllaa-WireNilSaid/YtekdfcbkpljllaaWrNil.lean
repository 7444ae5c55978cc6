/-
  THE WALK of the law WireNil: true, for every call.
-/
import Derived.Test.YtekdfcbkpljllaaWrLives
import Derived.Test.YtekdfcbkpljllaaWrOps
namespace Go.Proofs.Ytekdfcbkpljllaa
open Go.RowKit Go.Wr

set_option maxRecDepth 100000 in
set_option maxHeartbeats 4000000 in
theorem nil_walk (k n z x : Int) (t : ByteArray) (w : World) :
    Calls Try.prog 7 #[.agg #[.int .i64 k, .int .i64 n, .int .i64 z, .string t, .int .i64 x]] w fun e w' => e = .returned (.bool true) ∧ Below w.heap.size w w' := by
  have HL : Hid (∀ w, Calls Try.prog 9 #[] w fun e w' => e = .returned (.bool true) ∧ Below w.heap.size w w') := lives_any
  by_cases ht : 200 < t.size
  · have ht' : (200 : Int) < t.size := by omega
    clear ht
    go_enter Try.func7, Try.ntmps7
    go_wp2_with (go_at_call 9; refine (HL.out _).mono ?_; rintro e w1 ⟨rfl, hb1⟩)
    go_returns
    exact ⟨rfl, ((Below.refl _ _).alloc (Nat.le_refl _) _).trans (hb1.mono (by simp))⟩
  · have ht' : ¬ (200 : Int) < t.size := by omega
    clear ht
    go_enter Try.func7, Try.ntmps7
    go_wp2_with (first
      | (go_at_call 10; refine (put_nil _ _ _).mono ?_; rintro e w' ⟨rfl, rfl⟩)
      | (go_at_call 11; refine (text_nil _ _).mono ?_; rintro e w' ⟨rfl, rfl⟩)
      | (go_at_call 12; refine (done_nil _).mono ?_; rintro e w' ⟨rfl, rfl⟩)
      | (go_at_call 25; refine (fail_nil _ _).mono ?_; rintro e w' ⟨rfl, rfl⟩)
      | (go_at_call 14; with_reducible refine (num_nil _ _).mono ?_; rintro e w' ⟨rfl, rfl⟩)
      | (go_at_call 15; with_reducible refine (take_nil _ _).mono ?_; rintro e w' ⟨rfl, rfl⟩)
      | (go_at_call 16; with_reducible refine (left_nil _).mono ?_; rintro e w' ⟨rfl, rfl⟩)
      | (go_at_call 26; with_reducible refine (rest_nil _).mono ?_; rintro e w' ⟨rfl, rfl⟩)
      | (go_at_call 17; with_reducible refine (err_nil _).mono ?_; rintro e w' ⟨rfl, rfl⟩)
      | (go_at_call 18; with_reducible refine (end_nil _).mono ?_; rintro e w' ⟨rfl, rfl⟩)
      | fail)
    have hR : Rd ((w.alloc (.cells #[.int .i64 k, .int .i64 n, .int .i64 z, .string t, .int .i64 x] 32)).alloc (.cells #[.int .i64 0, .string ⟨#[]⟩] 59)) (w.heap.size + 1) 0 ⟨#[]⟩ := Blk.new _ _ _ _ (by simp)
    have hB : Below w.heap.size w ((w.alloc (.cells #[.int .i64 k, .int .i64 n, .int .i64 z, .string t, .int .i64 x] 32)).alloc (.cells #[.int .i64 0, .string ⟨#[]⟩] 59)) := ((Below.refl _ _).alloc (Nat.le_refl _) _).alloc (by simp) _
    generalize (w.alloc (.cells #[.int .i64 k, .int .i64 n, .int .i64 z, .string t, .int .i64 x] 32)).alloc (.cells #[.int .i64 0, .string ⟨#[]⟩] 59) = W1 at *
    have HR := Lib.hid hR
    have HB := Lib.hid hB
    clear hR hB
    go_wp2_with (first
      | (go_at_call 16; with_reducible refine (left_ok _ ⟨#[]⟩ _ HR.out).mono ?_; rintro e w' ⟨rfl, rfl⟩)
      | (go_at_call 18; with_reducible refine (end_ok _ ⟨#[]⟩ _ HR.out).mono ?_; rw [if_neg (by decide)]; rintro e w' ⟨rfl, rfl⟩)
      | fail)
    refine (take_ok _ ⟨#[]⟩ 0 _ HR.out (by decide)).mono ?_
    rintro e w2 ⟨rfl, hw⟩
    have HR2 := Lib.hid (show Rd w2 (w.heap.size + 1) 0 ⟨#[]⟩ by rw [← hw]; exact HR.out.setS _)
    have HB2 := Lib.hid (show Below w.heap.size w w2 by rw [← hw]; exact HB.out.setCell (by simp) _)
    clear hw HR HB
    go_wp2_with fail
    refine (num_short _ ⟨#[]⟩ 1 _ HR2.out (by decide) (by decide)).mono ?_
    rintro e w3 ⟨rfl, hw⟩
    have HR3 := Lib.hid (show Rd w3 (w.heap.size + 1) 1 ⟨#[]⟩ by rw [← hw]; exact HR2.out.setE _)
    have HB3 := Lib.hid (show Below w.heap.size w w3 by rw [← hw]; exact HB2.out.setCell (by simp) _)
    clear hw HR2 HB2
    go_wp2_with (first
      | (go_at_call 17; with_reducible refine (err_any _ 1 _ HR3.out.c0).mono ?_; rintro e w' ⟨rfl, rfl⟩)
      | (go_at_call 9; refine (HL.out _).mono ?_; rintro e w4 ⟨rfl, hb1⟩)
      | fail)
    go_returns
    exact ⟨rfl, HB3.out.trans (hb1.mono HB3.out.size)⟩

theorem wireNil_walk0 (o : Opr) (W : World) :
    Calls Try.prog 7 #[.agg #[.int .i64 o.k, .int .i64 o.n, .int .i64 o.z, .string o.t, .int .i64 o.e]] W fun e W' => e = .returned (.bool true) ∧ Below W.heap.size W W' := nil_walk _ _ _ _ _ _
end Go.Proofs.Ytekdfcbkpljllaa
