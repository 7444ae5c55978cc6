/-
  WALKS of the landed package header (8c902e7): known, traitsOf, Class, Name, Response, has, when.
-/
import Derived.Test.YtacbhbejchjbiaaDoorHdTab
namespace Go.Proofs.YtacbhbejchjbiaaDoor
open Go.RowKit Go.Hd

theorem known_any (k : Int) (w : World) :
    Calls Tryd.prog 26 #[.int .i64 k] w fun e w' => e = .returned (.bool (decide (isK k))) ∧ w = w' := by
  by_cases h0 : 0 < k
  · by_cases h1 : k < 20
    · rw [decide_eq_true (show isK k from ⟨h0, by omega⟩)]
      go_enter Tryd.func26, Tryd.ntmps26
      go_wp2
      go_returns
      exact ⟨rfl, rfl⟩
    · rw [decide_eq_false (show ¬ isK k from fun h => h1 (by have := h.2; omega))]
      go_enter Tryd.func26, Tryd.ntmps26
      go_wp2
      go_returns
      exact ⟨rfl, rfl⟩
  · rw [decide_eq_false (show ¬ isK k from fun h => h0 (by have := h.1; omega))]
    go_enter Tryd.func26, Tryd.ntmps26
    go_wp2
    go_returns
    exact ⟨rfl, rfl⟩

theorem fld0 (s : ByteArray) (a b c d : Int) (W : World) : (Instr.field 69 (.agg #[.string s, .int .i64 a, .int .i64 b, .int .i64 c, .int .i64 d]) 0).run Tryd.prog W = .ok (.string s) W := by kernel_rfl
theorem fld1 (s : ByteArray) (a b c d : Int) (W : World) : (Instr.field 69 (.agg #[.string s, .int .i64 a, .int .i64 b, .int .i64 c, .int .i64 d]) 1).run Tryd.prog W = .ok (.int .i64 a) W := by kernel_rfl
theorem fld2 (s : ByteArray) (a b c d : Int) (W : World) : (Instr.field 69 (.agg #[.string s, .int .i64 a, .int .i64 b, .int .i64 c, .int .i64 d]) 2).run Tryd.prog W = .ok (.int .i64 b) W := by kernel_rfl
theorem fld3 (s : ByteArray) (a b c d : Int) (W : World) : (Instr.field 69 (.agg #[.string s, .int .i64 a, .int .i64 b, .int .i64 c, .int .i64 d]) 3).run Tryd.prog W = .ok (.int .i64 c) W := by kernel_rfl
theorem fld4 (s : ByteArray) (a b c d : Int) (W : World) : (Instr.field 69 (.agg #[.string s, .int .i64 a, .int .i64 b, .int .i64 c, .int .i64 d]) 4).run Tryd.prog W = .ok (.int .i64 d) W := by kernel_rfl
/-- The traits as a value. -/
def trv (k : Int) : Value := .agg #[.string (nm k), .int .i64 (cls k), .int .i64 (rsp k), .int .i64 (ln0 k), .int .i64 (us k)]

set_option maxRecDepth 100000 in
set_option maxHeartbeats 2000000 in
theorem traits_any (k : Int) (w : World) (ht : HdTab w) :
    Calls Tryd.prog 25 #[.int .i64 k] w fun e w' => e = .returned (trv k) ∧ Below w.heap.size w w' := by
  have CK := Lib.hid (known_any k)
  unfold trv
  by_cases h : isK k
  · rw [decide_eq_true h] at CK
    obtain ⟨i, hi, rfl⟩ : ∃ i : Nat, i < 20 ∧ k = (i : Int) := ⟨k.toNat, by unfold isK at h; omega, by unfold isK at h; omega⟩
    have c0 : w.cell? ⟨0, i * 5, none⟩ = some (.string (nm (i : Int))) := ht.cell i hi 0 _ rfl
    have c1 := ht.cell i hi 1 _ rfl
    have c2 := ht.cell i hi 2 _ rfl
    have c3 := ht.cell i hi 3 _ rfl
    have c4 := ht.cell i hi 4 _ rfl
    have hl := ht.lt
    generalize nm (i : Int) = s at *
    generalize cls (i : Int) = x1 at *
    generalize rsp (i : Int) = x2 at *
    generalize ln0 (i : Int) = x3 at *
    generalize us (i : Int) = x4 at *
    clear ht h
    go_enter Tryd.func25, Tryd.ntmps25
    go_wp2_with (go_at_call 26; refine (CK.out _).mono ?_; rintro e w' ⟨rfl, rfl⟩)
    exact bodyPost_ret (by simp [results, Tryd.results25, go_sem]) rfl ⟨rfl, (Below.refl _ _).alloc (Nat.le_refl _) _⟩
  · rw [decide_eq_false h] at CK
    rw [nm_no h, cls_no h, rsp_no h, ln0_no h, us_no h]
    clear h ht
    go_enter Tryd.func25, Tryd.ntmps25
    go_wp2_with (go_at_call 26; refine (CK.out _).mono ?_; rintro e w' ⟨rfl, rfl⟩)
    exact bodyPost_ret (by simp [results, Tryd.results25, go_sem]) rfl ⟨rfl, (Below.refl _ _).alloc (Nat.le_refl _) _⟩

/-- A field is in a set of fields. -/
def hs (u c : Int) : Bool := bits .and .i64 u c != 0
set_option maxHeartbeats 400000 in
theorem has_any (u c : Int) (w : World) :
    Calls Tryd.prog 29 #[.int .i64 u, .int .i64 c] w fun e w' => e = .returned (.bool (hs u c)) ∧ w = w' := by
  have hh : (bits .and .i64 u c != 0) = hs u c := rfl
  generalize hs u c = b at *
  generalize hx : bits .and .i64 u c = x at *
  go_enter Tryd.func29, Tryd.ntmps29
  go_wp2
  go_returns
  exact ⟨rfl, rfl⟩

set_option maxHeartbeats 400000 in
theorem when_any (b : Bool) (c : Int) (w : World) :
    Calls Tryd.prog 49 #[.bool b, .int .i64 c] w fun e w' => e = .returned (.int .i64 (if b then c else 0)) ∧ w = w' := by
  cases b
  all_goals
    go_enter Tryd.func49, Tryd.ntmps49
    go_wp2
    go_returns
    exact ⟨rfl, rfl⟩

/-! ### What is used -/
theorem hs_from {k : Int} (h : isK k) : hs (us k) 256 = decide (fro k) := by
  rcases kinds h with rfl | rfl | rfl | rfl | rfl | rfl | rfl | rfl | rfl | rfl | rfl | rfl | rfl | rfl | rfl | rfl | rfl | rfl | rfl <;> decide +kernel
theorem hs_third {k : Int} (h : isK k) : hs (us k) 512 = decide (nb k) := by
  rcases kinds h with rfl | rfl | rfl | rfl | rfl | rfl | rfl | rfl | rfl | rfl | rfl | rfl | rfl | rfl | rfl | rfl | rfl | rfl | rfl <;> decide +kernel
theorem hs_seq {k : Int} (h : isK k) : hs (us k) 1024 = decide (nb k) := by
  rcases kinds h with rfl | rfl | rfl | rfl | rfl | rfl | rfl | rfl | rfl | rfl | rfl | rfl | rfl | rfl | rfl | rfl | rfl | rfl | rfl <;> decide +kernel
theorem hs_frag {k : Int} (h : isK k) : hs (us k) 2048 = decide (k = 18) := by
  rcases kinds h with rfl | rfl | rfl | rfl | rfl | rfl | rfl | rfl | rfl | rfl | rfl | rfl | rfl | rfl | rfl | rfl | rfl | rfl | rfl <;> decide +kernel
theorem hs_cat {k : Int} (h : isK k) : hs (us k) 4096 = decide (pl k) := by
  rcases kinds h with rfl | rfl | rfl | rfl | rfl | rfl | rfl | rfl | rfl | rfl | rfl | rfl | rfl | rfl | rfl | rfl | rfl | rfl | rfl <;> decide +kernel
theorem hs_policy {k : Int} (h : isK k) : hs (us k) 192 = decide (pl k) := by
  rcases kinds h with rfl | rfl | rfl | rfl | rfl | rfl | rfl | rfl | rfl | rfl | rfl | rfl | rfl | rfl | rfl | rfl | rfl | rfl | rfl <;> decide +kernel
theorem hs_key {k : Int} (h : isK k) : hs (us k) 8192 = decide (k = 18) := by
  rcases kinds h with rfl | rfl | rfl | rfl | rfl | rfl | rfl | rfl | rfl | rfl | rfl | rfl | rfl | rfl | rfl | rfl | rfl | rfl | rfl <;> decide +kernel
theorem hs_body {k : Int} (h : isK k) : hs (us k) 16384 = decide (bd k) := by
  rcases kinds h with rfl | rfl | rfl | rfl | rfl | rfl | rfl | rfl | rfl | rfl | rfl | rfl | rfl | rfl | rfl | rfl | rfl | rfl | rfl <;> decide +kernel
end Go.Proofs.YtacbhbejchjbiaaDoor
