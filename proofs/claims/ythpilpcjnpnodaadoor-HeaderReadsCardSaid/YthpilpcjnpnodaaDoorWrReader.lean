/-
  WALKS of the methods of Reader, case by case: what each returns, and the one store that it makes.
-/
import Derived.Test.YthpilpcjnpnodaaDoorWrFault
namespace Go.Proofs.YthpilpcjnpnodaaDoor
open Go.RowKit Go.Wr

/-- The Reader at block b has this error and these octets left. -/
def Rd (w : World) (b : Nat) (e : Int) (s : ByteArray) : Prop := Blk w b 77 [.int .i64 e, .string s]
theorem Rd.c0 {w : World} {b : Nat} {e : Int} {s : ByteArray} (h : Rd w b e s) : w.cell? ⟨b, 0, none⟩ = some (.int .i64 e) := Blk.cell h 0 _ rfl
theorem Rd.c1 {w : World} {b : Nat} {e : Int} {s : ByteArray} (h : Rd w b e s) : w.cell? ⟨b, 1, none⟩ = some (.string s) := Blk.cell h 1 _ rfl
theorem Rd.f {w : World} {b : Nat} {e : Int} {s : ByteArray} (h : Rd w b e s) (i : Nat) : w.frozen? ⟨b, i, none⟩ = false := Blk.frozen h i
theorem Rd.setE {w : World} {b : Nat} {e : Int} {s : ByteArray} (h : Rd w b e s) (x : Int) : Rd (w.setCell ⟨b, 0, none⟩ (.int .i64 x)) b x s := Blk.set h 0 _
theorem Rd.setS {w : World} {b : Nat} {e : Int} {s : ByteArray} (h : Rd w b e s) (x : ByteArray) : Rd (w.setCell ⟨b, 1, none⟩ (.string x)) b e x := Blk.set h 1 _

set_option maxHeartbeats 400000 in
theorem new_any (s : ByteArray) (w : World) :
    Calls Tryd.prog 26 #[.string s] w fun e w' => e = .returned (.pointer (some ⟨w.heap.size, 0, none⟩)) ∧ w.alloc (.cells #[.int .i64 0, .string s] 77) = w' := by
  go_enter Tryd.func26, Tryd.ntmps26
  go_wp2
  go_returns
  exact ⟨rfl, rfl⟩

set_option maxHeartbeats 400000 in
theorem next_ok (b : Nat) (s : ByteArray) (k : Nat) (w : World) (h : Rd w b 0 s) (hk : k ≤ s.size) :
    Calls Tryd.prog 78 #[.pointer (some ⟨b, 0, none⟩), .int .i64 k] w fun e w' => e = .returned (.string (s.extract 0 k)) ∧ w.setCell ⟨b, 1, none⟩ (.string (s.extract k s.size)) = w' := by
  have h1 := h.c1
  have hf := h.f 1
  have hn : ¬ ((s.size : Int) < k) := by omega
  clear h
  go_enter Tryd.func78, Tryd.ntmps78
  go_wp2
  go_returns
  exact ⟨rfl, rfl⟩

set_option maxHeartbeats 400000 in
theorem next_short (b : Nat) (s : ByteArray) (k : Int) (w : World) (h : Rd w b 0 s) (hk : (s.size : Int) < k) :
    Calls Tryd.prog 78 #[.pointer (some ⟨b, 0, none⟩), .int .i64 k] w fun e w' => e = .returned (.string ⟨#[]⟩) ∧ w.setCell ⟨b, 0, none⟩ (.int .i64 1) = w' := by
  have h1 := h.c1
  have h0 := h.c0
  have hf := h.f 0
  clear h
  go_enter Tryd.func78, Tryd.ntmps78
  go_wp2_with (go_at_call 72; refine (record_ok _ _ _ h0 hf).mono ?_; rintro e w' ⟨rfl, rfl⟩)
  go_returns
  exact ⟨rfl, rfl⟩

/-! Take -/
set_option maxHeartbeats 400000 in
theorem take_nil (n : Int) (w : World) :
    Calls Tryd.prog 64 #[.pointer none, .int .i64 n] w fun e w' => e = .returned (.string ⟨#[]⟩) ∧ w = w' := by
  go_enter Tryd.func64, Tryd.ntmps64
  go_wp2
  go_returns
  exact ⟨rfl, rfl⟩

set_option maxHeartbeats 400000 in
theorem take_bad (b : Nat) (e0 : Int) (n : Int) (w : World) (h0 : w.cell? ⟨b, 0, none⟩ = some (.int .i64 e0)) (he : (e0 == 0) = false) :
    Calls Tryd.prog 64 #[.pointer (some ⟨b, 0, none⟩), .int .i64 n] w fun e w' => e = .returned (.string ⟨#[]⟩) ∧ w = w' := by
  go_enter Tryd.func64, Tryd.ntmps64
  go_wp2_with (go_at_call 50; refine (sound_any _ _ _ h0).mono ?_; rintro e w' ⟨rfl, rfl⟩)
  go_returns
  exact ⟨rfl, rfl⟩

set_option maxHeartbeats 400000 in
theorem take_neg (b : Nat) (s : ByteArray) (n : Int) (w : World) (h : Rd w b 0 s) (hn : n < 0) :
    Calls Tryd.prog 64 #[.pointer (some ⟨b, 0, none⟩), .int .i64 n] w fun e w' => e = .returned (.string ⟨#[]⟩) ∧ w.setCell ⟨b, 0, none⟩ (.int .i64 4) = w' := by
  have h0 := h.c0
  have hf := h.f 0
  clear h
  go_enter Tryd.func64, Tryd.ntmps64
  go_wp2_with (first | (go_at_call 50; refine (sound_any _ _ _ h0).mono ?_; rintro e w' ⟨rfl, rfl⟩) | (go_at_call 72; refine (record_ok _ _ _ h0 hf).mono ?_; rintro e w' ⟨rfl, rfl⟩))
  go_returns
  exact ⟨rfl, rfl⟩

set_option maxHeartbeats 400000 in
theorem take_short (b : Nat) (s : ByteArray) (n : Int) (w : World) (h : Rd w b 0 s) (hn : (s.size : Int) < n) :
    Calls Tryd.prog 64 #[.pointer (some ⟨b, 0, none⟩), .int .i64 n] w fun e w' => e = .returned (.string ⟨#[]⟩) ∧ w.setCell ⟨b, 0, none⟩ (.int .i64 1) = w' := by
  have h0 := h.c0
  have hn0 : ¬ (n < 0) := by omega
  have H := Lib.hid h
  have Hn := Lib.hid hn
  clear h hn
  go_enter Tryd.func64, Tryd.ntmps64
  go_wp2_with (first | (go_at_call 50; refine (sound_any _ _ _ h0).mono ?_; rintro e w' ⟨rfl, rfl⟩) | (go_at_call 78; refine (next_short _ _ _ _ H.out Hn.out).mono ?_; rintro e w' ⟨rfl, rfl⟩))
  go_returns
  exact ⟨rfl, rfl⟩

set_option maxHeartbeats 400000 in
theorem take_ok (b : Nat) (s : ByteArray) (k : Nat) (w : World) (h : Rd w b 0 s) (hk : k ≤ s.size) :
    Calls Tryd.prog 64 #[.pointer (some ⟨b, 0, none⟩), .int .i64 k] w fun e w' => e = .returned (.string (s.extract 0 k)) ∧ w.setCell ⟨b, 1, none⟩ (.string (s.extract k s.size)) = w' := by
  have h0 := h.c0
  have H := Lib.hid h
  have Hk := Lib.hid hk
  clear h hk
  go_enter Tryd.func64, Tryd.ntmps64
  go_wp2_with (first | (go_at_call 50; refine (sound_any _ _ _ h0).mono ?_; rintro e w' ⟨rfl, rfl⟩) | (go_at_call 78; refine (next_ok _ _ _ _ H.out Hk.out).mono ?_; rintro e w' ⟨rfl, rfl⟩))
  go_returns
  exact ⟨rfl, rfl⟩

/-! Left, Err, End, Rest, Fail -/
set_option maxHeartbeats 400000 in
theorem left_nil (w : World) : Calls Tryd.prog 30 #[.pointer none] w fun e w' => e = .returned (.int .i64 0) ∧ w = w' := by
  go_enter Tryd.func30, Tryd.ntmps30
  go_wp2
  go_returns
  exact ⟨rfl, rfl⟩

set_option maxHeartbeats 400000 in
theorem left_bad (b : Nat) (e0 : Int) (w : World) (h0 : w.cell? ⟨b, 0, none⟩ = some (.int .i64 e0)) (he : (e0 == 0) = false) :
    Calls Tryd.prog 30 #[.pointer (some ⟨b, 0, none⟩)] w fun e w' => e = .returned (.int .i64 0) ∧ w = w' := by
  go_enter Tryd.func30, Tryd.ntmps30
  go_wp2_with (go_at_call 50; refine (sound_any _ _ _ h0).mono ?_; rintro e w' ⟨rfl, rfl⟩)
  go_returns
  exact ⟨rfl, rfl⟩

set_option maxHeartbeats 400000 in
theorem left_ok (b : Nat) (s : ByteArray) (w : World) (h : Rd w b 0 s) :
    Calls Tryd.prog 30 #[.pointer (some ⟨b, 0, none⟩)] w fun e w' => e = .returned (.int .i64 s.size) ∧ w = w' := by
  have h0 := h.c0
  have h1 := h.c1
  clear h
  go_enter Tryd.func30, Tryd.ntmps30
  go_wp2_with (go_at_call 50; refine (sound_any _ _ _ h0).mono ?_; rintro e w' ⟨rfl, rfl⟩)
  go_returns
  exact ⟨rfl, rfl⟩

set_option maxHeartbeats 400000 in
theorem err_nil (w : World) : Calls Tryd.prog 29 #[.pointer none] w fun e w' => e = .returned (.int .i64 9) ∧ w = w' := by
  go_enter Tryd.func29, Tryd.ntmps29
  go_wp2
  go_returns
  exact ⟨rfl, rfl⟩

set_option maxHeartbeats 400000 in
theorem err_any (b : Nat) (e0 : Int) (w : World) (h0 : w.cell? ⟨b, 0, none⟩ = some (.int .i64 e0)) :
    Calls Tryd.prog 29 #[.pointer (some ⟨b, 0, none⟩)] w fun e w' => e = .returned (.int .i64 e0) ∧ w = w' := by
  go_enter Tryd.func29, Tryd.ntmps29
  go_wp2
  go_returns
  exact ⟨rfl, rfl⟩

set_option maxHeartbeats 400000 in
theorem rest_nil (w : World) : Calls Tryd.prog 32 #[.pointer none] w fun e w' => e = .returned (.string ⟨#[]⟩) ∧ w = w' := by
  go_enter Tryd.func32, Tryd.ntmps32
  go_wp2_with (first | (go_at_call 30; refine (left_nil _).mono ?_; rintro e w' ⟨rfl, rfl⟩) | (go_at_call 64; refine (take_nil _ _).mono ?_; rintro e w' ⟨rfl, rfl⟩))
  go_returns
  exact ⟨rfl, rfl⟩

set_option maxHeartbeats 400000 in
theorem rest_bad (b : Nat) (e0 : Int) (w : World) (h0 : w.cell? ⟨b, 0, none⟩ = some (.int .i64 e0)) (he : (e0 == 0) = false) :
    Calls Tryd.prog 32 #[.pointer (some ⟨b, 0, none⟩)] w fun e w' => e = .returned (.string ⟨#[]⟩) ∧ w = w' := by
  go_enter Tryd.func32, Tryd.ntmps32
  go_wp2_with (first | (go_at_call 30; refine (left_bad _ _ _ h0 he).mono ?_; rintro e w' ⟨rfl, rfl⟩) | (go_at_call 64; refine (take_bad _ _ _ _ h0 he).mono ?_; rintro e w' ⟨rfl, rfl⟩))
  go_returns
  exact ⟨rfl, rfl⟩

set_option maxHeartbeats 400000 in
theorem rest_ok (b : Nat) (s : ByteArray) (w : World) (h : Rd w b 0 s) :
    Calls Tryd.prog 32 #[.pointer (some ⟨b, 0, none⟩)] w fun e w' => e = .returned (.string s) ∧ w.setCell ⟨b, 1, none⟩ (.string ⟨#[]⟩) = w' := by
  have H := Lib.hid h
  clear h
  go_enter Tryd.func32, Tryd.ntmps32
  go_wp2_with (first | (go_at_call 30; refine (left_ok _ _ _ H.out).mono ?_; rintro e w' ⟨rfl, rfl⟩) | (go_at_call 64; refine (take_ok _ _ _ _ H.out (Nat.le_refl _)).mono ?_; rintro e w' ⟨rfl, rfl⟩))
  go_returns
  exact ⟨by first | rfl | simp, rfl⟩

set_option maxHeartbeats 400000 in
theorem fail_nil (x : Int) (w : World) : Calls Tryd.prog 60 #[.pointer none, .int .i64 x] w fun e w' => e = .returned (.tuple #[]) ∧ w = w' := by
  go_enter Tryd.func60, Tryd.ntmps60
  go_wp2
  go_returns
  exact ⟨rfl, rfl⟩

set_option maxHeartbeats 400000 in
theorem fail_bad (b : Nat) (e0 x : Int) (w : World) (h0 : w.cell? ⟨b, 0, none⟩ = some (.int .i64 e0)) (he : (e0 == 0) = false) :
    Calls Tryd.prog 60 #[.pointer (some ⟨b, 0, none⟩), .int .i64 x] w fun e w' => e = .returned (.tuple #[]) ∧ w = w' := by
  go_enter Tryd.func60, Tryd.ntmps60
  go_wp2_with (go_at_call 72; refine (record_bad _ _ _ _ h0 he).mono ?_; rintro e w' ⟨rfl, rfl⟩)
  go_returns
  exact ⟨rfl, rfl⟩

set_option maxHeartbeats 400000 in
theorem fail_ok (b : Nat) (s : ByteArray) (x : Int) (w : World) (h : Rd w b 0 s) :
    Calls Tryd.prog 60 #[.pointer (some ⟨b, 0, none⟩), .int .i64 x] w fun e w' => e = .returned (.tuple #[]) ∧ w.setCell ⟨b, 0, none⟩ (.int .i64 x) = w' := by
  have h0 := h.c0
  have hf := h.f 0
  clear h
  go_enter Tryd.func60, Tryd.ntmps60
  go_wp2_with (go_at_call 72; refine (record_ok _ _ _ h0 hf).mono ?_; rintro e w' ⟨rfl, rfl⟩)
  go_returns
  exact ⟨rfl, rfl⟩
end Go.Proofs.YthpilpcjnpnodaaDoor
