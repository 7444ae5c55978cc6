/-
  OF NO PROGRAM: a block with known cells, and what a call that writes one block leaves as it was.
  WALKS of what a Writer and a Reader have in common: sound, record, allows.
  WALKS of the methods of Reader, case by case: what each returns, and the one store that it makes.
  WALKS of Reader.Num: the number that the next octets denote.
  A Writer in memory: a tail, and a chain of pieces in front of it. WALKS of add, Num, Text.
  WALKS of Writer.Text and Writer.Num.
  WALKS of Writer.Done: the octets of the pieces and of the tail, put together from the end.
-/
import Derived.WalkKit
import Derived.Deep.OwnRows
import Derived.Test.YtacbhbejchjbiaaDoorRows
import Derived.Test.YtacbhbejchjbiaaDoorWrMath
import Derived.WalkSpells
import Derived.WalkLawsBesides
import Derived.Deep.QuietTactic
import Derived.BigQuiet
import Derived.Lib.Hide
import Derived.Handy
import Derived.Laws.Concat
import Derived.Laws.IdiomStrings
import Derived.Deep.LoopGhost
import Derived.Lib.BufferWrite
namespace Go.Wr
open Go.RowKit

/-- Block b holds these cells, none of them frozen. -/
def Blk (w : World) (b : Nat) (t : TypeId) (vs : List Value) : Prop := w.heap[b]? = some (.cells vs.toArray t (0, 0))

namespace Blk
variable {w w' : World} {b : Nat} {t : TypeId} {vs : List Value}
theorem cell (h : Blk w b t vs) (i : Nat) (v : Value) (hv : vs[i]? = some v) : w.cell? ⟨b, i, none⟩ = some v := by
  unfold Blk at h
  simp [World.cell?, h, hv]
theorem frozen (h : Blk w b t vs) (i : Nat) : w.frozen? ⟨b, i, none⟩ = false := by
  unfold Blk at h
  simp [World.frozen?, h]
theorem lt (h : Blk w b t vs) : b < w.heap.size := (Array.getElem?_eq_some_iff.1 h).1
theorem of_block (h : Blk w b t vs) (e : w'.heap[b]? = w.heap[b]?) : Blk w' b t vs := e.trans h
theorem set (h : Blk w b t vs) (i : Nat) (v : Value) : Blk (w.setCell ⟨b, i, none⟩ v) b t (vs.set i v) := by
  unfold Blk at *
  simp [World.setCell, Array.getElem?_modify, h]
theorem setOther (h : Blk w b t vs) {a : Addr} (ha : b ≠ a.block) (v : Value) : Blk (w.setCell a v) b t vs := h.of_block (Below.heap_setCell _ _ _ _ ha)
theorem alloc (h : Blk w b t vs) (o : Obj) : Blk (w.alloc o) b t vs := h.of_block (Below.heap_alloc _ _ _ h.lt)
theorem drew (h : Blk w b t vs) : Blk w.drew b t vs := h
theorem new (w : World) (g : Nat) (t : TypeId) (vs : List Value) (h : g = w.heap.size) : Blk (w.alloc (.cells vs.toArray t (0, 0))) g t vs := by
  subst h
  show (w.heap.push _)[w.heap.size]? = _
  rw [Array.getElem?_push, if_pos rfl]
end Blk

/-- All blocks but b that were there are as they were; the streams too. -/
structure But (b : Nat) (w w' : World) : Prop where
  os : w'.os = w.os
  tape : w'.tape = w.tape
  output : w'.output = w.output
  size : w.heap.size ≤ w'.heap.size
  block : ∀ k, k < w.heap.size → k ≠ b → w'.heap[k]? = w.heap[k]?

namespace But
variable {b B : Nat} {a w w' : World}
theorem refl (b : Nat) (w : World) : But b w w := ⟨rfl, rfl, rfl, Nat.le_refl _, fun _ _ _ => rfl⟩
theorem trans {c : World} (h : But b a w) (k : But b w c) : But b a c :=
  ⟨k.os.trans h.os, k.tape.trans h.tape, k.output.trans h.output, Nat.le_trans h.size k.size, fun i hi hb => (k.block i (Nat.lt_of_lt_of_le hi h.size) hb).trans (h.block i hi hb)⟩
theorem drew (h : But b a w) : But b a w.drew := ⟨h.os, h.tape, h.output, h.size, h.block⟩
theorem alloc (h : But b a w) (o : Obj) : But b a (w.alloc o) :=
  h.trans ⟨rfl, rfl, rfl, by simp, fun k hk _ => Below.heap_alloc _ _ _ (by omega)⟩
theorem setCell (h : But b a w) {p : Addr} (hp : p.block = b ∨ a.heap.size ≤ p.block) (u : Value) : But b a (w.setCell p u) :=
  ⟨h.os, h.tape, h.output, by simpa [World.setCell] using h.size, fun k hk hb => (Below.heap_setCell _ _ _ _ (by omega)).trans (h.block k hk hb)⟩
theorem set1 (r i : Nat) (w : World) (v : Value) : But r w (w.setCell ⟨r, i, none⟩ v) := (But.refl r w).setCell (p := ⟨r, i, none⟩) (.inl rfl) v
theorem of_below (h : Below B a w) (hB : a.heap.size ≤ B) : But b a w := ⟨h.os, h.tape, h.output, h.size, fun k hk _ => h.block k (by omega)⟩
theorem below (h : But b a w) (hB : B ≤ a.heap.size) (hb : B ≤ b) : Below B a w := ⟨h.os, h.tape, h.output, h.size, fun k hk => h.block k (by omega) (by omega)⟩
theorem cell (h : But b a w) {p : Addr} (hp : p.block < a.heap.size) (hb : p.block ≠ b) : w.cell? p = a.cell? p := World.cell?_of_block (w := a) (h.block p.block hp hb)
theorem blk {t : TypeId} {vs : List Value} {g : Nat} (h : But b a w) (hg : Blk a g t vs) (hb : g ≠ b) : Blk w g t vs := hg.of_block (h.block g hg.lt hb)
theorem grown {row : Option Nat} (h : But b a w) (hg : w.grownBy w' row) (hr : ∀ k, row = some k → k = b ∨ a.heap.size ≤ k) : But b a w' :=
  ⟨hg.os.trans h.os, hg.tape.trans h.tape, hg.output.trans h.output, Nat.le_trans h.size hg.size, fun k hk hb => (hg.block k (Nat.lt_of_lt_of_le hk h.size) (fun e => by have := hr k e.symm; omega)).trans (h.block k hk hb)⟩
end But
end Go.Wr

namespace Go.Proofs.YtacbhbejchjbiaaDoor
open Go.RowKit Go.Wr

set_option maxHeartbeats 400000 in
theorem sound_any (b : Nat) (e : Int) (w : World) (h : w.cell? ⟨b, 0, none⟩ = some (.int .i64 e)) :
    Calls Tryd.prog 35 #[.pointer (some ⟨b, 0, none⟩)] w fun x w' => x = .returned (.bool (e == 0)) ∧ w = w' := by
  go_enter Tryd.func35, Tryd.ntmps35
  go_wp2
  go_returns
  exact ⟨rfl, rfl⟩

set_option maxHeartbeats 400000 in
theorem record_ok (b : Nat) (x : Int) (w : World) (h : w.cell? ⟨b, 0, none⟩ = some (.int .i64 0)) (hf : w.frozen? ⟨b, 0, none⟩ = false) :
    Calls Tryd.prog 51 #[.pointer (some ⟨b, 0, none⟩), .int .i64 x] w fun e w' => e = .returned (.tuple #[]) ∧ w.setCell ⟨b, 0, none⟩ (.int .i64 x) = w' := by
  go_enter Tryd.func51, Tryd.ntmps51
  go_wp2_with (go_at_call 35; refine (sound_any _ _ _ h).mono ?_; rintro e w' ⟨rfl, rfl⟩)
  go_returns
  exact ⟨rfl, rfl⟩

set_option maxHeartbeats 400000 in
theorem record_bad (b : Nat) (x e0 : Int) (w : World) (h : w.cell? ⟨b, 0, none⟩ = some (.int .i64 e0)) (he : (e0 == 0) = false) :
    Calls Tryd.prog 51 #[.pointer (some ⟨b, 0, none⟩), .int .i64 x] w fun e w' => e = .returned (.tuple #[]) ∧ w = w' := by
  go_enter Tryd.func51, Tryd.ntmps51
  go_wp2_with (go_at_call 35; refine (sound_any _ _ _ h).mono ?_; rintro e w' ⟨rfl, rfl⟩)
  go_returns
  exact ⟨rfl, rfl⟩

set_option maxHeartbeats 400000 in
theorem allows_yes (a : Addr) (k : Int) (w : World) (h1 : 1 ≤ k) (h2 : k ≤ 6) :
    Calls Tryd.prog 50 #[.pointer (some a), .int .i64 k] w fun e w' => e = .returned (.bool true) ∧ w = w' := by
  go_enter Tryd.func50, Tryd.ntmps50
  go_wp2
  go_returns
  exact ⟨rfl, rfl⟩

set_option maxHeartbeats 400000 in
theorem allows_no (b : Nat) (k : Int) (w : World) (hk : ¬ (1 ≤ k ∧ k ≤ 6)) (h : w.cell? ⟨b, 0, none⟩ = some (.int .i64 0)) (hf : w.frozen? ⟨b, 0, none⟩ = false) :
    Calls Tryd.prog 50 #[.pointer (some ⟨b, 0, none⟩), .int .i64 k] w fun e w' => e = .returned (.bool false) ∧ w.setCell ⟨b, 0, none⟩ (.int .i64 4) = w' := by
  go_enter Tryd.func50, Tryd.ntmps50
  go_wp2_with (go_at_call 51; refine (record_ok _ _ _ h hf).mono ?_; rintro e w' ⟨rfl, rfl⟩)
  all_goals go_returns
  all_goals exact ⟨rfl, rfl⟩
end Go.Proofs.YtacbhbejchjbiaaDoor

namespace Go.Proofs.YtacbhbejchjbiaaDoor
open Go.RowKit Go.Wr

/-- The Reader at block b has this error and these octets left. -/
def Rd (w : World) (b : Nat) (e : Int) (s : ByteArray) : Prop := Blk w b 82 [.int .i64 e, .string s]
theorem Rd.c0 {w : World} {b : Nat} {e : Int} {s : ByteArray} (h : Rd w b e s) : w.cell? ⟨b, 0, none⟩ = some (.int .i64 e) := Blk.cell h 0 _ rfl
theorem Rd.c1 {w : World} {b : Nat} {e : Int} {s : ByteArray} (h : Rd w b e s) : w.cell? ⟨b, 1, none⟩ = some (.string s) := Blk.cell h 1 _ rfl
theorem Rd.f {w : World} {b : Nat} {e : Int} {s : ByteArray} (h : Rd w b e s) (i : Nat) : w.frozen? ⟨b, i, none⟩ = false := Blk.frozen h i
theorem Rd.setE {w : World} {b : Nat} {e : Int} {s : ByteArray} (h : Rd w b e s) (x : Int) : Rd (w.setCell ⟨b, 0, none⟩ (.int .i64 x)) b x s := Blk.set h 0 _
theorem Rd.setS {w : World} {b : Nat} {e : Int} {s : ByteArray} (h : Rd w b e s) (x : ByteArray) : Rd (w.setCell ⟨b, 1, none⟩ (.string x)) b e x := Blk.set h 1 _

set_option maxHeartbeats 400000 in
theorem new_any (s : ByteArray) (w : World) :
    Calls Tryd.prog 20 #[.string s] w fun e w' => e = .returned (.pointer (some ⟨w.heap.size, 0, none⟩)) ∧ w.alloc (.cells #[.int .i64 0, .string s] 82) = w' := by
  go_enter Tryd.func20, Tryd.ntmps20
  go_wp2
  go_returns
  exact ⟨rfl, rfl⟩

set_option maxHeartbeats 400000 in
theorem next_ok (b : Nat) (s : ByteArray) (k : Nat) (w : World) (h : Rd w b 0 s) (hk : k ≤ s.size) :
    Calls Tryd.prog 55 #[.pointer (some ⟨b, 0, none⟩), .int .i64 k] w fun e w' => e = .returned (.string (s.extract 0 k)) ∧ w.setCell ⟨b, 1, none⟩ (.string (s.extract k s.size)) = w' := by
  have h1 := h.c1
  have hf := h.f 1
  have hn : ¬ ((s.size : Int) < k) := by omega
  clear h
  go_enter Tryd.func55, Tryd.ntmps55
  go_wp2
  go_returns
  exact ⟨rfl, rfl⟩

set_option maxHeartbeats 400000 in
theorem next_short (b : Nat) (s : ByteArray) (k : Int) (w : World) (h : Rd w b 0 s) (hk : (s.size : Int) < k) :
    Calls Tryd.prog 55 #[.pointer (some ⟨b, 0, none⟩), .int .i64 k] w fun e w' => e = .returned (.string ⟨#[]⟩) ∧ w.setCell ⟨b, 0, none⟩ (.int .i64 1) = w' := by
  have h1 := h.c1
  have h0 := h.c0
  have hf := h.f 0
  clear h
  go_enter Tryd.func55, Tryd.ntmps55
  go_wp2_with (go_at_call 51; refine (record_ok _ _ _ h0 hf).mono ?_; rintro e w' ⟨rfl, rfl⟩)
  go_returns
  exact ⟨rfl, rfl⟩

/-! Take -/
set_option maxHeartbeats 400000 in
theorem take_nil (n : Int) (w : World) :
    Calls Tryd.prog 42 #[.pointer none, .int .i64 n] w fun e w' => e = .returned (.string ⟨#[]⟩) ∧ w = w' := by
  go_enter Tryd.func42, Tryd.ntmps42
  go_wp2
  go_returns
  exact ⟨rfl, rfl⟩

set_option maxHeartbeats 400000 in
theorem take_bad (b : Nat) (e0 : Int) (n : Int) (w : World) (h0 : w.cell? ⟨b, 0, none⟩ = some (.int .i64 e0)) (he : (e0 == 0) = false) :
    Calls Tryd.prog 42 #[.pointer (some ⟨b, 0, none⟩), .int .i64 n] w fun e w' => e = .returned (.string ⟨#[]⟩) ∧ w = w' := by
  go_enter Tryd.func42, Tryd.ntmps42
  go_wp2_with (go_at_call 35; refine (sound_any _ _ _ h0).mono ?_; rintro e w' ⟨rfl, rfl⟩)
  go_returns
  exact ⟨rfl, rfl⟩

set_option maxHeartbeats 400000 in
theorem take_neg (b : Nat) (s : ByteArray) (n : Int) (w : World) (h : Rd w b 0 s) (hn : n < 0) :
    Calls Tryd.prog 42 #[.pointer (some ⟨b, 0, none⟩), .int .i64 n] w fun e w' => e = .returned (.string ⟨#[]⟩) ∧ w.setCell ⟨b, 0, none⟩ (.int .i64 4) = w' := by
  have h0 := h.c0
  have hf := h.f 0
  clear h
  go_enter Tryd.func42, Tryd.ntmps42
  go_wp2_with (first | (go_at_call 35; refine (sound_any _ _ _ h0).mono ?_; rintro e w' ⟨rfl, rfl⟩) | (go_at_call 51; refine (record_ok _ _ _ h0 hf).mono ?_; rintro e w' ⟨rfl, rfl⟩))
  go_returns
  exact ⟨rfl, rfl⟩

set_option maxHeartbeats 400000 in
theorem take_short (b : Nat) (s : ByteArray) (n : Int) (w : World) (h : Rd w b 0 s) (hn : (s.size : Int) < n) :
    Calls Tryd.prog 42 #[.pointer (some ⟨b, 0, none⟩), .int .i64 n] w fun e w' => e = .returned (.string ⟨#[]⟩) ∧ w.setCell ⟨b, 0, none⟩ (.int .i64 1) = w' := by
  have h0 := h.c0
  have hn0 : ¬ (n < 0) := by omega
  have H := Lib.hid h
  have Hn := Lib.hid hn
  clear h hn
  go_enter Tryd.func42, Tryd.ntmps42
  go_wp2_with (first | (go_at_call 35; refine (sound_any _ _ _ h0).mono ?_; rintro e w' ⟨rfl, rfl⟩) | (go_at_call 55; refine (next_short _ _ _ _ H.out Hn.out).mono ?_; rintro e w' ⟨rfl, rfl⟩))
  go_returns
  exact ⟨rfl, rfl⟩

set_option maxHeartbeats 400000 in
theorem take_ok (b : Nat) (s : ByteArray) (k : Nat) (w : World) (h : Rd w b 0 s) (hk : k ≤ s.size) :
    Calls Tryd.prog 42 #[.pointer (some ⟨b, 0, none⟩), .int .i64 k] w fun e w' => e = .returned (.string (s.extract 0 k)) ∧ w.setCell ⟨b, 1, none⟩ (.string (s.extract k s.size)) = w' := by
  have h0 := h.c0
  have H := Lib.hid h
  have Hk := Lib.hid hk
  clear h hk
  go_enter Tryd.func42, Tryd.ntmps42
  go_wp2_with (first | (go_at_call 35; refine (sound_any _ _ _ h0).mono ?_; rintro e w' ⟨rfl, rfl⟩) | (go_at_call 55; refine (next_ok _ _ _ _ H.out Hk.out).mono ?_; rintro e w' ⟨rfl, rfl⟩))
  go_returns
  exact ⟨rfl, rfl⟩

/-! Left, Err, End, Rest, Fail -/
set_option maxHeartbeats 400000 in
theorem left_nil (w : World) : Calls Tryd.prog 23 #[.pointer none] w fun e w' => e = .returned (.int .i64 0) ∧ w = w' := by
  go_enter Tryd.func23, Tryd.ntmps23
  go_wp2
  go_returns
  exact ⟨rfl, rfl⟩

set_option maxHeartbeats 400000 in
theorem left_bad (b : Nat) (e0 : Int) (w : World) (h0 : w.cell? ⟨b, 0, none⟩ = some (.int .i64 e0)) (he : (e0 == 0) = false) :
    Calls Tryd.prog 23 #[.pointer (some ⟨b, 0, none⟩)] w fun e w' => e = .returned (.int .i64 0) ∧ w = w' := by
  go_enter Tryd.func23, Tryd.ntmps23
  go_wp2_with (go_at_call 35; refine (sound_any _ _ _ h0).mono ?_; rintro e w' ⟨rfl, rfl⟩)
  go_returns
  exact ⟨rfl, rfl⟩

set_option maxHeartbeats 400000 in
theorem left_ok (b : Nat) (s : ByteArray) (w : World) (h : Rd w b 0 s) :
    Calls Tryd.prog 23 #[.pointer (some ⟨b, 0, none⟩)] w fun e w' => e = .returned (.int .i64 s.size) ∧ w = w' := by
  have h0 := h.c0
  have h1 := h.c1
  clear h
  go_enter Tryd.func23, Tryd.ntmps23
  go_wp2_with (go_at_call 35; refine (sound_any _ _ _ h0).mono ?_; rintro e w' ⟨rfl, rfl⟩)
  go_returns
  exact ⟨rfl, rfl⟩

set_option maxHeartbeats 400000 in
theorem err_nil (w : World) : Calls Tryd.prog 22 #[.pointer none] w fun e w' => e = .returned (.int .i64 9) ∧ w = w' := by
  go_enter Tryd.func22, Tryd.ntmps22
  go_wp2
  go_returns
  exact ⟨rfl, rfl⟩

set_option maxHeartbeats 400000 in
theorem err_any (b : Nat) (e0 : Int) (w : World) (h0 : w.cell? ⟨b, 0, none⟩ = some (.int .i64 e0)) :
    Calls Tryd.prog 22 #[.pointer (some ⟨b, 0, none⟩)] w fun e w' => e = .returned (.int .i64 e0) ∧ w = w' := by
  go_enter Tryd.func22, Tryd.ntmps22
  go_wp2
  go_returns
  exact ⟨rfl, rfl⟩

set_option maxHeartbeats 400000 in
theorem rest_nil (w : World) : Calls Tryd.prog 24 #[.pointer none] w fun e w' => e = .returned (.string ⟨#[]⟩) ∧ w = w' := by
  go_enter Tryd.func24, Tryd.ntmps24
  go_wp2_with (first | (go_at_call 23; refine (left_nil _).mono ?_; rintro e w' ⟨rfl, rfl⟩) | (go_at_call 42; refine (take_nil _ _).mono ?_; rintro e w' ⟨rfl, rfl⟩))
  go_returns
  exact ⟨rfl, rfl⟩

set_option maxHeartbeats 400000 in
theorem rest_bad (b : Nat) (e0 : Int) (w : World) (h0 : w.cell? ⟨b, 0, none⟩ = some (.int .i64 e0)) (he : (e0 == 0) = false) :
    Calls Tryd.prog 24 #[.pointer (some ⟨b, 0, none⟩)] w fun e w' => e = .returned (.string ⟨#[]⟩) ∧ w = w' := by
  go_enter Tryd.func24, Tryd.ntmps24
  go_wp2_with (first | (go_at_call 23; refine (left_bad _ _ _ h0 he).mono ?_; rintro e w' ⟨rfl, rfl⟩) | (go_at_call 42; refine (take_bad _ _ _ _ h0 he).mono ?_; rintro e w' ⟨rfl, rfl⟩))
  go_returns
  exact ⟨rfl, rfl⟩

set_option maxHeartbeats 400000 in
theorem rest_ok (b : Nat) (s : ByteArray) (w : World) (h : Rd w b 0 s) :
    Calls Tryd.prog 24 #[.pointer (some ⟨b, 0, none⟩)] w fun e w' => e = .returned (.string s) ∧ w.setCell ⟨b, 1, none⟩ (.string ⟨#[]⟩) = w' := by
  have H := Lib.hid h
  clear h
  go_enter Tryd.func24, Tryd.ntmps24
  go_wp2_with (first | (go_at_call 23; refine (left_ok _ _ _ H.out).mono ?_; rintro e w' ⟨rfl, rfl⟩) | (go_at_call 42; refine (take_ok _ _ _ _ H.out (Nat.le_refl _)).mono ?_; rintro e w' ⟨rfl, rfl⟩))
  go_returns
  exact ⟨by first | rfl | simp, rfl⟩

set_option maxHeartbeats 400000 in
theorem fail_nil (x : Int) (w : World) : Calls Tryd.prog 45 #[.pointer none, .int .i64 x] w fun e w' => e = .returned (.tuple #[]) ∧ w = w' := by
  go_enter Tryd.func45, Tryd.ntmps45
  go_wp2
  go_returns
  exact ⟨rfl, rfl⟩

set_option maxHeartbeats 400000 in
theorem fail_bad (b : Nat) (e0 x : Int) (w : World) (h0 : w.cell? ⟨b, 0, none⟩ = some (.int .i64 e0)) (he : (e0 == 0) = false) :
    Calls Tryd.prog 45 #[.pointer (some ⟨b, 0, none⟩), .int .i64 x] w fun e w' => e = .returned (.tuple #[]) ∧ w = w' := by
  go_enter Tryd.func45, Tryd.ntmps45
  go_wp2_with (go_at_call 51; refine (record_bad _ _ _ _ h0 he).mono ?_; rintro e w' ⟨rfl, rfl⟩)
  go_returns
  exact ⟨rfl, rfl⟩

set_option maxHeartbeats 400000 in
theorem fail_ok (b : Nat) (s : ByteArray) (x : Int) (w : World) (h : Rd w b 0 s) :
    Calls Tryd.prog 45 #[.pointer (some ⟨b, 0, none⟩), .int .i64 x] w fun e w' => e = .returned (.tuple #[]) ∧ w.setCell ⟨b, 0, none⟩ (.int .i64 x) = w' := by
  have h0 := h.c0
  have hf := h.f 0
  clear h
  go_enter Tryd.func45, Tryd.ntmps45
  go_wp2_with (go_at_call 51; refine (record_ok _ _ _ h0 hf).mono ?_; rintro e w' ⟨rfl, rfl⟩)
  go_returns
  exact ⟨rfl, rfl⟩
end Go.Proofs.YtacbhbejchjbiaaDoor

namespace Go.Proofs.YtacbhbejchjbiaaDoor
open Go.RowKit Go.Wr

set_option maxHeartbeats 400000 in
theorem num_nil (k : Int) (w : World) : Calls Tryd.prog 40 #[.pointer none, .int .i64 k] w fun e w' => e = .returned (.int .i64 0) ∧ w = w' := by
  go_enter Tryd.func40, Tryd.ntmps40
  go_wp2
  go_returns
  exact ⟨rfl, rfl⟩

set_option maxHeartbeats 400000 in
theorem num_bad (b : Nat) (e0 : Int) (k : Int) (w : World) (h0 : w.cell? ⟨b, 0, none⟩ = some (.int .i64 e0)) (he : (e0 == 0) = false) :
    Calls Tryd.prog 40 #[.pointer (some ⟨b, 0, none⟩), .int .i64 k] w fun e w' => e = .returned (.int .i64 0) ∧ w = w' := by
  go_enter Tryd.func40, Tryd.ntmps40
  go_wp2_with (go_at_call 35; refine (sound_any _ _ _ h0).mono ?_; rintro e w' ⟨rfl, rfl⟩)
  go_returns
  exact ⟨rfl, rfl⟩

set_option maxHeartbeats 400000 in
theorem num_range (b : Nat) (s : ByteArray) (k : Int) (w : World) (h : Rd w b 0 s) (hk : ¬ (1 ≤ k ∧ k ≤ 6)) :
    Calls Tryd.prog 40 #[.pointer (some ⟨b, 0, none⟩), .int .i64 k] w fun e w' => e = .returned (.int .i64 0) ∧ w.setCell ⟨b, 0, none⟩ (.int .i64 4) = w' := by
  have h0 := h.c0
  have hf := h.f 0
  have Hk := Lib.hid hk
  clear h hk
  go_enter Tryd.func40, Tryd.ntmps40
  go_wp2_with (first | (go_at_call 35; refine (sound_any _ _ _ h0).mono ?_; rintro e w' ⟨rfl, rfl⟩) | (go_at_call 50; refine (allows_no _ _ _ Hk.out h0 hf).mono ?_; rintro e w' ⟨rfl, rfl⟩))
  go_returns
  exact ⟨rfl, rfl⟩

set_option maxHeartbeats 400000 in
theorem num_short (b : Nat) (s : ByteArray) (k : Int) (w : World) (h : Rd w b 0 s) (hk : 1 ≤ k ∧ k ≤ 6) (hs : (s.size : Int) < k) :
    Calls Tryd.prog 40 #[.pointer (some ⟨b, 0, none⟩), .int .i64 k] w fun e w' => e = .returned (.int .i64 0) ∧ w.setCell ⟨b, 0, none⟩ (.int .i64 1) = w' := by
  have h0 := h.c0
  have H := Lib.hid h
  have Hk := Lib.hid hk
  have Hs := Lib.hid hs
  clear h hk hs
  go_enter Tryd.func40, Tryd.ntmps40
  go_wp2_with (first | (go_at_call 35; refine (sound_any _ _ _ h0).mono ?_; rintro e w' ⟨rfl, rfl⟩) | (go_at_call 50; refine (allows_yes _ _ _ Hk.out.1 Hk.out.2).mono ?_; rintro e w' ⟨rfl, rfl⟩) | (go_at_call 55; refine (next_short _ _ _ _ H.out Hs.out).mono ?_; rintro e w' ⟨rfl, rfl⟩))
  refine wp_loop_rounds 1 ?_
  rw [rounds_succ]
  go_wp2
  go_returns
  exact ⟨rfl, rfl⟩

set_option maxHeartbeats 1000000 in
theorem num_ok (b : Nat) (s : ByteArray) (k : Nat) (w : World) (h : Rd w b 0 s) (hk1 : 1 ≤ k) (hk6 : k ≤ 6) (hk : k ≤ s.size) :
    Calls Tryd.prog 40 #[.pointer (some ⟨b, 0, none⟩), .int .i64 k] w fun e w' => e = .returned (.int .i64 (val (s.extract 0 k).data.toList)) ∧ w.setCell ⟨b, 1, none⟩ (.string (s.extract k s.size)) = w' := by
  have h0 := h.c0
  have H := Lib.hid h
  have Hk := Lib.hid hk
  have hz : (s.extract 0 k).size = k := by simp; omega
  obtain ⟨l, hl⟩ : ∃ l, l = s.extract 0 k := ⟨_, rfl⟩
  have Hl := Lib.hid hl
  rw [← hl] at hz ⊢
  clear h hk hl
  go_enter Tryd.func40, Tryd.ntmps40
  go_wp2_with (first | (go_at_call 35; refine (sound_any _ _ _ h0).mono ?_; rintro e w' ⟨rfl, rfl⟩) | (go_at_call 50; refine (allows_yes _ _ _ (by omega) (by omega)).mono ?_; rintro e w' ⟨rfl, rfl⟩) | (go_at_call 55; refine (next_ok _ _ _ _ H.out Hk.out).mono ?_; rw [← Hl.out]; rintro e w' ⟨rfl, rfl⟩))
  go_loop [6, 30] (fun x i => ∃ m : Nat, m ≤ k ∧ i = .int .i64 m ∧ x = .int .i64 (val (l.data.toList.take m) : Int)) (fun _ i => k - (intOf i).toNat)
  case atStart => exact ⟨0, Nat.zero_le _, rfl, rfl⟩
  case round =>
    obtain ⟨m, hm, rfl, rfl⟩ := hrel
    by_cases hlt : m < k
    · go_wp2
      go_round
      case rel => exact ⟨m + 1, by omega, by go_num, by rw [or_step l m (by omega) (by omega)]⟩
      case measure => simp [intOf]; omega
    · obtain rfl : m = k := by omega
      go_wp2
      go_returns
      exact ⟨congrArg (fun x : List UInt8 => Ending.returned (.int .i64 (val x : Int))) (List.take_of_length_le (by rw [Array.length_toList]; exact Nat.le_of_eq hz)), rfl⟩
end Go.Proofs.YtacbhbejchjbiaaDoor

namespace Go.Proofs.YtacbhbejchjbiaaDoor
open Go.RowKit Go.Wr

/-- The pieces before the tail, the last one first. -/
inductive Chain (w : World) (b : Nat) : Option Addr → List ByteArray → Prop
  | nil : Chain w b none []
  | node (g : Nat) (q : Option Addr) (s : ByteArray) (ps : List ByteArray) : g ≠ b → Blk w g 78 [.pointer q, .string s] → Chain w b q ps → Chain w b (some ⟨g, 0, none⟩) (s :: ps)

/-- Their octets, in order. -/
def flat : List ByteArray → List UInt8
  | [] => []
  | s :: ps => flat ps ++ s.data.toList

theorem Chain.but {w w' : World} {b : Nat} {p : Option Addr} {ps : List ByteArray} (h : Chain w b p ps) (hb : But b w w') : Chain w' b p ps := by
  induction h with
  | nil => exact .nil
  | node g q s ps hg hk _ ih => exact .node g q s ps hg (hb.blk hk hg) ih

/-- The Writer at block b is sound and has these octets. -/
def Wr (w : World) (b : Nat) (L : List UInt8) : Prop :=
  ∃ p t ps, Blk w b 50 [.int .i64 0, .pointer p, .string t] ∧ Chain w b p ps ∧ L = flat ps ++ t.data.toList

theorem Wr.c0 {w : World} {b : Nat} {L : List UInt8} (h : Wr w b L) : w.cell? ⟨b, 0, none⟩ = some (.int .i64 0) := by
  obtain ⟨p, t, ps, h, _⟩ := h; exact Blk.cell h 0 _ rfl
theorem Wr.f {w : World} {b : Nat} {L : List UInt8} (h : Wr w b L) (i : Nat) : w.frozen? ⟨b, i, none⟩ = false := by
  obtain ⟨p, t, ps, h, _⟩ := h; exact Blk.frozen h i
theorem Wr.lt {w : World} {b : Nat} {L : List UInt8} (h : Wr w b L) : b < w.heap.size := by
  obtain ⟨p, t, ps, h, _⟩ := h; exact Blk.lt h

set_option maxHeartbeats 1000000 in
theorem add_any (b : Nat) (L : List UInt8) (s : ByteArray) (w : World) (h : Wr w b L) (hs : L.length + s.size ≤ 140737488351232) :
    Calls Tryd.prog 36 #[.pointer (some ⟨b, 0, none⟩), .string s] w fun e w' => e = .returned (.tuple #[]) ∧ Wr w' b (L ++ s.data.toList) ∧ But b w w' := by
  obtain ⟨p, t, ps, hb, hch, rfl⟩ := h
  have hsum : t.size + s.size ≤ 9223372036854775807 := by
    have h1 : t.data.toList.length = t.size := Array.length_toList
    rw [List.length_append] at hs
    omega
  have hadd : ∀ W, (Op.stringOp .add t s).run Tryd.prog W = .ok (.string (t ++ s)) W := fun W => run_string_add_sum (P := Tryd.prog) W t s hsum
  obtain ⟨u, hu⟩ : ∃ u, u = t ++ s := ⟨_, rfl⟩
  have hd : u.data.toList = t.data.toList ++ s.data.toList := by rw [hu]; simp
  rw [← hu] at hadd
  have Hd := Lib.hid hd
  have hc1 : w.cell? ⟨b, 1, none⟩ = some (.pointer p) := Blk.cell hb 1 _ rfl
  have hc2 : w.cell? ⟨b, 2, none⟩ = some (.string t) := Blk.cell hb 2 _ rfl
  have hf1 : w.frozen? ⟨b, 1, none⟩ = false := Blk.frozen hb 1
  have hf2 : w.frozen? ⟨b, 2, none⟩ = false := Blk.frozen hb 2
  have hb1 := hb.set 2 (.string u)
  have hbz : But b w (w.setCell ⟨b, 2, none⟩ (.string u)) := (But.refl b w).setCell (.inl rfl) _
  have HB := Lib.hid hb1
  have HZ := Lib.hid hbz
  have HC := Lib.hid hch
  have HL := Lib.hid hb.lt
  clear hb hu hd hs hsum hch hb1 hbz
  go_enter Tryd.func36, Tryd.ntmps36
  go_wp2
  · have HB1 := HB.out
    have HZ1 := HZ.out
    generalize w.setCell ⟨b, 2, none⟩ (.string u) = W1 at HB1 HZ1 ⊢
    clear HB HZ hadd hc1 hc2 hf1 hf2
    have c1 : W1.cell? ⟨b, 1, none⟩ = some (.pointer p) := Blk.cell HB1 1 _ rfl
    have c2 : W1.cell? ⟨b, 2, none⟩ = some (.string u) := Blk.cell HB1 2 _ rfl
    have c3 : ∀ o, (W1.alloc o).cell? ⟨b, 1, none⟩ = some (.pointer p) := fun o => Blk.cell (HB1.alloc o) 1 _ rfl
    have c4 : ∀ o, (W1.alloc o).frozen? ⟨b, 1, none⟩ = false := fun o => Blk.frozen (HB1.alloc o) 1
    have HB2 := Lib.hid HB1
    have HZ2 := Lib.hid HZ1
    clear HB1 HZ1
    go_region
    have HB3 := ((HB2.out.alloc (.cells #[.pointer p, .string u] 78)).set 1 (.pointer (some ⟨W1.heap.size, 0, none⟩))).drew
    have HP3 := ((Blk.new W1 _ 78 [.pointer p, .string u] rfl).setOther (a := ⟨b, 1, none⟩) (by have := HB2.out.lt; simp; omega) (.pointer (some ⟨W1.heap.size, 0, none⟩))).drew
    have HZ3 := (((HZ2.out.alloc (.cells #[.pointer p, .string u] 78)).setCell (p := ⟨b, 1, none⟩) (.inl rfl) (.pointer (some ⟨W1.heap.size, 0, none⟩)))).drew
    have HG3 : W1.heap.size ≠ b := by have := HB2.out.lt; omega
    generalize W1.heap.size = g at *
    generalize ((W1.alloc (Obj.cells #[Value.pointer p, Value.string u] 78)).setCell ⟨b, 1, none⟩ (.pointer (some ⟨g, 0, none⟩))).drew = W2 at *
    clear c1 c2 c3 c4 HB2 HZ2
    have c2 : W2.cell? ⟨b, 2, none⟩ = some (.string u) := Blk.cell HB3 2 _ rfl
    have f2 : W2.frozen? ⟨b, 2, none⟩ = false := Blk.frozen HB3 2
    have HR : Hid (Wr (W2.setCell ⟨b, 2, none⟩ (.string ⟨#[]⟩)) b (flat ps ++ t.data.toList ++ s.data.toList) ∧ But b w (W2.setCell ⟨b, 2, none⟩ (.string ⟨#[]⟩))) :=
      ⟨⟨_, _, _, HB3.set 2 _, .node g p u ps HG3 (HP3.setOther (by simpa using HG3) _) (HC.out.but (HZ3.setCell (.inl rfl) _)), by rw [flat, Hd.out]; simp⟩, HZ3.setCell (.inl rfl) _⟩
    clear HB3 HP3 HZ3
    go_wp2
    go_returns
    exact ⟨rfl, HR.out⟩
  · go_returns
    refine ⟨rfl, ⟨p, u, ps, HB.out, HC.out.but HZ.out, by rw [Hd.out, List.append_assoc]⟩, HZ.out⟩
end Go.Proofs.YtacbhbejchjbiaaDoor

namespace Go.Proofs.YtacbhbejchjbiaaDoor
open Go.RowKit Go.Wr

theorem Wr.below {w w' : World} {b : Nat} {L : List UInt8} (h : Wr w b L) (hb : Below w.heap.size w w') : Wr w' b L := by
  obtain ⟨p, t, ps, h1, h2, h3⟩ := h
  exact ⟨p, t, ps, h1.of_block (hb.block b h1.lt), h2.but (But.of_below hb (Nat.le_refl _)), h3⟩

set_option maxHeartbeats 400000 in
theorem text_nil (s : ByteArray) (w : World) : Calls Tryd.prog 12 #[.pointer none, .string s] w fun e w' => e = .returned (.tuple #[]) ∧ w = w' := by
  go_enter Tryd.func12, Tryd.ntmps12
  go_wp2
  go_returns
  exact ⟨rfl, rfl⟩

set_option maxHeartbeats 400000 in
theorem text_bad (b : Nat) (e0 : Int) (s : ByteArray) (w : World) (h0 : w.cell? ⟨b, 0, none⟩ = some (.int .i64 e0)) (he : (e0 == 0) = false) :
    Calls Tryd.prog 12 #[.pointer (some ⟨b, 0, none⟩), .string s] w fun e w' => e = .returned (.tuple #[]) ∧ w = w' := by
  go_enter Tryd.func12, Tryd.ntmps12
  go_wp2_with (go_at_call 35; refine (sound_any _ _ _ h0).mono ?_; rintro e w' ⟨rfl, rfl⟩)
  go_returns
  exact ⟨rfl, rfl⟩

set_option maxHeartbeats 400000 in
theorem text_ok (b : Nat) (L : List UInt8) (s : ByteArray) (w : World) (h : Wr w b L) (hs : L.length + s.size ≤ 140737488351232) :
    Calls Tryd.prog 12 #[.pointer (some ⟨b, 0, none⟩), .string s] w fun e w' => e = .returned (.tuple #[]) ∧ Wr w' b (L ++ s.data.toList) ∧ But b w w' := by
  have h0 := h.c0
  have H := Lib.hid h
  have Hs := Lib.hid hs
  clear h hs
  go_enter Tryd.func12, Tryd.ntmps12
  go_wp2_with (first | (go_at_call 35; refine (sound_any _ _ _ h0).mono ?_; rintro e w' ⟨rfl, rfl⟩) | (go_at_call 36; refine (add_any _ _ _ _ H.out Hs.out).mono ?_; rintro e w' ⟨rfl, hr⟩; have HR := Lib.hid hr; clear hr))
  go_returns
  exact ⟨rfl, HR.out⟩

set_option maxHeartbeats 400000 in
theorem put_nil (n k : Int) (w : World) : Calls Tryd.prog 32 #[.pointer none, .int .i64 n, .int .i64 k] w fun e w' => e = .returned (.tuple #[]) ∧ w = w' := by
  go_enter Tryd.func32, Tryd.ntmps32
  go_wp2
  go_returns
  exact ⟨rfl, rfl⟩

set_option maxHeartbeats 400000 in
theorem put_bad (b : Nat) (e0 : Int) (n k : Int) (w : World) (h0 : w.cell? ⟨b, 0, none⟩ = some (.int .i64 e0)) (he : (e0 == 0) = false) :
    Calls Tryd.prog 32 #[.pointer (some ⟨b, 0, none⟩), .int .i64 n, .int .i64 k] w fun e w' => e = .returned (.tuple #[]) ∧ w = w' := by
  go_enter Tryd.func32, Tryd.ntmps32
  go_wp2_with (go_at_call 35; refine (sound_any _ _ _ h0).mono ?_; rintro e w' ⟨rfl, rfl⟩)
  go_returns
  exact ⟨rfl, rfl⟩

set_option maxHeartbeats 400000 in
theorem put_size (b : Nat) (n k : Int) (w : World) (h0 : w.cell? ⟨b, 0, none⟩ = some (.int .i64 0)) (hf : w.frozen? ⟨b, 0, none⟩ = false) (hk : ¬ (1 ≤ k ∧ k ≤ 6)) :
    Calls Tryd.prog 32 #[.pointer (some ⟨b, 0, none⟩), .int .i64 n, .int .i64 k] w fun e w' => e = .returned (.tuple #[]) ∧ w.setCell ⟨b, 0, none⟩ (.int .i64 4) = w' := by
  have Hk := Lib.hid hk
  clear hk
  go_enter Tryd.func32, Tryd.ntmps32
  go_wp2_with (first | (go_at_call 35; refine (sound_any _ _ _ h0).mono ?_; rintro e w' ⟨rfl, rfl⟩) | (go_at_call 50; refine (allows_no _ _ _ Hk.out h0 hf).mono ?_; rintro e w' ⟨rfl, rfl⟩))
  go_returns
  exact ⟨rfl, rfl⟩

set_option maxHeartbeats 400000 in
theorem put_neg (b : Nat) (n : Int) (k : Nat) (w : World) (h0 : w.cell? ⟨b, 0, none⟩ = some (.int .i64 0)) (hf : w.frozen? ⟨b, 0, none⟩ = false) (h1 : 1 ≤ k) (h6 : k ≤ 6) (hn : n < 0) :
    Calls Tryd.prog 32 #[.pointer (some ⟨b, 0, none⟩), .int .i64 n, .int .i64 k] w fun e w' => e = .returned (.tuple #[]) ∧ w.setCell ⟨b, 0, none⟩ (.int .i64 4) = w' := by
  go_enter Tryd.func32, Tryd.ntmps32
  go_wp2_with (first | (go_at_call 35; refine (sound_any _ _ _ h0).mono ?_; rintro e w' ⟨rfl, rfl⟩) | (go_at_call 50; refine (allows_yes _ _ _ (by omega) (by omega)).mono ?_; rintro e w' ⟨rfl, rfl⟩) | (go_at_call 51; refine (record_ok _ _ _ h0 hf).mono ?_; rintro e w' ⟨rfl, rfl⟩))
  go_returns
  exact ⟨rfl, rfl⟩

set_option maxHeartbeats 400000 in
theorem put_big (b : Nat) (n : Nat) (k : Nat) (w : World) (h0 : w.cell? ⟨b, 0, none⟩ = some (.int .i64 0)) (hf : w.frozen? ⟨b, 0, none⟩ = false) (h1 : 1 ≤ k) (h6 : k ≤ 6) (hn : ¬ n < pow k) :
    Calls Tryd.prog 32 #[.pointer (some ⟨b, 0, none⟩), .int .i64 n, .int .i64 k] w fun e w' => e = .returned (.tuple #[]) ∧ w.setCell ⟨b, 0, none⟩ (.int .i64 4) = w' := by
  have hq : (((n : Int) / 2 ^ (8 * k)) != 0) = true := shr_ne hn
  clear hn
  go_enter Tryd.func32, Tryd.ntmps32
  go_wp2_with (first | (go_at_call 35; refine (sound_any _ _ _ h0).mono ?_; rintro e w' ⟨rfl, rfl⟩) | (go_at_call 50; refine (allows_yes _ _ _ (by omega) (by omega)).mono ?_; rintro e w' ⟨rfl, rfl⟩) | (go_at_call 51; refine (record_ok _ _ _ h0 hf).mono ?_; rintro e w' ⟨rfl, rfl⟩))
  go_returns
  exact ⟨rfl, rfl⟩

/-- The array after m octets of n. -/
def arr (n m : Nat) : List Value := (le n m).map (fun x => Value.int .u8 (x.toNat : Int)) ++ List.replicate (6 - m) (Value.int .u8 0)
theorem arr_set (n m : Nat) (h : m < 6) : (arr n m).set m (.int .u8 ((n / pow m % 256 : Nat) : Int)) = arr n (m + 1) := by
  unfold arr
  have hl : ((le n m).map (fun x => Value.int .u8 (x.toNat : Int))).length = m := by rw [List.length_map, le_len]
  rw [List.set_append_right _ _ (by omega), hl, Nat.sub_self, show 6 - m = (6 - (m + 1)) + 1 from by omega, List.replicate_succ, List.set_cons_zero, le, List.map_append, List.append_assoc]
  congr 1
  simp
theorem arr_len (n m : Nat) (h : m ≤ 6) : (arr n m).length = 6 := by unfold arr; rw [List.length_append, List.length_map, le_len, List.length_replicate]; omega
theorem arr_get (n m j : Nat) (h : j < m) : (arr n m)[j]? = some (.int .u8 (((le n m)[j]'(by rw [le_len]; exact h)).toNat : Int)) := by
  unfold arr
  rw [List.getElem?_append_left (by rw [List.length_map, le_len]; exact h), List.getElem?_map, List.getElem?_eq_getElem (by rw [le_len]; exact h)]; rfl

theorem arr_conv {wr : World} {g n m : Nat} (h : Blk wr g 91 (arr n m)) :
    (convert 39 9 (.slice (some ⟨g, 0, none⟩) m 6)).run Tryd.prog wr = .ok (.string ⟨(le n m).toArray⟩) wr := by
  have := run_convert_bytes_back (P := Tryd.prog) wr 39 9 5 ⟨g, 0, none⟩ 6 (le n m) Tryd.underlying39 Tryd.underlying5 Tryd.underlying9 (fun j hj => by
    have e : (⟨g, 0, none⟩ : Addr).add j = ⟨g, j, none⟩ := by unfold Addr.add; split <;> simp_all
    rw [e]
    exact Blk.cell h j _ (arr_get n m j (by rw [le_len] at hj; exact hj)))
  rwa [le_len] at this

theorem len6 : Tryd.prog.arrayLen 91 = 6 := by kernel_rfl
theorem slice6 (g m : Nat) (h : m ≤ 6) (W : World) :
    (Instr.sliceAt 91 (.pointer (some ⟨g, 0, none⟩)) none (some (.int .i64 m)) none).run Tryd.prog W = .ok (.slice (some ⟨g, 0, none⟩) m 6) W := by
  have h0 : (sizeOf (Tryd.prog.elem 91)).run Tryd.prog W = .ok 1 W := by kernel_rfl
  rw [run_sliceAt_array_h W 91 ⟨g, 0, none⟩ (by kernel_rfl) .i64 m (by omega) (by rw [len6]; omega), h0, len6]
  simp [slicedAt, Result.andThen, Addr.add]

set_option maxHeartbeats 1000000 in
theorem put_ok (b : Nat) (L : List UInt8) (n k : Nat) (w : World) (h : Wr w b L) (h1 : 1 ≤ k) (h6 : k ≤ 6) (hn : n < pow k) (hL : L.length ≤ 140737488350000) :
    Calls Tryd.prog 32 #[.pointer (some ⟨b, 0, none⟩), .int .i64 n, .int .i64 k] w fun e w' => e = .returned (.tuple #[]) ∧ Wr w' b (L ++ le n k) ∧ But b w w' := by
  have hq : (((n : Int) / 2 ^ (8 * k)) != 0) = false := shr_eq hn
  have h0 := h.c0
  have H := Lib.hid h
  have HL := Lib.hid hL
  clear h hL hn
  go_enter Tryd.func32, Tryd.ntmps32
  go_wp2_with (first | (go_at_call 35; refine (sound_any _ _ _ h0).mono ?_; rintro e w' ⟨rfl, rfl⟩) | (go_at_call 50; refine (allows_yes _ _ _ (by omega) (by omega)).mono ?_; rintro e w' ⟨rfl, rfl⟩))
  go_loopw [39] (fun i wr => ∃ m : Nat, m ≤ k ∧ i = .int .i64 m ∧ Blk wr w.heap.size 91 (arr n m) ∧ Below w.heap.size w wr) (fun i _ => k - (intOf i).toNat)
  case atStart => exact ⟨0, Nat.zero_le _, rfl, Blk.new _ _ _ _ rfl, (Below.refl _ _).alloc (Nat.le_refl _) _⟩
  case round =>
    obtain ⟨m, hm, rfl, hblk, hbel⟩ := hrel
    by_cases hlt : m < k
    · have HB := Lib.hid hblk
      have HW := Lib.hid hbel
      obtain ⟨v, hv⟩ : ∃ v, (arr n m)[m]? = some v := ⟨_, List.getElem?_eq_getElem (by rw [arr_len _ _ (by omega)]; omega)⟩
      have hc := Blk.cell hblk m v hv
      have hf := Blk.frozen hblk m
      clear hblk hbel hv
      have HS := Lib.hid (arr_set n m (by omega))
      go_wp2
      go_roundw
      case rel =>
        refine ⟨m + 1, by omega, by go_num, ?_, ?_⟩
        · rw [shr_val, ← HS.out]; exact HB.out.set m _
        · exact HW.out.setCell (Nat.le_refl _) _
      case measure => simp [intOf]; omega
    · obtain rfl : m = k := by omega
      have hc := arr_conv hblk
      have hsl := slice6 w.heap.size m h6
      have HB := Lib.hid hblk
      have HW := Lib.hid hbel
      clear hblk hbel
      go_wp2_with (go_at_call 36; refine (add_any _ _ _ _ (H.out.below HW.out) (by have := HL.out; simp [ByteArray.size, le_len]; omega)).mono ?_; rintro e w' ⟨rfl, hr⟩; have HR := Lib.hid hr; clear hr)
      go_returns
      refine ⟨rfl, HR.out.1, (But.of_below HW.out (Nat.le_refl _)).trans HR.out.2⟩
end Go.Proofs.YtacbhbejchjbiaaDoor

namespace Go.Proofs.YtacbhbejchjbiaaDoor
open Go.RowKit Go.Wr Go.Lib

/-- Where a slice of an array of N octets begins that is cut at o. -/
def cutAt (g o N : Nat) : Addr := if N = o then ⟨g, 0, none⟩ else ⟨g, o, none⟩

set_option maxRecDepth 100000 in
theorem slice_from (g N o : Nat) (lo : Int) (h : lo = o) (ho : o ≤ N) (W : World) :
    (Instr.slice 39 (.slice (some ⟨g, 0, none⟩) N N) (some (.int .i64 lo)) none none).run Tryd.prog W = .ok (.slice (some (cutAt g o N)) (N - o) (N - o)) W := by
  subst h
  have h0 : (sizeOf (Tryd.prog.elem 39)).run Tryd.prog W = .ok 1 W := by kernel_rfl
  rw [run_slice_l W 39 (some ⟨g, 0, none⟩) N N (by kernel_rfl) .i64 o (by omega) (by omega), h0]
  simp only [Result.andThen, sliced, Int.toNat_natCast, Nat.mul_one, cutAt, Option.map_some]
  congr 3
  split
  · rfl
  · simp [Addr.add]; omega

theorem sizeByte : (Tryd.prog.info? 5).map (·.size) = some 1 := by kernel_rfl

theorem copy_at {W : World} {g o N : Nat} {C : List Value} (s : ByteArray) (h : Blk W g 5 C) (hC : C.length = N) (hfit : o + s.size ≤ N) :
    (Builtin.copy_ #[39, 9] 3 #[.slice (some (cutAt g o N)) (N - o) (N - o), .string s]).run Tryd.prog W
      = .ok (.int .i64 (s.size : Int)) (W.setRow g (C.take o ++ byteCells s.data.toList ++ C.drop (o + s.size)).toArray) := by
  unfold cutAt
  split
  · have h0 : s.size = 0 := by omega
    have hl : s.data.toList = [] := List.eq_nil_of_length_eq_zero (by rw [Array.length_toList]; exact h0)
    rw [run_copy_row_string W 39 9 3 5 g 0 (N - o) (N - o) s C.toArray 5 Tryd.underlying39 sizeByte h (by omega) (by simp; omega), h0, hl]
    simp [byteCells, goInt]
  · rw [run_copy_row_string W 39 9 3 5 g o (N - o) (N - o) s C.toArray 5 Tryd.underlying39 sizeByte h (by omega) (by simp; omega)]
    simp [goInt]

theorem blk_setRow {W : World} {g : Nat} {t : TypeId} {C D : List Value} (h : Blk W g t C) : Blk (W.setRow g D.toArray) g t D := setRow_heap W g C.toArray D.toArray t (0, 0) h
theorem below_setRow {B : Nat} {W0 W : World} {g : Nat} {D : Array Value} (h : Below B W0 W) (hg : B ≤ g) : Below B W0 (W.setRow g D) := by
  refine h.trans ⟨rfl, rfl, rfl, by simp [World.setRow], fun k hk => ?_⟩
  simp only [World.setRow, Array.getElem?_modify]
  rw [if_neg (by omega)]

set_option maxHeartbeats 400000 in
theorem done_nil (w : World) : Calls Tryd.prog 13 #[.pointer none] w fun e w' => e = .returned (.tuple #[.string ⟨#[]⟩, .int .i64 9]) ∧ w = w' := by
  go_enter Tryd.func13, Tryd.ntmps13
  go_wp2
  go_returns
  exact ⟨rfl, rfl⟩

set_option maxHeartbeats 400000 in
theorem done_bad (b : Nat) (e0 : Int) (w : World) (h0 : w.cell? ⟨b, 0, none⟩ = some (.int .i64 e0)) (he : (e0 == 0) = false) :
    Calls Tryd.prog 13 #[.pointer (some ⟨b, 0, none⟩)] w fun e w' => e = .returned (.tuple #[.string ⟨#[]⟩, .int .i64 e0]) ∧ Below w.heap.size w w' := by
  go_enter Tryd.func13, Tryd.ntmps13
  go_wp2_with (go_at_call 35; refine (sound_any _ _ _ h0).mono ?_; rintro e w' ⟨rfl, rfl⟩)
  go_region
  all_goals go_wp2
  all_goals go_returns
  all_goals exact ⟨rfl, (Below.refl _ _).drew⟩

theorem infoByte : (Tryd.prog.info? 5).map (fun i => (i.zero, i.size, i.bytes)) = some (some (.int .u8 0), 1, 1) := by kernel_rfl

set_option maxRecDepth 100000 in
set_option maxHeartbeats 2000000 in
theorem done_ok (b : Nat) (L : List UInt8) (w : World) (h : Wr w b L) (hL : L.length ≤ 140737488351232) :
    Calls Tryd.prog 13 #[.pointer (some ⟨b, 0, none⟩)] w fun e w' => e = .returned (.tuple #[.string ⟨L.toArray⟩, .int .i64 0]) ∧ Below w.heap.size w w' := by
  have h0 := h.c0
  obtain ⟨p, t, ps, hb, hch, rfl⟩ := h
  have hc1 : w.cell? ⟨b, 1, none⟩ = some (.pointer p) := Blk.cell hb 1 _ rfl
  have hc2 : w.cell? ⟨b, 2, none⟩ = some (.string t) := Blk.cell hb 2 _ rfl
  obtain ⟨N, hN⟩ : ∃ N, N = (flat ps ++ t.data.toList).length := ⟨_, rfl⟩
  rw [← hN] at hL
  have htl : t.data.toList.length = t.size := Array.length_toList
  have hN2 : N = (flat ps).length + t.size := by rw [hN, List.length_append, htl]
  have hmk := run_make_row' (P := Tryd.prog) 39 5 (.int .u8 0) 1 Tryd.underlying39 infoByte rfl .i64 .i64 N (by omega) (by omega)
  have HCH := Lib.hid hch
  have HB := Lib.hid hb
  have HN := Lib.hid hN2
  clear hch hb hN hN2 htl
  go_enter Tryd.func13, Tryd.ntmps13
  go_wp2_with (go_at_call 35; refine (sound_any _ _ _ h0).mono ?_; rintro e w' ⟨rfl, rfl⟩)
  go_loopg [4, 5] ps.length (fun k z q wr => w = wr ∧ ∃ a rs m, q = .pointer a ∧ Chain w b a rs ∧ k = rs.length ∧ z = .int .i64 (m : Nat) ∧ m + (flat rs).length = N)
  case atStart => exact ⟨rfl, p, ps, t.size, rfl, HCH.out, rfl, rfl, by have := HN.out; omega⟩
  case round =>
    obtain ⟨rfl, a, rs, m, rfl, hch, rfl, rfl, hm⟩ := hrel
    cases hch with
    | node g q s rs hg hk hch =>
      have d0 := Blk.cell hk 0 _ rfl
      have d1 := Blk.cell hk 1 _ rfl
      have hsz : s.data.toList.length = s.size := Array.length_toList
      rw [flat, List.length_append, hsz] at hm
      have hle : m + s.size ≤ N := by omega
      have HM := Lib.hid hm
      have HC := Lib.hid hch
      clear hm hch hk hsz
      go_wp2
      go_roundg rs.length
      case measure => simp
      case rel => exact ⟨rfl, q, rs, m + s.size, rfl, HC.out, rfl, by go_num, by have := HM.out; omega⟩
    | nil =>
      obtain rfl : m = N := by simpa [flat] using hm
      clear hm
      go_wp2
      have HB1 : Blk (w.alloc (.cells (madeCells #[.int .u8 0] m) 5)) w.heap.size 5 (madeCells #[.int .u8 0] m).toList := by
        have := Blk.new w _ 5 (madeCells #[.int .u8 0] m).toList rfl
        rwa [Array.toArray_toList] at this
      have hln : (madeCells #[Value.int .u8 0] m).toList.length = m := by rw [Array.length_toList, size_madeCells]
      have hbel : Below w.heap.size w (w.alloc (.cells (madeCells #[.int .u8 0] m) 5)) := (Below.refl _ _).alloc (Nat.le_refl _) _
      generalize w.alloc (.cells (madeCells #[.int .u8 0] m) 5) = W1 at *
      generalize (madeCells #[Value.int .u8 0] m).toList = C0 at HB1 hln
      have c1 : W1.cell? ⟨b, 1, none⟩ = some (.pointer p) := (hbel.cell (p := ⟨b, 1, none⟩) HB.out.lt).trans hc1
      have c2 : W1.cell? ⟨b, 2, none⟩ = some (.string t) := (hbel.cell (p := ⟨b, 2, none⟩) HB.out.lt).trans hc2
      have hN3 := HN.out
      have hsl := fun W => slice_from w.heap.size m (flat ps).length ((m : Int) - t.size) (by omega) (by omega) W
      have hcp := copy_at (W := W1.drew) (o := (flat ps).length) (N := m) t HB1.drew hln (by omega)
      have hle : t.size ≤ m := by omega
      clear hN3
      have HBL := Lib.hid hbel
      have HB2 := Lib.hid HB1
      have HLN := Lib.hid hln
      clear HB1 hln hbel hc1 hc2
      go_region
      have HB3 := blk_setRow (D := List.take (flat ps).length C0 ++ (byteCells t.data.toList ++ List.drop ((flat ps).length + t.size) C0)) HB2.out.drew
      have HW3 := below_setRow (D := (List.take (flat ps).length C0 ++ (byteCells t.data.toList ++ List.drop ((flat ps).length + t.size) C0)).toArray) HBL.out.drew (Nat.le_refl _)
      have hstart : (List.take (flat ps).length C0 ++ (byteCells t.data.toList ++ List.drop ((flat ps).length + t.size) C0)).length = m ∧
          (List.take (flat ps).length C0 ++ (byteCells t.data.toList ++ List.drop ((flat ps).length + t.size) C0)).drop (flat ps).length = byteCells t.data.toList := by
        have e1 := HN.out
        have e2 := HLN.out
        have e3 : (List.take (flat ps).length C0).length = (flat ps).length := by rw [List.length_take]; omega
        have e4 : List.drop ((flat ps).length + t.size) C0 = [] := List.drop_eq_nil_iff.2 (by omega)
        have e5 : (byteCells t.data.toList).length = t.size := by rw [byteCells_length, Array.length_toList]; rfl
        rw [e4, List.append_nil, List.length_append, e3, e5, List.drop_append_of_le_length (by omega), List.drop_eq_nil_of_le (by omega)]
        exact ⟨by omega, rfl⟩
      generalize List.take (flat ps).length C0 ++ (byteCells t.data.toList ++ List.drop ((flat ps).length + t.size) C0) = D0 at *
      generalize W1.drew.setRow w.heap.size D0.toArray = W2 at *
      clear hsl hcp c1 c2 HB2 HLN HBL
      have c1 : W2.cell? ⟨b, 1, none⟩ = some (.pointer p) := (HW3.cell (p := ⟨b, 1, none⟩) HB.out.lt).trans (Blk.cell HB.out 1 _ rfl)
      have HB4 := Lib.hid HB3
      have HW4 := Lib.hid HW3
      have HS := Lib.hid hstart
      clear HB3 HW3 hstart h0
      go_wp2
      go_loopg [4, 7] ps.length (fun k z q wr => ∃ a rs o C suf, q = .pointer a ∧ Chain w b a rs ∧ k = rs.length ∧ z = .int .i64 (o : Nat) ∧ o = (flat rs).length ∧ flat rs ++ suf = flat ps ++ t.data.toList ∧ Blk wr w.heap.size 5 C ∧ C.length = m ∧ C.drop o = byteCells suf ∧ Below w.heap.size w wr)
      case atStart => exact ⟨p, ps, (flat ps).length, D0, t.data.toList, rfl, HCH.out, rfl, by have := HN.out; congr 1; omega, rfl, rfl, HB4.out, HS.out.1, HS.out.2, HW4.out⟩
      case round =>
        obtain ⟨a, rs, o, C, suf, rfl, hch, rfl, rfl, ho, hsuf, hblk, hlen, hdrop, hbel⟩ := hrel
        cases hch with
        | node g q s rs hg hk hch =>
          have d0 := (hbel.cell (p := ⟨g, 0, none⟩) hk.lt).trans (Blk.cell hk 0 _ rfl)
          have d1 := (hbel.cell (p := ⟨g, 1, none⟩) hk.lt).trans (Blk.cell hk 1 _ rfl)
          have hsz : s.data.toList.length = s.size := Array.length_toList
          have hom : o ≤ m := by
            have := congrArg List.length hsuf
            rw [List.length_append, List.length_append, ← ho] at this
            have h2 := HN.out
            have h3 : t.data.toList.length = t.size := Array.length_toList
            omega
          rw [flat, List.length_append, hsz] at ho
          have hle : s.size ≤ o := by omega
          have hsl := fun W => slice_from w.heap.size m (flat rs).length ((o : Int) - s.size) (by omega) (by omega) W
          have hcp := copy_at (W := wr.drew) (o := (flat rs).length) (N := m) s hblk.drew hlen (by omega)
          have HO := Lib.hid ho
          have HSF := Lib.hid hsuf
          have HBK := Lib.hid hblk
          have HLN := Lib.hid hlen
          have HDR := Lib.hid hdrop
          have HBL := Lib.hid hbel
          have HK := Lib.hid hk
          have HCC := Lib.hid hch
          clear ho hsuf hblk hlen hdrop hbel hk hch hsz c1
          go_wp2
          go_region
          have HB3 := blk_setRow (D := List.take (flat rs).length C ++ (byteCells s.data.toList ++ List.drop ((flat rs).length + s.size) C)) HBK.out.drew
          have HW3 := below_setRow (D := (List.take (flat rs).length C ++ (byteCells s.data.toList ++ List.drop ((flat rs).length + s.size) C)).toArray) HBL.out.drew (Nat.le_refl _)
          have hnext : (List.take (flat rs).length C ++ (byteCells s.data.toList ++ List.drop ((flat rs).length + s.size) C)).length = m ∧
              (List.take (flat rs).length C ++ (byteCells s.data.toList ++ List.drop ((flat rs).length + s.size) C)).drop (flat rs).length = byteCells (s.data.toList ++ suf) := by
            have e1 := HO.out
            have e2 := HLN.out
            have e3 : (List.take (flat rs).length C).length = (flat rs).length := by rw [List.length_take]; omega
            have e5 : (byteCells s.data.toList).length = s.size := by rw [byteCells_length, Array.length_toList]; rfl
            have e6 : byteCells (s.data.toList ++ suf) = byteCells s.data.toList ++ byteCells suf := by unfold byteCells; rw [List.map_append]
            rw [← e1, HDR.out, e6]
            have e7 : (byteCells suf).length = m - o := by rw [← HDR.out, List.length_drop, e2]
            rw [List.length_append, List.length_append, e3, e5, e7, List.drop_append_of_le_length (by omega), List.drop_eq_nil_of_le (by omega)]
            exact ⟨by omega, rfl⟩
          generalize List.take (flat rs).length C ++ (byteCells s.data.toList ++ List.drop ((flat rs).length + s.size) C) = D1 at *
          generalize wr.drew.setRow w.heap.size D1.toArray = W3 at *
          clear hsl hcp d0 d1 HBK HLN HBL HDR
          have d0 : W3.cell? ⟨g, 0, none⟩ = some (.pointer q) := (HW3.cell (p := ⟨g, 0, none⟩) HK.out.lt).trans (Blk.cell HK.out 0 _ rfl)
          have HB5 := Lib.hid HB3
          have HW5 := Lib.hid HW3
          have HX := Lib.hid hnext
          clear HB3 HW3 hnext
          go_wp2
          go_roundg rs.length
          case measure => simp
          case rel => exact ⟨q, rs, (flat rs).length, D1, s.data.toList ++ suf, rfl, HCC.out, rfl, by have := HO.out; congr 1; omega, rfl, by have := HSF.out; rw [flat, List.append_assoc] at this; exact this, HB5.out, HX.out.1, HX.out.2, HW5.out⟩
        | nil =>
          obtain rfl : o = 0 := by simpa [flat] using ho
          rw [show flat [] = [] from rfl, List.nil_append] at hsuf
          rw [List.drop_zero] at hdrop
          have hc : (convert 39 9 (.slice (some ⟨w.heap.size, 0, none⟩) m m)).run Tryd.prog wr = .ok (.string ⟨suf.toArray⟩) wr := by
            have hl : suf.length = m := by rw [hdrop, byteCells_length] at hlen; exact hlen
            have := run_convert_bytes_back (P := Tryd.prog) wr 39 9 5 ⟨w.heap.size, 0, none⟩ m suf Tryd.underlying39 Tryd.underlying5 Tryd.underlying9 (fun j hj => by
              have e : (⟨w.heap.size, 0, none⟩ : Addr).add j = ⟨w.heap.size, j, none⟩ := by unfold Addr.add; split <;> simp_all
              rw [e]
              exact Blk.cell hblk j _ (by rw [hdrop, byteCells, List.getElem?_map, List.getElem?_eq_getElem hj]; rfl))
            rwa [hl] at this
          have HSF := Lib.hid hsuf
          have HBL := Lib.hid hbel
          clear hsuf hblk hlen hdrop hbel ho c1
          go_wp2
          go_returns
          exact ⟨congrArg (fun x : List UInt8 => Ending.returned (.tuple #[.string ⟨x.toArray⟩, .int .i64 0])) HSF.out, HBL.out⟩
end Go.Proofs.YtacbhbejchjbiaaDoor
