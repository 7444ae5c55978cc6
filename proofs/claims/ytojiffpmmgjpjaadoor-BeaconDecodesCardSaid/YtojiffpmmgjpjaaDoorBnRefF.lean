/-
  WALKS of the reference of layer 14: number, size; of fields the math and the state.
-/
import Derived.Test.YtojiffpmmgjpjaaDoorBnDec
import Derived.Test.YtojiffpmmgjpjaaDoorBnRefC
import Derived.Test.YtojiffpmmgjpjaaDoorTmRefD
import Derived.Test.YtojiffpmmgjpjaaDoorWrRefR
namespace Go.Bn
open Go.Wr
theorem num_sub {s : ByteArray} {a j k : Nat} (hj : j + k ≤ 5) : num (s.extract a (a + 5)) j k = num s (a + j) k := by
  unfold num
  rw [Go.Em.ex_list, List.drop_take, List.take_take, Nat.min_eq_left (by omega), List.drop_drop]
theorem size_sub {s : ByteArray} {a : Nat} (h : a + 5 ≤ s.size) : (s.extract a (a + 5)).size = 5 := Go.Em.size_ex s a 5 h
/-- The parameters of the first k categories, set. -/
def sps (b : Bn) (s : ByteArray) : Nat → Bn
  | 0 => b
  | k + 1 => (sps b s k).setPr k (prAt s (5 * k))
theorem sps_four (b : Bn) (s : ByteArray) : sps b s 4 = { b with p0 := prAt s 0, p1 := prAt s 5, p2 := prAt s 10, p3 := prAt s 15 } := rfl
/-- What fields says is wrong. -/
def fdE (s1 s2 s3 s4 : ByteArray) (r : Int) : Int :=
  if Go.Bn.sz1 s1 1 = 0 then (if (Go.Tm.dec s2).2 = 0 then (if Go.Bn.sz1 s3 2 = 0 then (if Go.Bn.sz1 s4 20 = 0 then r else Go.Bn.sz1 s4 20) else Go.Bn.sz1 s3 2) else (Go.Tm.dec s2).2) else Go.Bn.sz1 s1 1
/-- The beacon behind the first five elements. -/
def fdB (b : Bn) (s0 s1 s2 s3 s4 : ByteArray) : Bn :=
  { b with nm := s0, ch := num s1 0 1, tm := (Go.Tm.dec s2).1, ld := num s3 0 2, p0 := prAt s4 0, p1 := prAt s4 5, p2 := prAt s4 10, p3 := prAt s4 15 }
theorem fd_five {b : Bn} {x0 x1 x2 x3 x4 : Go.Em.El} (h0 : x0.id = 0) (h1 : x1.id = 3) (h2 : x2.id = 5) (h3 : x3.id = 11) (h4 : x4.id = 12) :
    swE b [x0, x1, x2, x3, x4] = fdE x1.s x2.s x3.s x4.s 0 ∧ lsB b [x0, x1, x2, x3, x4] = fdB b x0.s x1.s x2.s x3.s x4.s := by
  constructor
  · have e : lsE [x0, x1, x2, x3, x4] = fdE x1.s x2.s x3.s x4.s 0 := by
      simp only [lsE, elE, h0, h1, h2, h3, h4, fdE]
      simp
    unfold swE
    rw [e]
    split
    · rename_i hz
      rw [if_neg (by simp), hz]
    · rfl
  · simp [lsB, elB, h0, h1, h2, h3, h4, fdB]
theorem fd_six {b : Bn} {x0 x1 x2 x3 x4 x5 : Go.Em.El} (h0 : x0.id = 0) (h1 : x1.id = 3) (h2 : x2.id = 5) (h3 : x3.id = 11) (h4 : x4.id = 12) (h5 : x5.id = 37) :
    swE b [x0, x1, x2, x3, x4, x5] = fdE x1.s x2.s x3.s x4.s (if Go.Bn.sz1 x5.s 2 = 0 then (if num x5.s 0 1 = 0 then 3 else 0) else Go.Bn.sz1 x5.s 2) ∧
    lsB b [x0, x1, x2, x3, x4, x5] = { fdB b x0.s x1.s x2.s x3.s x4.s with sc := num x5.s 0 1, sn := num x5.s 1 1 } := by
  have eB : lsB b [x0, x1, x2, x3, x4, x5] = { fdB b x0.s x1.s x2.s x3.s x4.s with sc := num x5.s 0 1, sn := num x5.s 1 1 } := by
    simp [lsB, elB, h0, h1, h2, h3, h4, h5, fdB]
  refine ⟨?_, eB⟩
  have e : lsE [x0, x1, x2, x3, x4, x5] = fdE x1.s x2.s x3.s x4.s (Go.Bn.sz1 x5.s 2) := by
    have key : ∀ z : Int, (if z = 0 then 0 else z) = z := fun z => by split <;> simp_all
    simp only [lsE, elE, h0, h1, h2, h3, h4, h5, fdE]
    simp [key]
  unfold swE
  rw [e, eB]
  unfold fdE
  by_cases z1 : Go.Bn.sz1 x1.s 1 = 0 <;> by_cases z2 : (Go.Tm.dec x2.s).2 = 0 <;> by_cases z3 : Go.Bn.sz1 x3.s 2 = 0 <;> by_cases z4 : Go.Bn.sz1 x4.s 20 = 0 <;> by_cases z5 : Go.Bn.sz1 x5.s 2 = 0 <;> simp [z1, z2, z3, z4, z5]
end Go.Bn

namespace Go.Proofs.YtojiffpmmgjpjaaDoor
open Go.RowKit Go.Bn Go.Wr

theorem refSize14_any (s : ByteArray) (n : Nat) (w : World) :
    Calls Tryd.prog 57 #[.string s, .int .i64 (n : Int)] w fun e w' => e = .returned (.int .i64 (Go.Bn.sz1 s n)) ∧ w = w' := by
  by_cases h1 : s.size < n
  · have HR : Hid (Go.Bn.sz1 s n = 1) := if_pos h1
    have h1' : (s.size : Int) < (n : Int) := by omega
    go_enter Tryd.func57, Tryd.ntmps57
    go_wp2
    go_ret
    exact ⟨by rw [HR.out]; rfl, rfl⟩
  · have h1' : ¬ (s.size : Int) < (n : Int) := by omega
    by_cases h2 : n < s.size
    · have HR : Hid (Go.Bn.sz1 s n = 2) := (if_neg h1).trans (if_pos h2)
      have h2' : (n : Int) < (s.size : Int) := by omega
      go_enter Tryd.func57, Tryd.ntmps57
      go_wp2
      go_ret
      exact ⟨by rw [HR.out]; rfl, rfl⟩
    · have HR : Hid (Go.Bn.sz1 s n = 0) := (if_neg h1).trans (if_neg h2)
      have h2' : ¬ (n : Int) < (s.size : Int) := by omega
      go_enter Tryd.func57, Tryd.ntmps57
      go_wp2
      go_ret
      exact ⟨by rw [HR.out]; rfl, rfl⟩

theorem get14_any (s : ByteArray) (k : Nat) (w : World) (hk : 1 ≤ k ∧ k ≤ 6) (hs : k ≤ s.size) :
    Calls Tryd.prog 59 #[.agg #[.string s, .int .i64 0], .int .i64 (k : Int)] w fun e w' => e = .returned (.tuple #[.agg #[.string (s.extract k s.size), .int .i64 0], .int .i64 (val (s.data.toList.take k) : Int)]) ∧ Below w.heap.size w w' := by
  have hz : (s.extract 0 k).size ≤ 6 := by simp; omega
  have h := refGet_via s (s.extract k s.size) (s.extract 0 k) 0 0 (k : Int) w hz (.inr ⟨rfl, by omega, by omega⟩) (fun W => refTake_ok s k W hs)
  have e : (s.extract 0 k).data.toList = s.data.toList.take k := by simp
  rw [e] at h
  exact h

set_option maxRecDepth 100000 in
set_option maxHeartbeats 2000000 in
theorem refNumber14_any (s : ByteArray) (i k : Nat) (w : World) (hk : 1 ≤ k ∧ k ≤ 6) (hs : i + k ≤ s.size) :
    Calls Tryd.prog 34 #[.string s, .int .i64 (i : Int), .int .i64 (k : Int)] w fun e w' => e = .returned (.int .i64 (num s i k)) ∧ Below w.heap.size w w' := by
  have hsl := fun W => slice_tail s (i : Int) (by omega) (by omega) W
  rw [Int.toNat_natCast] at hsl
  have hv : num s i k = (val ((s.extract i s.size).data.toList.take k) : Int) := by unfold num; rw [ex_list]
  have CG := Lib.hid fun w => get14_any (s.extract i s.size) k w hk (by rw [tail_size]; omega)
  rw [← hv] at CG
  generalize s.extract i s.size = t at *
  generalize t.extract k t.size = u at *
  generalize num s i k = z at *
  clear hv hk hs
  go_enter Tryd.func34, Tryd.ntmps34
  go_wp2_with (go_at_call 59; refine (CG.out _).mono ?_; rintro e w' ⟨rfl, hb⟩; have HB := Lib.hid hb; clear hb)
  go_ret
  exact ⟨rfl, HB.out.alloc HB.out.size _⟩

/-- The beacon that is filled, in its block; the result's cell behind it; the elements lie. -/
structure Fst14 (w : World) (y : Bn) (wi : World) : Prop where
  box : Bn_.Box wi w.heap.size y
  res : Bn_.Box wi (w.heap.size + 1) zb
  bel : Below w.heap.size w wi
theorem Fst14.keep {w wi w' : World} {y : Bn} (h : Fst14 w y wi) (hb : Below wi.heap.size wi w') : Fst14 w y w' := ⟨h.box.below hb h.box.lt, h.res.below hb h.res.lt, h.bel.trans (hb.mono h.bel.size)⟩
theorem Fst14.put {w wi w' : World} {y y' : Bn} (h : Fst14 w y wi) (h1 : Bn_.Box w' w.heap.size y') (h2 : But w.heap.size wi w') : Fst14 w y' w' :=
  ⟨h1, (h2.block _ h.res.lt (by omega)).trans h.res, h.bel.trans (h2.below h.bel.size (Nat.le_refl _))⟩
theorem Fst14.drew {w wi : World} {y : Bn} (h : Fst14 w y wi) : Fst14 w y wi.drew := h.keep (Below.refl _ _).drew
theorem Fst14.new (w : World) (b : Bn) : Fst14 w b ((w.alloc (.cells (Bn_.C b) 31)).alloc (.cells (Bn_.C zb) 31)) := by
  have e : (w.alloc (.cells (Bn_.C b) 31)).heap.size = w.heap.size + 1 := by simp
  refine ⟨(Bn_.Box.new w b).allocC _, ?_, ((Below.refl _ _).alloc (Nat.le_refl _) _).alloc (by simp) _⟩
  have := Bn_.Box.new (w.alloc (.cells (Bn_.C b) 31)) zb
  rw [e] at this
  exact this
theorem Fst14.fin {w wi : World} {y : Bn} (h : Fst14 w y wi) (z : Bn) : Bn_.Box (wi.setRow (w.heap.size + 1) (Bn_.C z)) (w.heap.size + 1) z ∧ Below w.heap.size w (wi.setRow (w.heap.size + 1) (Bn_.C z)) :=
  ⟨h.res.setRow z, below_setRow h.bel (Nat.le_succ _)⟩
/-- What fields hands back. -/
def FdPost (b : Bn) (K : List Go.Em.El) (w : World) (e : Ending) (w' : World) : Prop :=
  ∃ y, e = .returned (.tuple #[Bn_.v y, .int .i64 (swE b K)]) ∧ (swE b K = 0 → y = lsB b K) ∧ Below w.heap.size w w'
end Go.Proofs.YtojiffpmmgjpjaaDoor
