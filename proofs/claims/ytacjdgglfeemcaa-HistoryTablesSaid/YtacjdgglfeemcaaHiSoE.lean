/-
  slices.Sort's callees at addresses: order2Ordered, medianOrdered, choosePivotOrdered (rows shorter than 50).
-/
import Derived.Test.YtacjdgglfeemcaaHiSoD
import Derived.Sort.Walk11
namespace Go.Proofs.Ytacjdgglfeemcaa
open Go.RowKit Go.Sort

/-- A number in a block of its own. -/
def Ct (w : World) (sb s : Nat) : Prop := w.heap[sb]? = some (.cells #[.int .i64 s] 3 (0, 0))
theorem Ct.cell {w : World} {sb s : Nat} (h : Ct w sb s) : w.cell? ⟨sb, 0, none⟩ = some (.int .i64 s) := by
  unfold Ct at h
  simp [World.cell?, h]
theorem Ct.froz {w : World} {sb s : Nat} (h : Ct w sb s) : w.frozen? ⟨sb, 0, none⟩ = false := by
  unfold Ct at h
  simp [World.frozen?, h]
theorem Ct.set {w : World} {sb s : Nat} (h : Ct w sb s) (t : Nat) : Ct (w.setCell ⟨sb, 0, none⟩ (.int .i64 t)) sb t := by
  unfold Ct at h ⊢
  simp [World.setCell, Array.getElem?_modify, h]
theorem Rw.setOther {W : World} {g o c : Nat} {d : Array Int} (h : Rw W g o d c) {sb : Nat} (hne : sb ≠ g) (i : Nat) (x : Value) : Rw (W.setCell ⟨sb, i, none⟩ x) g o d c :=
  h.kept (Below.heap_setCell W _ _ g (fun e => hne e.symm))

/-- What stands after a look at the row with a counter aside. -/
def Cw (w : World) (g o c : Nat) (d : Array Int) (sb s : Nat) (w' : World) : Prop := Rw w' g o d c ∧ Ct w' sb s ∧ w.grownBy w' (some sb)
theorem Cw.then {w w1 w2 : World} {g o c : Nat} {d : Array Int} {sb s t : Nat} (h1 : Cw w g o c d sb s w1) (h2 : Cw w1 g o c d sb t w2) : Cw w g o c d sb t w2 := ⟨h2.1, h2.2.1, grownBy_trans h1.2.2 h2.2.2⟩

set_option maxRecDepth 1000000 in
set_option maxHeartbeats 4000000 in
theorem order2_any (g o c lo hi a b sb s : Nat) (d : Array Int) (w : World) (hH : Rw w g o d c) (hC : Ct w sb s) (hne : sb ≠ g) (h1 : lo ≤ a ∧ a < hi) (h2 : lo ≤ b ∧ b < hi) (hh : hi ≤ d.size) (hs : s < 100) :
    Calls Try.prog 45 #[.slice (some ⟨g, o, none⟩) d.size c, .int .i64 a, .int .i64 b, .pointer (some ⟨sb, 0, none⟩)] w fun e w' =>
      ∃ x y t : Nat, e = .returned (.tuple #[.int .i64 x, .int .i64 y]) ∧ (lo ≤ x ∧ x < hi) ∧ (lo ≤ y ∧ y < hi) ∧ t ≤ s + 1 ∧ Cw w g o c d sb t w' := by
  have CL := Lib.hid less_any
  have HS := Lib.hid hH
  have HC := Lib.hid hC
  have ca := hH.cell (i := a) (by omega)
  have cb := hH.cell (i := b) (by omega)
  have cs := hC.cell
  have fs := hC.froz
  have la : a < d.size := by omega
  have lb : b < d.size := by omega
  clear hH hC
  go_enter Try.func45, Try.ntmps45
  go_wp2
  go_region_with (go_at_call 34; refine (CL.out _ _ _).mono ?_; rintro e w' ⟨rfl, rfl⟩)
  all_goals (try go_wp2)
  all_goals go_ret2
  all_goals first
    | exact ⟨b, a, s + 1, by go_num, h2, h1, by omega, (HS.out.kept rfl).setOther hne _ _, Ct.set (w := w.drew) (s := s) HC.out (s + 1), grownBy_set (grownBy_drew _ _) _ _⟩
    | exact ⟨a, b, s, rfl, h1, h2, by omega, HS.out.kept rfl, HC.out, grownBy_drew _ _⟩

set_option maxRecDepth 1000000 in
set_option maxHeartbeats 4000000 in
theorem median_any (g o c lo hi a b k sb s : Nat) (d : Array Int) (w : World) (hH : Rw w g o d c) (hC : Ct w sb s) (hne : sb ≠ g) (h1 : lo ≤ a ∧ a < hi) (h2 : lo ≤ b ∧ b < hi) (h3 : lo ≤ k ∧ k < hi) (hh : hi ≤ d.size) (hs : s < 90) :
    Calls Try.prog 43 #[.slice (some ⟨g, o, none⟩) d.size c, .int .i64 a, .int .i64 b, .int .i64 k, .pointer (some ⟨sb, 0, none⟩)] w fun e w' =>
      ∃ x t : Nat, e = .returned (.int .i64 x) ∧ (lo ≤ x ∧ x < hi) ∧ t ≤ s + 3 ∧ Cw w g o c d sb t w' := by
  have HS := Lib.hid hH
  have HC := Lib.hid hC
  have H1 := Lib.hid h1
  have H2 := Lib.hid h2
  have H3 := Lib.hid h3
  clear hH hC h1 h2 h3
  go_enter Try.func43, Try.ntmps43
  go_wp2_with (go_at_call_of 45 (Value.int .i64 (b : Int)); refine (order2_any g o c lo hi a b sb s d w HS.out HC.out hne H1.out H2.out hh (by omega)).mono ?_; rintro e w1 ⟨x1, y1, s1, rfl, i1, j1, l1, hw1⟩)
  have HW1 := Lib.hid hw1
  have I1 := Lib.hid i1
  have J1 := Lib.hid j1
  clear hw1 i1 j1
  go_wp2_with (go_at_call_of 45 (Value.int .i64 (k : Int)); refine (order2_any g o c lo hi y1 k sb s1 d w1 HW1.out.1 HW1.out.2.1 hne J1.out H3.out hh (by omega)).mono ?_; rintro e w2 ⟨x2, y2, s2, rfl, i2, j2, l2, hw2⟩)
  have HW2 := Lib.hid (HW1.out.then hw2)
  have I2 := Lib.hid i2
  clear hw2 i2 j2
  go_wp2_with (go_at_call_of 45 (Value.int .i64 (x1 : Int)); refine (order2_any g o c lo hi x1 x2 sb s2 d w2 HW2.out.1 HW2.out.2.1 hne I1.out I2.out hh (by omega)).mono ?_; rintro e w3 ⟨x3, y3, s3, rfl, i3, j3, l3, hw3⟩)
  go_ret
  exact ⟨y3, s3, rfl, j3, by omega, HW2.out.then hw3⟩

theorem push_old (a : Array Obj) (o : Obj) {k : Nat} (h : k < a.size) : (a.push o)[k]? = a[k]? := by
  rw [Array.getElem?_push, if_neg (Nat.ne_of_lt h)]
theorem ct_alloc (w : World) : Ct (w.alloc (.cells #[.int .i64 0] 3)) w.heap.size 0 := by
  show (w.heap.push (.cells #[.int .i64 0] 3))[w.heap.size]? = _
  rw [Array.getElem?_push, if_pos rfl]
  rfl
theorem grown_alloc (w : World) (o : Obj) (r : Option Nat) : w.grownBy (w.alloc o) r :=
  ⟨rfl, rfl, rfl, by show w.heap.size ≤ (w.heap.push o).size; rw [Array.size_push]; omega, fun k hk _ => push_old _ _ hk⟩
theorem grownBy_fresh {w w' : World} {r : Option Nat} (h : w.grownBy w' (some w.heap.size)) : w.grownBy w' r :=
  ⟨h.os, h.tape, h.output, h.size, fun k hk _ => h.block k hk (fun e => by cases e; omega)⟩

set_option maxRecDepth 1000000 in
set_option maxHeartbeats 4000000 in
theorem choose_any (g o c a b : Nat) (d : Array Int) (w : World) (hH : Rw w g o d c) (h8 : a + 8 ≤ b) (h50 : b < a + 50) (hb : b ≤ d.size) (hsz : d.size < 1000) :
    Calls Try.prog 31 #[.slice (some ⟨g, o, none⟩) d.size c, .int .i64 a, .int .i64 b] w fun e w' =>
      ∃ m h : Nat, e = .returned (.tuple #[.int .i64 m, .int .i64 h]) ∧ (a ≤ m ∧ m < b) ∧ h ≤ 2 ∧ Rw w' g o d c ∧ w.grownBy w' none := by
  obtain ⟨I, hI⟩ : ∃ I : Nat, I = a + (b - a) / 4 * 1 := ⟨_, rfl⟩
  obtain ⟨J, hJ⟩ : ∃ J : Nat, J = a + (b - a) / 4 * 2 := ⟨_, rfl⟩
  obtain ⟨K, hK⟩ : ∃ K : Nat, K = a + (b - a) / 4 * 3 := ⟨_, rfl⟩
  have eI : ((a : Int) + ((b : Int) - (a : Int)) / 4) = (I : Int) := by omega
  have eJ : ((a : Int) + ((b : Int) - (a : Int)) / 4 * 2) = (J : Int) := by omega
  have eK : ((a : Int) + ((b : Int) - (a : Int)) / 4 * 3) = (K : Int) := by omega
  have z8 : (b : Int) - (a : Int) ≥ 8 := by omega
  have z50 : ¬ (b : Int) - (a : Int) ≥ 50 := by omega
  have hI' : a ≤ I ∧ I < b := by omega
  have hJ' : a ≤ J ∧ J < b := by omega
  have hK' : a ≤ K ∧ K < b := by omega
  have hne : w.heap.size ≠ g := by have := hH.lt; omega
  have hH1 : Rw (w.alloc (.cells #[.int .i64 0] 3)) g o d c := hH.kept (push_old _ _ hH.lt)
  have CM := Lib.hid (median_any g o c a b I J K w.heap.size 0 d _ hH1 (ct_alloc w) hne hI' hJ' hK' hb (by omega))
  clear hI hJ hK hI' hJ' hK' hH hH1
  go_enter Try.func31, Try.ntmps31
  go_wp2_with (go_at_call 43; refine CM.out.mono ?_; rintro e w1 ⟨x, t, rfl, hx, ht, hw1⟩; have hc1 := hw1.2.1.cell)
  all_goals go_ret2
  all_goals first
    | exact ⟨x, 1, rfl, hx, by omega, hw1.1, grownBy_fresh (grownBy_trans (grown_alloc _ _ _) hw1.2.2)⟩
    | exact ⟨x, 2, rfl, hx, by omega, hw1.1, grownBy_fresh (grownBy_trans (grown_alloc _ _ _) hw1.2.2)⟩
    | exact ⟨x, 0, rfl, hx, by omega, hw1.1, grownBy_fresh (grownBy_trans (grown_alloc _ _ _) hw1.2.2)⟩
end Go.Proofs.Ytacjdgglfeemcaa
