/-
  A Writer in memory: a tail, and a chain of pieces in front of it. WALKS of add, Num, Text.
-/
import Derived.Test.YthpilpcjnpnodaaDoorWrFault
import Derived.Laws.Concat
import Derived.Laws.IdiomStrings
namespace Go.Proofs.YthpilpcjnpnodaaDoor
open Go.RowKit Go.Wr

/-- The pieces before the tail, the last one first. -/
inductive Chain (w : World) (b : Nat) : Option Addr → List ByteArray → Prop
  | nil : Chain w b none []
  | node (g : Nat) (q : Option Addr) (s : ByteArray) (ps : List ByteArray) : g ≠ b → Blk w g 72 [.pointer q, .string s] → Chain w b q ps → Chain w b (some ⟨g, 0, none⟩) (s :: ps)

/-- Their octets, in order. -/
def flat : List ByteArray → List UInt8
  | [] => []
  | s :: ps => flat ps ++ s.data.toList

theorem Chain.but {w w' : World} {b : Nat} {p : Option Addr} {ps : List ByteArray} (h : Chain w b p ps) (hb : But b w w') : Chain w' b p ps := by
  induction h with
  | nil => exact .nil
  | node g q s ps hg hk _ ih => exact .node g q s ps hg (hb.blk hk hg) ih

/-- The Writer at block b is sound and has these octets. -/
def Wr (w : World) (b : Nat) (L : List UInt8) : Prop :=
  ∃ p t ps, Blk w b 39 [.int .i64 0, .pointer p, .string t] ∧ Chain w b p ps ∧ L = flat ps ++ t.data.toList

theorem Wr.c0 {w : World} {b : Nat} {L : List UInt8} (h : Wr w b L) : w.cell? ⟨b, 0, none⟩ = some (.int .i64 0) := by
  obtain ⟨p, t, ps, h, _⟩ := h; exact Blk.cell h 0 _ rfl
theorem Wr.f {w : World} {b : Nat} {L : List UInt8} (h : Wr w b L) (i : Nat) : w.frozen? ⟨b, i, none⟩ = false := by
  obtain ⟨p, t, ps, h, _⟩ := h; exact Blk.frozen h i
theorem Wr.lt {w : World} {b : Nat} {L : List UInt8} (h : Wr w b L) : b < w.heap.size := by
  obtain ⟨p, t, ps, h, _⟩ := h; exact Blk.lt h

set_option maxHeartbeats 1000000 in
theorem add_any (b : Nat) (L : List UInt8) (s : ByteArray) (w : World) (h : Wr w b L) (hs : L.length + s.size ≤ 140737488351232) :
    Calls Tryd.prog 51 #[.pointer (some ⟨b, 0, none⟩), .string s] w fun e w' => e = .returned (.tuple #[]) ∧ Wr w' b (L ++ s.data.toList) ∧ But b w w' := by
  obtain ⟨p, t, ps, hb, hch, rfl⟩ := h
  have hsum : t.size + s.size ≤ 9223372036854775807 := by
    have h1 : t.data.toList.length = t.size := Array.length_toList
    rw [List.length_append] at hs
    omega
  have hadd : ∀ W, (Op.stringOp .add t s).run Tryd.prog W = .ok (.string (t ++ s)) W := fun W => run_string_add_sum (P := Tryd.prog) W t s hsum
  obtain ⟨u, hu⟩ : ∃ u, u = t ++ s := ⟨_, rfl⟩
  have hd : u.data.toList = t.data.toList ++ s.data.toList := by rw [hu]; simp
  rw [← hu] at hadd
  have Hd := Lib.hid hd
  have hc1 : w.cell? ⟨b, 1, none⟩ = some (.pointer p) := Blk.cell hb 1 _ rfl
  have hc2 : w.cell? ⟨b, 2, none⟩ = some (.string t) := Blk.cell hb 2 _ rfl
  have hf1 : w.frozen? ⟨b, 1, none⟩ = false := Blk.frozen hb 1
  have hf2 : w.frozen? ⟨b, 2, none⟩ = false := Blk.frozen hb 2
  have hb1 := hb.set 2 (.string u)
  have hbz : But b w (w.setCell ⟨b, 2, none⟩ (.string u)) := (But.refl b w).setCell (.inl rfl) _
  have HB := Lib.hid hb1
  have HZ := Lib.hid hbz
  have HC := Lib.hid hch
  have HL := Lib.hid hb.lt
  clear hb hu hd hs hsum hch hb1 hbz
  go_enter Tryd.func51, Tryd.ntmps51
  go_wp2
  · have HB1 := HB.out
    have HZ1 := HZ.out
    generalize w.setCell ⟨b, 2, none⟩ (.string u) = W1 at HB1 HZ1 ⊢
    clear HB HZ hadd hc1 hc2 hf1 hf2
    have c1 : W1.cell? ⟨b, 1, none⟩ = some (.pointer p) := Blk.cell HB1 1 _ rfl
    have c2 : W1.cell? ⟨b, 2, none⟩ = some (.string u) := Blk.cell HB1 2 _ rfl
    have c3 : ∀ o, (W1.alloc o).cell? ⟨b, 1, none⟩ = some (.pointer p) := fun o => Blk.cell (HB1.alloc o) 1 _ rfl
    have c4 : ∀ o, (W1.alloc o).frozen? ⟨b, 1, none⟩ = false := fun o => Blk.frozen (HB1.alloc o) 1
    have HB2 := Lib.hid HB1
    have HZ2 := Lib.hid HZ1
    clear HB1 HZ1
    go_region
    have HB3 := ((HB2.out.alloc (.cells #[.pointer p, .string u] 72)).set 1 (.pointer (some ⟨W1.heap.size, 0, none⟩))).drew
    have HP3 := ((Blk.new W1 _ 72 [.pointer p, .string u] rfl).setOther (a := ⟨b, 1, none⟩) (by have := HB2.out.lt; simp; omega) (.pointer (some ⟨W1.heap.size, 0, none⟩))).drew
    have HZ3 := (((HZ2.out.alloc (.cells #[.pointer p, .string u] 72)).setCell (p := ⟨b, 1, none⟩) (.inl rfl) (.pointer (some ⟨W1.heap.size, 0, none⟩)))).drew
    have HG3 : W1.heap.size ≠ b := by have := HB2.out.lt; omega
    generalize W1.heap.size = g at *
    generalize ((W1.alloc (Obj.cells #[Value.pointer p, Value.string u] 72)).setCell ⟨b, 1, none⟩ (.pointer (some ⟨g, 0, none⟩))).drew = W2 at *
    clear c1 c2 c3 c4 HB2 HZ2
    have c2 : W2.cell? ⟨b, 2, none⟩ = some (.string u) := Blk.cell HB3 2 _ rfl
    have f2 : W2.frozen? ⟨b, 2, none⟩ = false := Blk.frozen HB3 2
    have HR : Hid (Wr (W2.setCell ⟨b, 2, none⟩ (.string ⟨#[]⟩)) b (flat ps ++ t.data.toList ++ s.data.toList) ∧ But b w (W2.setCell ⟨b, 2, none⟩ (.string ⟨#[]⟩))) :=
      ⟨⟨_, _, _, HB3.set 2 _, .node g p u ps HG3 (HP3.setOther (by simpa using HG3) _) (HC.out.but (HZ3.setCell (.inl rfl) _)), by rw [flat, Hd.out]; simp⟩, HZ3.setCell (.inl rfl) _⟩
    clear HB3 HP3 HZ3
    go_wp2
    go_returns
    exact ⟨rfl, HR.out⟩
  · go_returns
    refine ⟨rfl, ⟨p, u, ps, HB.out, HC.out.but HZ.out, by rw [Hd.out, List.append_assoc]⟩, HZ.out⟩
end Go.Proofs.YthpilpcjnpnodaaDoor
