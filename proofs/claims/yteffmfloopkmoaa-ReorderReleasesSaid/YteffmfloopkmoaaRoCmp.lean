/-
  WALKS: the reference's Same, SameData (of equal ones), Small; the law's few.
-/
import Derived.Test.YteffmfloopkmoaaRoChk2
import Derived.Test.YteffmfloopkmoaaRoOp
import Derived.Laws.IdiomStrings
namespace Go.Proofs.Yteffmfloopkmoaa
open Go.RowKit Go.Ro Go.Sq Go.Wr
attribute [local go_sem ↓ high] Rw_.loadF Rw_.storeF Rw_.v_cells Rw_.v_match
attribute [local go_sem] Rw_.C0 Rw_.C1 Rw_.C2 Rw_.loadF_new Rw_.storeF_zero Oper.semAt_some

set_option maxRecDepth 100000 in
set_option maxHeartbeats 2000000 in
theorem r_sameData_any (L : List ByteArray) (sa sb : Option Addr) (c c' : Nat) (w : World) (h : Ss_.Sl w sa L c) (h' : Ss_.Sl w sb L c') (hl : L.length ≤ 1000) :
    Calls Try.prog 23 #[.slice sa L.length c, .slice sb L.length c'] w fun e w' => e = .returned (.bool true) ∧ Below w.heap.size w w' := by
  have HA := Lib.hid h.lies
  have HB' := Lib.hid h'.lies
  clear h h'
  go_enter Try.func23, Try.ntmps23
  go_wp2
  go_loopw [5] (fun i wr => ∃ k : Nat, k ≤ L.length ∧ i = .int .i64 k ∧ Below w.heap.size w wr) (fun i _ => L.length - (intOf i).toNat)
  case atStart => exact ⟨0, Nat.zero_le _, rfl, Below.refl _ _⟩
  case round =>
    rename World => wr
    obtain ⟨k, hk, rfl, hb⟩ := hrel
    have HB := Lib.hid hb
    by_cases hlt : k < L.length
    · obtain ⟨b, off, rfl, -, c0⟩ := HA.out.below hb k hlt
      obtain ⟨b2, off2, rfl, -, d0⟩ := HB'.out.below hb k hlt
      have HLT := Lib.hid hlt
      generalize L[k] = x at *
      have e2 : (x.toList == x.toList) = true := by simp
      have i0 : (0 : Int) ≤ (k : Int) := by omega
      have i1 : (k : Int) < (L.length : Int) := by omega
      clear hb
      go_wp2
      go_quiet (fail)
      go_wp2
      go_roundw
      case rel => exact ⟨k + 1, HLT.out, by go_num, below_drewN20 HB.out _⟩
      case measure => have := HLT.out; simp [intOf]; omega
    · obtain rfl : k = L.length := by omega
      clear hb
      go_wp2
      go_returns
      exact ⟨rfl, HB.out⟩

set_option maxRecDepth 100000 in
set_option maxHeartbeats 4000000 in
theorem r_same_any (x y : Rw) (b : Bf) (w : World) (h : Lies w x b) (h' : Lies w y b) (hl : b.hs.length ≤ 1000) :
    Calls Try.prog 14 #[Rw_.v x, Rw_.v y] w fun e w' => e = .returned (.bool true) ∧ Below w.heap.size w w' := by
  obtain ⟨w1, hw1⟩ : ∃ w1, w.alloc (.cells (Rw_.C x) 25) = w1 := ⟨_, rfl⟩
  obtain ⟨w2, hw2⟩ : ∃ w2, w1.alloc (.cells (Rw_.C y) 25) = w2 := ⟨_, rfl⟩
  have z1 : w1.heap.size = w.heap.size + 1 := by rw [← hw1]; simp
  have b1 : Below w.heap.size w w1 := hw1 ▸ (Below.refl _ _).alloc (Nat.le_refl _) _
  have b2 : Below w1.heap.size w1 w2 := hw2 ▸ (Below.refl _ _).alloc (Nat.le_refl _) _
  have X1 : Rw_.Box w1 w.heap.size x := hw1 ▸ Rw_.Box.new w x
  have T2 : Hid (Two w x y w2) := ⟨X1.below b2 X1.lt, by rw [← hw2, ← z1]; exact Rw_.Box.new w1 y, b1.trans (b2.mono (by omega))⟩
  have e1 := T2.out.bx.all
  have e2 := T2.out.rs.all
  have q1 := h.st
  have q2 := h.sz
  have q3 := h'.st
  have q4 := h'.sz
  obtain ⟨n, hn⟩ : ∃ n, b.hs.length = n := ⟨_, rfl⟩
  have hxn : x.n = n := h.n.trans hn
  have hyn : y.n = n := h'.n.trans hn
  have hn1 : n ≤ 1000 := by omega
  have HN := Lib.hid hn
  have HA := Lib.hid h.sl
  have HB' := Lib.hid h'.sl
  clear h h' hl hn X1 b1 b2
  go_enter Try.func14, Try.ntmps14
  go_wp2
  clear e1 e2
  go_loopw [5] (fun i wr => ∃ k : Nat, k ≤ n ∧ i = .int .i64 k ∧ Hid (Two w x y wr)) (fun i _ => n - (intOf i).toNat)
  case atStart => exact ⟨0, Nat.zero_le _, rfl, T2⟩
  case round =>
    rename World => wr
    obtain ⟨k, hk, rfl, TW⟩ := hrel
    have e1 := TW.out.bx.all
    have e2 := TW.out.rs.all
    by_cases hlt : k < n
    · have hkl : k < b.hs.length := by have := HN.out; omega
      obtain ⟨b1, off, hsa, -, c0, c1⟩ := (HA.out.below TW.out.bel).lies k hkl
      obtain ⟨b2, off2, hsb, -, d0, d1⟩ := (HB'.out.below TW.out.bel).lies k hkl
      have HLT := Lib.hid hlt
      generalize b.hs[k] = z at *
      have e3 : (z.d.toList == z.d.toList) = true := by simp
      have i0 : (0 : Int) ≤ (k : Int) := by omega
      have i1 : (k : Int) < (n : Int) := by omega
      clear hkl
      go_wp2
      go_quiet (fail)
      go_wp2
      go_roundw
      case rel => exact ⟨k + 1, HLT.out, by go_num, ⟨TW.out.bx, TW.out.rs, below_drewN20 TW.out.bel _⟩⟩
      case measure => have := HLT.out; simp [intOf]; omega
    · obtain rfl : k = n := by omega
      go_wp2
      go_returns
      exact ⟨rfl, TW.out.bel⟩

def small (b : Bf) : Bool := decide (b.hs.length ≤ 70) && b.hs.all (fun h => decide (h.d.size ≤ 3000))
theorem small_iff {b : Bf} : small b = true ↔ b.hs.length ≤ 70 ∧ ∀ h ∈ b.hs, h.d.size ≤ 3000 := by unfold small; simp
theorem all_take20 {l : List Hd} {i : Nat} (h : i < l.length) (p : Hd → Bool) : (l.take (i + 1)).all p = ((l.take i).all p && p l[i]) := by
  rw [List.take_succ_eq_append_getElem h, List.all_append, List.all_cons, List.all_nil, Bool.and_true]
theorem all_no20 {l : List Hd} {i : Nat} (h : i < l.length) {p : Hd → Bool} (hp : p l[i] = false) : l.all p = false := by
  rw [List.all_eq_false]; exact ⟨_, List.getElem_mem h, by rw [hp]; decide⟩

set_option maxRecDepth 100000 in
set_option maxHeartbeats 4000000 in
theorem r_small_any (x : Rw) (b : Bf) (w : World) (hL : Lies w x b) :
    Calls Try.prog 12 #[Rw_.v x] w fun e w' => e = .returned (.bool (small b)) ∧ Below w.heap.size w w' := by
  obtain ⟨w1, hw1⟩ : ∃ w1, w.alloc (.cells (Rw_.C x) 25) = w1 := ⟨_, rfl⟩
  have hb : Rw_.Box w1 w.heap.size x := hw1 ▸ Rw_.Box.new w x
  have HBX := Lib.hid hb
  have B1 : Hid (Below w.heap.size w w1) := hw1 ▸ (Below.refl _ _).alloc (Nat.le_refl _) _
  have e1 := hb.all
  obtain ⟨n, hn⟩ : ∃ n, b.hs.length = n := ⟨_, rfl⟩
  have hxn : x.n = n := hL.n.trans hn
  have HN := Lib.hid hn
  have HL := Lib.hid hL

  clear hb hL hn
  by_cases h70 : 70 < n
  · have HR := Lib.hid (show small b = false by unfold small; rw [decide_eq_false (by have := HN.out; omega)]; rfl)
    rw [HR.out]
    have h70' : (70 : Int) < (n : Int) := by omega
    go_enter Try.func12, Try.ntmps12
    go_wp2
    go_returns
    exact ⟨rfl, B1.out⟩
  have HR := Lib.hid (show small b = b.hs.all (fun h => decide (h.d.size ≤ 3000)) by unfold small; rw [decide_eq_true (by have := HN.out; omega)]; rfl)
  rw [HR.out]
  have h70' : ¬ (70 : Int) < (n : Int) := by omega
  go_enter Try.func12, Try.ntmps12
  go_wp2
  clear e1
  go_loopw [3] (fun i wr => ∃ k : Nat, k ≤ n ∧ i = .int .i64 k ∧ Hid ((b.hs.take k).all (fun h => decide (h.d.size ≤ 3000)) = true) ∧ Hid (Below w.heap.size w wr ∧ Rw_.Box wr w.heap.size x)) (fun i _ => n - (intOf i).toNat)
  case atStart => exact ⟨0, Nat.zero_le _, rfl, rfl, ⟨B1.out, HBX.out⟩⟩
  case round =>
    rename World => wr
    obtain ⟨k, hk, rfl, HA, HB⟩ := hrel
    have e1 := HB.out.2.all
    by_cases hlt : k < n
    · have hkl : k < b.hs.length := by have := HN.out; omega
      obtain ⟨b1, off, hsa, -, c0, c1⟩ := (HL.out.sl.below HB.out.1).lies k hkl
      have HLT := Lib.hid hlt
      have HT := Lib.hid (all_take20 hkl (fun h => decide (h.d.size ≤ 3000)))
      have HF := Lib.hid (fun hh => all_no20 hkl (p := fun h => decide (h.d.size ≤ 3000)) hh)
      generalize b.hs[k] = z at *
      clear hkl
      by_cases hz : 3000 < z.d.size
      · have hz' : (3000 : Int) < (z.d.size : Int) := by omega
        have HRS := Lib.hid (HF.out (decide_eq_false (by omega)))
        go_wp2
        go_returns
        exact ⟨by rw [HRS.out]; rfl, HB.out.1⟩
      · have hz' : ¬ (3000 : Int) < (z.d.size : Int) := by omega
        have HRS : Hid ((b.hs.take (k + 1)).all (fun h => decide (h.d.size ≤ 3000)) = true) := by
          show (b.hs.take (k + 1)).all (fun h => decide (h.d.size ≤ 3000)) = true
          rw [HT.out, HA.out]
          exact decide_eq_true (by omega)
        go_wp2
        go_roundw
        case rel => exact ⟨k + 1, HLT.out, by go_num, HRS, HB⟩
        case measure => have := HLT.out; simp [intOf]; omega
    · obtain rfl : k = n := by omega
      have HRS : Hid (b.hs.all (fun h => decide (h.d.size ≤ 3000)) = true) := by
        have h := HA.out
        rw [show b.hs.take k = b.hs by rw [← HN.out, List.take_length]] at h
        exact h
      go_wp2
      go_returns
      exact ⟨by rw [HRS.out]; rfl, HB.out.1⟩
end Go.Proofs.Yteffmfloopkmoaa
