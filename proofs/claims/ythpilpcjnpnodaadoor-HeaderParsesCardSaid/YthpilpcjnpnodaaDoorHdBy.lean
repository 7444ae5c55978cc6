/-
  THE WALK of the landed ByName of package header (8c902e7).
-/
import Derived.Test.YthpilpcjnpnodaaDoorHdFns
import Derived.Deep.MidRow
namespace Go.Proofs.YthpilpcjnpnodaaDoor
open Go.RowKit Go.Hd

/-- The whole table, and its load, as words. -/
def kvs : List Value := (List.range 20).flatMap fun i : Nat => rowC (i : Int)
def KV : Value := .agg kvs.toArray
theorem kvs_len : kvs.length = 100 := by decide +kernel
noncomputable def LoadK (a : Addr) : Sem Value := loadVar 68 a
theorem loadK (a : Addr) : loadVar 68 a = LoadK a := rfl
theorem szK : (Tryd.prog.info? 68).map (·.size) = some 100 := by kernel_rfl
theorem kvs_lens (n : Nat) : ((List.range n).flatMap fun i : Nat => rowC (i : Int)).length = n * 5 := by
  induction n with
  | zero => rfl
  | succ n ih => rw [List.range_succ, List.flatMap_append, List.length_append, ih]; simp [rowC]; omega
theorem kvs_cell (i : Nat) (hi : i < 20) (j : Nat) (hj : j < 5) : kvs[i * 5 + j]? = (rowC (i : Int))[j]? := by
  have h : ∀ n : Nat, ∀ i, i < n → ((List.range n).flatMap fun i : Nat => rowC (i : Int))[i * 5 + j]? = (rowC (i : Int))[j]? := by
    intro n
    induction n with
    | zero => intro i hi; omega
    | succ n ih =>
      intro i hi
      rw [List.range_succ, List.flatMap_append]
      have hl := kvs_lens n
      by_cases h : i < n
      · rw [List.getElem?_append_left (by rw [hl]; omega)]
        exact ih i h
      · obtain rfl : i = n := by omega
        rw [List.getElem?_append_right (by rw [hl]; omega), hl, Nat.add_sub_cancel_left]
        simp
  exact h 20 i hi
theorem loadK_at {w : World} (h : HdTab w) : (LoadK ⟨0, 0, none⟩).run Tryd.prog w = .ok KV w := by
  refine run_loadVar_mid w 0 0 68 kvs _ ?_ Tryd.underlying68 rfl (szK.trans (congrArg some kvs_len.symm))
  intro q v hq
  have hq' : q < 100 := by have := (List.getElem?_eq_some_iff.1 hq).1; rwa [kvs_len] at this
  have e : q = q / 5 * 5 + q % 5 := by omega
  rw [e, kvs_cell _ (by omega) _ (by omega)] at hq
  rw [Nat.zero_add, e]
  exact h.cell _ (by omega) _ v hq
theorem ixK (k : Nat) (hk : k < 20) (w : World) : (Instr.index 68 KV (.int .i64 (k : Int))).run Tryd.prog w = .ok (trv (k : Int)) w := by
  have c : k = 0 ∨ k = 1 ∨ k = 2 ∨ k = 3 ∨ k = 4 ∨ k = 5 ∨ k = 6 ∨ k = 7 ∨ k = 8 ∨ k = 9 ∨ k = 10 ∨ k = 11 ∨ k = 12 ∨ k = 13 ∨ k = 14 ∨ k = 15 ∨ k = 16 ∨ k = 17 ∨ k = 18 ∨ k = 19 := by omega
  rcases c with rfl | rfl | rfl | rfl | rfl | rfl | rfl | rfl | rfl | rfl | rfl | rfl | rfl | rfl | rfl | rfl | rfl | rfl | rfl | rfl <;> (show _ = _; kernel_rfl)
attribute [local go_sem ↓ high] loadK

theorem byN_here {s : ByteArray} {k : Nat} (hk : k < 20) (h : nm (k : Int) = s) : byN s = k := by
  subst h
  by_cases h0 : k = 0
  · subst h0; exact byN_empty
  · exact byN_nm ⟨by omega, by omega⟩
theorem byN_no {s : ByteArray} (h : ∀ j : Nat, j < 20 → ¬ nm (j : Int) = s) : byN s = 0 := by
  refine byN_none fun j hj hs => ?_
  rw [nms_len] at hj
  have h1 := h (j + 1) (by omega)
  have h2 : nm ((j + 1 : Nat) : Int) = nms[j]'(by rw [nms_len]; exact hj) := by
    unfold nm
    rw [if_pos ⟨by omega, by omega⟩, show (((j + 1 : Nat) : Int) - 1).toNat = j by omega, List.getD_eq_getElem?_getD, List.getElem?_eq_getElem (by rw [nms_len]; exact hj)]; rfl
  rw [h2] at h1
  generalize nms[j]'(by rw [nms_len]; exact hj) = x at *
  obtain ⟨⟨x⟩⟩ := x; obtain ⟨⟨y⟩⟩ := s
  simp at hs
  exact h1 (by rw [hs])

set_option maxRecDepth 100000 in
set_option maxHeartbeats 4000000 in
theorem byName_any (s : ByteArray) (w : World) (ht : HdTab w) :
    Calls Tryd.prog 18 #[.string s] w fun e w' => e = .returned (.int .i64 (byN s)) ∧ Below w.heap.size w w' := by
  have hl := loadK_at ht
  clear ht
  go_enter Tryd.func18, Tryd.ntmps18
  go_wp2
  clear hl
  go_loopw [3, 4, 6, 8, 9, 10, 11, 12, 13, 15] (fun a b i c d e f g h m wr => ∃ k : Nat, k ≤ 20 ∧ i = .int .i64 k ∧ (∀ j : Nat, j < k → ¬ nm (j : Int) = s) ∧ Below w.heap.size w wr) (fun a b i c d e f g h m _ => 20 - (intOf i).toNat)
  case atStart => exact ⟨0, Nat.zero_le _, rfl, fun j hj => absurd hj (Nat.not_lt_zero j), Below.refl _ _⟩
  case round =>
    obtain ⟨k, hk, rfl, hno, hbel⟩ := hrel
    by_cases hlt : k < 20
    · have hix := ixK k hlt
      unfold trv at hix
      have HX := Lib.hid (byN_here (s := s) hlt)
      have HN : Hid (¬ nm (k : Int) = s → ∀ j : Nat, j < k + 1 → ¬ nm (j : Int) = s) := fun h0 j hj => by
        by_cases e : j = k
        · subst e; exact h0
        · exact hno j (by omega)
      have HB := Lib.hid hbel
      clear hno hbel
      generalize nm (k : Int) = x at *
      by_cases he : x = s
      · have HR := Lib.hid (HX.out he)
        subst he
        clear HX HN
        go_wp2
        go_returns
        exact ⟨by rw [HR.out]; rfl, HB.out.alloc HB.out.size _⟩
      · have HR := Lib.hid (HN.out he)
        have hxe : (x.toList == s.toList) = false := by
          rw [ByteArray.toList_eq, ByteArray.toList_eq]
          obtain ⟨⟨x⟩⟩ := x; obtain ⟨⟨y⟩⟩ := s
          simp at he ⊢
          exact fun h => he (by rw [h])
        clear HX HN he
        go_wp2
        go_roundw
        case rel => exact ⟨k + 1, by omega, by go_num, HR.out, HB.out.alloc HB.out.size _⟩
        case measure => simp [intOf]; omega
    · obtain rfl : k = 20 := by omega
      have HR : Hid (byN s = 0) := byN_no hno
      have HB := Lib.hid hbel
      clear hno hbel
      go_wp2
      go_returns
      exact ⟨by rw [HR.out]; rfl, HB.out⟩
end Go.Proofs.YthpilpcjnpnodaaDoor
