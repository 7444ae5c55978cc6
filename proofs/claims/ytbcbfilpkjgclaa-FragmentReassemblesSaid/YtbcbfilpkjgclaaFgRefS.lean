/-
  WALKS of the reference of layer 18: Split, Same.
-/
import Derived.Test.YtbcbfilpkjgclaaFgSplit
import Derived.Test.YtbcbfilpkjgclaaFgRefA
import Derived.Test.YtbcbfilpkjgclaaQuietOf
import Derived.Laws.DeepStrings4
namespace Go.Proofs.Ytbcbfilpkjgclaa
open Go.RowKit Go.Fg

theorem r18Add_any (p : Pt) (x : Xr) (w : World) (hp : p.s.size ≤ 5000) :
    Calls Try.prog 14 #[Pw_.v p, Xw_.v x] w fun e w' => AdPost p x w e w' := by
  by_cases h : poss x = true
  · exact r18Add_yes p x w hp h
  · exact r18Add_no p x w h

theorem kz_small {n : Nat} (t : Int) (h : n ≤ 5000) : kz n t ≤ 5000 := by
  by_cases hn : n = 0
  · subst hn; unfold kz; rw [ps_zero]; decide
  · exact Nat.le_trans (kz_le n t (by omega)) h
theorem belowN18 {B : Nat} {w w' : World} (h : Below B w w') (n : Nat) : Below B w (w'.drewN n) := ⟨h.os, h.tape, h.output, h.size, h.block⟩
theorem min_cast (a b : Nat) : min (a : Int) (b : Int) = ((min a b : Nat) : Int) := by omega
theorem slice18_in (s : ByteArray) (a b : Nat) (h : a ≤ b) (hb : b ≤ s.size) (W : World) : (Instr.slice 9 (.string s) (some (.int .i64 (a : Int))) (some (.int .i64 (b : Int))) none).run Try.prog W = .ok (.string (s.extract a b)) W := by
  rw [run_slice_string_if W 9 s .i64 .i64 (a : Int) (b : Int) Try.underlying9, if_pos ⟨by omega, by omega⟩, if_pos (show 0 ≤ (a : Int) ∧ (a : Int) ≤ (b : Int) by omega)]
  simp

set_option maxRecDepth 100000 in
set_option maxHeartbeats 4000000 in
theorem r18Split_any (s : ByteArray) (t : Int) (w : World) (hs : s.size ≤ 5000) :
    Calls Try.prog 10 #[.string s, .int .i64 t] w fun e w' => SpPost s t w e w' := by
  have HI := Lib.hid (info_parts Ss_.info)
  have CS := Lib.hid fun w => r18Size_any s.size t w (by omega)
  have CC : Hid (∀ w, Calls Try.prog 12 #[.int .i64 (s.size : Int), .int .i64 t] w fun e w' => e = .returned (.int .i64 (cn s.size t : Nat)) ∧ w = w') := fun w => by
    have := r18Count_any (s.size : Int) t w (by omega)
    rwa [Int.toNat_natCast] at this
  have HN := Lib.hid (cn_le s.size t)
  have HK := Lib.hid (kz_small t hs)
  have HL := Lib.hid fun k => @cn_le_n s.size k t
  have HS := Lib.hid hs
  have HT := Lib.hid fun k => @pcs_take s t k
  have HTL := Lib.hid fun k => @pcs_take_len s t k
  have HA := Lib.hid fun k => @pcs_all s t k
  generalize hz : kz s.size t = z at *
  generalize hc : cn s.size t = c at *
  clear hs hz hc
  go_enter Try.func10, Try.ntmps10
  go_wp2_with (go_at_call 16; refine (CS.out _).mono ?_; rintro e w' ⟨rfl, rfl⟩)
  go_loopw [6, 7] (fun v i wr => ∃ k : Nat, k ≤ c ∧ i = .int .i64 k ∧ wr.ownsRow w.heap.size 9 1 v ((pcs s t).take k).length (Ss_.vs ((pcs s t).take k)) ∧ Below w.heap.size w wr) (fun _ i _ => c - (intOf i).toNat)
  case atStart => exact ⟨0, Nat.zero_le _, rfl, World.ownsRow_nil _ _ _ _, Below.refl _ _⟩
  case round =>
    rename World => w1
    obtain ⟨k, hk, rfl, hown, hb⟩ := hrel
    have HB := Lib.hid hb
    by_cases hlt : k < c
    · have HLT := Lib.hid hlt
      have hlt' : (k : Int) < (c : Int) := by omega
      have HLE := Lib.hid (HTL.out k hk)
      have HTK := Lib.hid (HT.out k hlt)
      have hle := HL.out k hlt
      have hz5 := HK.out
      have hs5 := HS.out
      have hwm : wrap64 ((k : Int) * (z : Int)) = ((k * z : Nat) : Int) := by rw [← Int.natCast_mul]; exact wrap_nat (by omega)
      have hwa : wrap64 (((k * z : Nat) : Int) + (z : Int)) = ((k * z + z : Nat) : Int) := by rw [← Int.natCast_add]; exact wrap_nat (by omega)
      have hmi := min_cast s.size (k * z + z)
      have hsl := slice18_in s (k * z) (min s.size (k * z + z)) (by omega) (by omega)
      have hP : pc s z k = s.extract (k * z) (min s.size (k * z + z)) := rfl
      have hk16 := HN.out
      rw [← hP] at hsl
      generalize pc s z k = P at *
      generalize min s.size (k * z + z) = M at *
      generalize k * z + z = B at *
      generalize k * z = A at *
      have HO := Lib.hid hown
      clear hb hk hlt hle hz5 hs5 hP hown
      generalize (pcs s t).take k = L at *
      go_wp2_with (first
        | (go_at_call 12; refine (CC.out _).mono ?_; rintro e w' ⟨rfl, rfl⟩)
        | (at_builtin; obtain ⟨i0, hi, hz0, hz1, hz2⟩ := HI.out; refine wpList_append_own _ rfl _ _ 24 rfl w.heap.size 9 i0 (.string ⟨#[]⟩) 1 16 Try.underlying24 hi hz0 hz1 hz2 rfl (by decide) _ _ _ rfl (HO.out.alloc _) ⟨w1.heap.size, 0, none⟩ 1 1 [.string P] rfl rfl ?c1 ?c2 ?c3 ?c4 ?c5 ?_))
      case c1 =>
        intro j x hj
        match j, hj with
        | 0, hj => simp at hj; subst hj; simp [Addr.add]
      case c2 => intro x hx; simp at hx; subst hx; rfl
      case c3 => have := HLE.out; have := HLT.out; unfold maxLen; omega
      case c4 => have := HLE.out; have := HLT.out; omega
      case c5 => have := HB.out.size; simp; omega
      intro v4 w4 hown4 hgrow hn'
      clear hi hz0 hz1 hz2
      have R : w4.ownsRow w.heap.size 9 1 v4 (L ++ [P]).length (Ss_.vs (L ++ [P])) ∧ Below w.heap.size w w4 := by
        refine ⟨?_, ?_⟩
        · rw [Ss_.vs_snoc, List.length_append]
          exact hown4
        · refine Below.grown (HB.out.alloc HB.out.size _) hgrow (by simp; have := HB.out.size; omega) (fun j hj => ?_)
          exact (HO.out.lt j hj).1
      have HO4 := Lib.hid R.1
      have HB4 := Lib.hid R.2
      clear hown4 hgrow hn' R
      go_wp2
      go_roundw
      case rel => exact ⟨k + 1, HLT.out, by go_num, by rw [HTK.out]; exact HO4.out, HB4.out⟩
      case measure => have := HLT.out; simp [intOf]; omega
    · obtain rfl : k = c := by omega
      have HE := Lib.hid (HA.out k rfl)
      obtain ⟨v0, c', rfl⟩ := Ss_.slice_form hown
      have HO := Lib.hid (Ss_.sl_owns hown)
      clear hb hk hlt hown
      generalize (pcs s t).take k = L at *
      go_wp2_with (go_at_call 12; refine (CC.out _).mono ?_; rintro e w' ⟨rfl, rfl⟩)
      go_returns
      exact spPost HE.out.symm rfl HO.out HB.out

set_option maxRecDepth 100000 in
set_option maxHeartbeats 2000000 in
theorem r18Same_any (L : List ByteArray) (sa sb : Option Addr) (c c' : Nat) (w : World) (h : Ss_.At w sa L) (h' : Ss_.At w sb L) (hl : L.length ≤ 64) :
    Calls Try.prog 8 #[.slice sa L.length c, .slice sb L.length c'] w fun e w' => e = .returned (.bool true) ∧ Below w.heap.size w w' := by
  have HA := Lib.hid h
  have HB' := Lib.hid h'
  clear h h'
  go_enter Try.func8, Try.ntmps8
  go_wp2
  go_loopw [5] (fun i wr => ∃ k : Nat, k ≤ L.length ∧ i = .int .i64 k ∧ Below w.heap.size w wr) (fun i _ => L.length - (intOf i).toNat)
  case atStart => exact ⟨0, Nat.zero_le _, rfl, Below.refl _ _⟩
  case round =>
    rename World => wr
    obtain ⟨k, hk, rfl, hb⟩ := hrel
    have HB := Lib.hid hb
    by_cases hlt : k < L.length
    · obtain ⟨b, off, rfl, -, c0⟩ := HA.out.below hb k hlt
      obtain ⟨b2, off2, rfl, -, d0⟩ := HB'.out.below hb k hlt
      have HLT := Lib.hid hlt
      generalize L[k] = x at *
      have e2 : (x.toList == x.toList) = true := by simp
      have i0 : (0 : Int) ≤ (k : Int) := by omega
      have i1 : (k : Int) < (L.length : Int) := by omega
      clear hb
      go_wp2
      go_quiet (fail)
      go_wp2
      go_roundw
      case rel => exact ⟨k + 1, HLT.out, by go_num, belowN18 HB.out _⟩
      case measure => have := HLT.out; simp [intOf]; omega
    · obtain rfl : k = L.length := by omega
      clear hb
      go_wp2
      go_returns
      exact ⟨rfl, HB.out⟩
end Go.Proofs.Ytbcbfilpkjgclaa
