/-
  THE LAW FragmentPieces, walked.
-/
import Derived.Test.YtbcbfilpkjgclaaFgLaws
namespace Go.Proofs.Ytbcbfilpkjgclaa
open Go.RowKit Go.Fg

theorem pcs_first {s : ByteArray} {t : Int} {k : Nat} (h : k < (pcs s t).length) (h0 : 0 < (pcs s t).length) : (pcs s t)[k].size ≤ (pcs s t)[0].size ∧ (k + 1 < (pcs s t).length → (pcs s t)[k].size = (pcs s t)[0].size) := by
  rw [pcs_get h, pcs_get h0]
  rw [pcs_len] at *
  by_cases hk : k = 0
  · subst hk; exact ⟨Nat.le_refl _, fun _ => rfl⟩
  · have e : (pc s (kz s.size t) 0).size = kz s.size t := pc_mid (by omega)
    rw [e]
    exact ⟨pc_le _ _ _, fun h => pc_mid h⟩
theorem pcs_pos {s : ByteArray} {t : Int} {k : Nat} (h : k < (pcs s t).length) (hn : 0 < s.size) : 0 < (pcs s t)[k].size := by
  rw [pcs_get h]
  rw [pcs_len] at h
  exact pc_pos hn h
theorem pcs_sz {s : ByteArray} {t : Int} {k : Nat} (h : k < (pcs s t).length) : (pcs s t)[k].size ≤ s.size := by
  rw [pcs_get h]; exact pc_le_n _ _ _
theorem pcs_pre {s : ByteArray} {t : Int} {k : Nat} (h : k < (pcs s t).length) : pre s (kz s.size t) k ++ (pcs s t)[k] = pre s (kz s.size t) (k + 1) := by
  rw [pcs_get h]
  rw [pcs_len] at h
  exact pre_succ (cn_le_n t h)
theorem pcs_pre_all (s : ByteArray) (t : Int) : pre s (kz s.size t) (pcs s t).length = s := by rw [pcs_len]; exact pre_all s t
theorem pre_le (s : ByteArray) (k i : Nat) : (pre s k i).size ≤ s.size := by rw [pre_size]; omega

theorem str_same18 (a : ByteArray) : (a.toList == a.toList) = true := by simp

set_option maxRecDepth 100000 in
set_option maxHeartbeats 8000000 in
theorem fragmentPieces_walk0 (s : ByteArray) (_ : s.size ≤ 140737488351232) (t : Int) (_ : (Lit.int .i64 t).wf = true) (W : World) :
    Calls Try.prog 5 #[.string s, .int .i64 t] W fun e w' => e = .returned (.bool true) ∧ Below W.heap.size W w' := by
  have AW := Lib.hid awake18_any
  by_cases h1 : (5000 : Int) < (s.size : Int)
  · go_enter Try.func5, Try.ntmps5
    go_wp2_with (go_at_call 7; refine (AW.out _).mono ?_; rintro e w1 ⟨rfl, hb1⟩)
    go_returns
    exact ⟨rfl, hb1⟩
  have C1 := Lib.hid (fgSplit_any s t W (by omega))
  have C2 : Hid (∀ w, Calls Try.prog 11 #[.int .i64 (s.size : Int), .int .i64 t] w fun e w' => e = .returned (.int .i64 (pcs s t).length) ∧ w = w') := fun w => by
    have := fgCount_any (s.size : Int) t w (by omega)
    rw [Int.toNat_natCast] at this
    rwa [pcs_len]
  have hl1 : 1 ≤ (pcs s t).length := by rw [pcs_len]; exact cn_pos _ _
  have hl16 : (pcs s t).length ≤ 16 := by rw [pcs_len]; exact cn_le _ _
  have F1 := Lib.hid fun k h h0 => @pcs_first s t k h h0
  have F3 := Lib.hid fun k h => @pcs_pos s t k h
  have F4 := Lib.hid fun k h => @pcs_sz s t k h
  have F5 := Lib.hid fun k h => @pcs_pre s t k h
  have F6 := Lib.hid (pcs_pre_all s t)
  have F7 := Lib.hid fun i => pre_le s (kz s.size t) i
  have F8 := Lib.hid (pre_zero s (kz s.size t))
  have HS : Hid (s.size ≤ 5000) := by show s.size ≤ 5000; omega
  unfold SpPost at C1
  generalize pre s (kz s.size t) = Q at *
  generalize pcs s t = L at *
  have HL1 := Lib.hid hl1
  have g1 : ¬ (L.length : Int) < 1 := by omega
  have g2 : ¬ (16 : Int) < (L.length : Int) := by omega
  have g3 : ((L.length : Int) != (L.length : Int)) = false := by simp
  clear hl1 hl16
  go_enter Try.func5, Try.ntmps5
  go_wp2_with (first
    | (go_at_call 9; refine C1.out.mono ?_; rintro e w1 ⟨v1, n1, rfl, hs, h⟩; have S1 := Lib.hid hs; have B1 := Lib.hid h; clear h hs)
    | (go_at_call 11; refine (C2.out _).mono ?_; rintro e w' ⟨rfl, rfl⟩))
  go_loopw [6, 7] (fun z i wr => ∃ k : Nat, k ≤ L.length ∧ i = .int .i64 k ∧ z = .string (Q k) ∧ Below w1.heap.size w1 wr) (fun _ i _ => L.length - (intOf i).toNat)
  case atStart => exact ⟨0, Nat.zero_le _, rfl, by rw [F8.out], Below.refl _ _⟩
  case round =>
    rename World => wr
    obtain ⟨k, hk, rfl, rfl, hb⟩ := hrel
    have HB := Lib.hid hb
    by_cases hlt : k < L.length
    · obtain ⟨b, off, rfl, -, c0⟩ := S1.out.lies.below hb k hlt
      obtain ⟨b', off', e', -, c1⟩ := S1.out.lies.below hb 0 HL1.out
      injection e' with e'
      injection e' with e1 e2
      subst e1; subst e2
      rw [Nat.add_zero] at c1
      have HLT := Lib.hid hlt
      obtain ⟨f1, f2⟩ := F1.out k hlt HL1.out
      have f3 := F3.out k hlt
      have f4 := F4.out k hlt
      have F5k := Lib.hid (F5.out k hlt)
      have f7 := F7.out k
      have f8 := HS.out
      have hsum : ¬ 9223372036854775807 < (Q k).size + L[k].size := by omega
      have i0 : (0 : Int) ≤ (k : Int) := by omega
      have i1 : (k : Int) < (L.length : Int) := by omega
      have i2 : (0 : Int) < (L.length : Int) := by omega
      have hw : IntKind.i64.wrap ((k : Int) + 1) = k + 1 := IntWalk.i64_in _ (by have := g2; omega)
      have hw' : wrap64 ((k : Int) + 1) = k + 1 := IntWalk.wrap64_in _ (by have := g2; omega)
      generalize L[k] = X at *
      generalize L[0] = Y at *
      generalize Q k = q at *
      have d1 : decide ((Y.size : Int) < (X.size : Int)) = false := decide_eq_false (by omega)
      have d1' : decide (Y.size < X.size) = false := decide_eq_false (by omega)
      have HX : Hid (X.size ≤ s.size) := f4
      have HY := Lib.hid f2
      have HP := Lib.hid f3
      clear hb f1 f2 f3 f4 f7 f8 hk hlt F1 F3 F4 F5 F6
      generalize L.length = m at *
      by_cases hm : k + 1 < m <;> by_cases hn : 0 < s.size
      all_goals
        first
          | (have d2 : decide ((k : Int) + 1 < (m : Int)) = true := decide_eq_true (by omega)
             have d3 : ((X.size : Int) != (Y.size : Int)) = false := by rw [HY.out hm, bne_eq_false_iff_eq]
             have d3' : (X.size != Y.size) = false := by rw [HY.out hm, bne_eq_false_iff_eq])
          | (have d2 : decide ((k : Int) + 1 < (m : Int)) = false := decide_eq_false (by omega))
        first
          | (have d4 : ((X.size : Int) == 0) = false := by have := HP.out hn; rw [beq_eq_false_iff_ne]; omega)
          | (have d4 : ((X.size : Int) == 0) = true := by have := HX.out; rw [beq_iff_eq]; omega
             have d5 : decide ((0 : Int) < (s.size : Int)) = false := decide_eq_false (by omega)
             have d5' : decide (0 < s.size) = false := decide_eq_false (by omega))
        clear hm hn
        go_wp2
        go_quiet (fail)
        go_wp2
        go_roundw
        case rel => exact ⟨k + 1, HLT.out, by go_num, by rw [← F5k.out], belowN18 HB.out _⟩
        case measure => have := HLT.out; simp [intOf]; omega
    · obtain rfl : k = L.length := by omega
      have hqq : ((Q L.length).toList == s.toList) = true := by rw [F6.out]; simp
      clear hb
      go_wp2_with (go_at_call 7; refine (AW.out _).mono ?_; rintro e w3 ⟨rfl, h⟩; have B3 := Lib.hid ((B1.out.trans (HB.out.mono B1.out.size)).trans (h.mono (B1.out.trans (HB.out.mono B1.out.size)).size)); clear h)
      go_returns
      exact ⟨rfl, B3.out⟩
end Go.Proofs.Ytbcbfilpkjgclaa
