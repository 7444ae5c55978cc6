/-
  WALKS of the reference of layer 17: up, Delimiter, Length, Fill.
-/
import Derived.Test.YtoobajcpfonllaaDoorTnProg
import Derived.Test.YtoobajcpfonllaaDoorWrRefW
import Derived.Test.YtoobajcpfonllaaDoorCkRef
import Derived.Test.YtoobajcpfonllaaDoorQuietOf
import Derived.Test.YtoobajcpfonllaaDoorLexFast
import Derived.BigQuiet
namespace Go.Proofs.YtoobajcpfonllaaDoor
open Go.RowKit Go.Tn Go.Wr Go.Ck

set_option maxHeartbeats 400000 in
theorem r17Up_any (n : Nat) (w : World) (hn : n ≤ 1152921504606846976) :
    Calls Tryd.prog 23 #[.int .i64 (n : Int)] w fun e w' => e = .returned (.int .i64 (Tn.up n : Nat)) ∧ w = w' := by
  have hw3 : wrap64 ((n : Int) + 3) = n + 3 := by rw [IntWalk.wrap64_in _ (by omega)]
  have hd : ((n : Int) + 3).tdiv 4 = (n + 3) / 4 := Int.tdiv_eq_ediv_of_nonneg (by omega)
  have hq : wrap64 (((n : Int) + 3) / 4) = ((n : Int) + 3) / 4 := IntWalk.wrap64_in _ (by omega)
  have hm : wrap64 (((n : Int) + 3) / 4 * 4) = ((Tn.up n : Nat) : Int) := by rw [IntWalk.wrap64_in _ (by omega)]; exact up_walk n
  have HM := Lib.hid hm
  clear hn hm
  go_enter Tryd.func23, Tryd.ntmps23
  go_wp2
  go_returns
  exact ⟨congrArg (fun z : Int => Ending.returned (.int .i64 z)) HM.out, rfl⟩

theorem ba_add17 (l m : List UInt8) : (⟨l.toArray⟩ : ByteArray) ++ ⟨m.toArray⟩ = ⟨(l ++ m).toArray⟩ := by apply ByteArray.ext; simp
theorem ba_size17 (l : List UInt8) : (⟨l.toArray⟩ : ByteArray).size = l.length := List.size_toArray ..
theorem two_conv (c : Nat) (hc : c < 256) (g : Nat) (W : World) (h0 : W.cell? ⟨g, 0, none⟩ = some (.int .u8 (c : Int))) (h1 : W.cell? ⟨g, 1, none⟩ = some (.int .u8 78)) :
    (convert 32 9 (.slice (some ⟨g, 0, none⟩) 2 2)).run Tryd.prog W = .ok (.string ⟨[UInt8.ofNat c, 78].toArray⟩) W :=
  run_convert_bytes_back (P := Tryd.prog) W 32 9 5 ⟨g, 0, none⟩ 2 [UInt8.ofNat c, 78] Tryd.underlying32 Tryd.underlying5 Tryd.underlying9 (fun j hj => by
    have e : (⟨g, 0, none⟩ : Addr).add j = ⟨g, j, none⟩ := by unfold Addr.add; split <;> simp_all
    rw [e]
    match j, hj with
    | 0, _ => rw [h0]; simp [UInt8.toNat_ofNat', Nat.mod_eq_of_lt hc]
    | 1, _ => rw [h1]; rfl)

set_option maxRecDepth 100000 in
set_option maxHeartbeats 1000000 in
theorem r17Del_any (n : Nat) (w : World) (hn : n < 65536) :
    Calls Tryd.prog 18 #[.int .i64 (n : Int)] w fun e w' => e = .returned (.string ⟨(del n).toArray⟩) ∧ Below w.heap.size w w' := by
  have CO := Lib.hid fun w => octets_any n 2 w (by decide) (by decide) (by omega)
  have hz : (⟨(le n 2).toArray⟩ : ByteArray).size = 2 := by rw [ba_size17, le_len]
  have CS : Hid (∀ w, Calls Tryd.prog 28 #[.string ⟨(le n 2).toArray⟩] w fun e w' => e = .returned (.int .u8 (crc8 (le n 2) : Int)) ∧ w = w') := fun w => refSum8_any ⟨(le n 2).toArray⟩ w (by rw [hz]; decide)
  have hc : crc8 (le n 2) < 256 := by unfold crc8; have := reg8_lt (show 255 < 256 by decide) (le n 2); omega
  have hadd : ∀ W, (Op.stringOp .add ⟨(le n 2).toArray⟩ ⟨[UInt8.ofNat (crc8 (le n 2)), 78].toArray⟩).run Tryd.prog W = .ok (.string ⟨(del n).toArray⟩) W := fun W => by
    rw [show del n = le n 2 ++ [UInt8.ofNat (crc8 (le n 2)), 78] from rfl, ← ba_add17]
    exact run_string_add_sum (P := Tryd.prog) W _ _ (by rw [hz]; show 2 + 2 ≤ _; decide)
  have HC : Hid (∀ w1 : World, (convert 32 9 (.slice (some ⟨w1.heap.size, 0, none⟩) 2 2)).run Tryd.prog (w1.alloc (.cells #[.int .u8 (crc8 (le n 2) : Int), .int .u8 78] 5)) = .ok (.string ⟨[UInt8.ofNat (crc8 (le n 2)), 78].toArray⟩) (w1.alloc (.cells #[.int .u8 (crc8 (le n 2) : Int), .int .u8 78] 5))) := fun w1 => two_conv _ hc _ _ (by simp) (by simp)
  generalize del n = D at *
  generalize crc8 (le n 2) = c at *
  generalize (⟨(le n 2).toArray⟩ : ByteArray) = A at *
  generalize (⟨[UInt8.ofNat c, 78].toArray⟩ : ByteArray) = B at *
  clear hz hn hc
  go_enter Tryd.func18, Tryd.ntmps18
  go_wp2_with (first
    | (go_at_call 27; refine (CO.out _).mono ?_; rintro e w1 ⟨rfl, hb⟩; have HB := Lib.hid hb; have hcv := HC.out w1; clear hb)
    | (go_at_call 28; refine (CS.out _).mono ?_; rintro e w' ⟨rfl, rfl⟩))
  go_returns
  exact ⟨rfl, HB.out.alloc HB.out.size _⟩

theorem belowN17 {B : Nat} {w w' : World} (h : Below B w w') (n : Nat) : Below B w (w'.drewN n) := ⟨h.os, h.tape, h.output, h.size, h.block⟩
/-- What Length hands back. -/
def LnPost (l : List Int) (w : World) (e : Ending) (w' : World) : Prop := e = .returned (.int .i64 (lnI l)) ∧ Below w.heap.size w w'
theorem lnPost_err {l : List Int} {w w' : World} {e : Ending} (h : ¬ mE l = 0) (he : e = .returned (.int .i64 (-1))) (hb : Below w.heap.size w w') : LnPost l w e w' := ⟨by unfold lnI; rw [if_neg h, he], hb⟩
theorem lnPost_ok {l : List Int} {w w' : World} {e : Ending} (h : mE l = 0) (he : e = .returned (.int .i64 (mL l : Nat))) (hb : Below w.heap.size w w') : LnPost l w e w' := ⟨by unfold lnI; rw [if_pos h, he], hb⟩
theorem sum_wrap17 {q : Nat} {n : Int} (h : q ≤ 1000000) (h1 : 1 ≤ n) (h2 : n ≤ 2300) : wrap64 ((q : Int) + 4) = q + 4 ∧ wrap64 ((q : Int) + 4 + n) = q + 4 + n := ⟨IntWalk.wrap64_in _ (by omega), IntWalk.wrap64_in _ (by omega)⟩
theorem up_small17 {m q : Nat} (h : m ≤ 147648) (h2 : q < m + 4) : q ≤ 1000000 := by omega
theorem small17 {m : Nat} (h : m ≤ 147648) : m ≤ 1152921504606846976 := by omega
theorem pos_no {n : Int} (h : pos n = false) : n < 1 ∨ (¬ n < 1 ∧ 2300 < n) := by
  by_cases h1 : n < 1
  · exact .inl h1
  · by_cases h2 : 2300 < n
    · exact .inr ⟨h1, h2⟩
    · rw [pos_iff.2 ⟨by omega, by omega⟩] at h; cases h

set_option maxRecDepth 100000 in
set_option maxHeartbeats 4000000 in
theorem r17Length_any (l : List Int) (sa : Option Addr) (c : Nat) (w : World) (h : Is_.At w sa l) (hl : l.length ≤ maxLen) :
    Calls Tryd.prog 11 #[.slice sa l.length c] w fun e w' => LnPost l w e w' := by
  have HA := Lib.hid h
  unfold maxLen at hl
  clear h
  by_cases h0 : l.length = 0
  · have HE : Hid (¬ mE l = 0) := fun h => by rw [mE_none h0] at h; cases h
    have h0' : (l.length : Int) < 1 := by omega
    clear h0
    go_enter Tryd.func11, Tryd.ntmps11
    go_wp2
    go_returns
    exact lnPost_err HE.out rfl (Below.refl _ _)
  have h0' : ¬ (l.length : Int) < 1 := by omega
  by_cases h6 : 64 < l.length
  · have HE : Hid (¬ mE l = 0) := fun h => by rw [mE_full h6] at h; cases h
    have h6' : (64 : Int) < (l.length : Int) := by omega
    clear h0 h6
    go_enter Tryd.func11, Tryd.ntmps11
    go_wp2
    go_returns
    exact lnPost_err HE.out rfl (Below.refl _ _)
  have h6' : ¬ (64 : Int) < (l.length : Int) := by omega
  have H0 := Lib.hid h0
  have H6 := Lib.hid h6
  clear h0
  go_enter Tryd.func11, Tryd.ntmps11
  go_wp2
  go_loopw [3, 4] (fun z i wr => ∃ k : Nat, k ≤ l.length ∧ i = .int .i64 k ∧ z = .int .i64 ((mL (l.take k) : Nat) : Int) ∧ (∀ j (hj : j < l.length), j < k → pos l[j] = true) ∧ Below w.heap.size w wr) (fun _ i _ => l.length - (intOf i).toNat)
  case atStart => exact ⟨0, Nat.zero_le _, rfl, rfl, fun j _ hj => absurd hj (Nat.not_lt_zero j), Below.refl _ _⟩
  case round =>
    rename_i wr
    obtain ⟨k, hk, rfl, rfl, hj, hb⟩ := hrel
    have HJ := Lib.hid hj
    have HB := Lib.hid hb
    have hle := mL_le hj (by omega)
    clear hj
    by_cases hlt : k < l.length
    · obtain ⟨b, off, rfl, -, c0⟩ := HA.out.below hb k hlt
      have HLT := Lib.hid hlt
      cases hp : pos l[k]
      · have HE : Hid (¬ mE l = 0) := fun h => by rw [mE_bad H0.out H6.out hlt hp] at h; cases h
        generalize l[k] = n at *
        have hpn := pos_no hp
        clear hp hle hb
        rcases hpn with h1 | ⟨h1, h2⟩
        · go_wp2
          go_returns
          exact lnPost_err HE.out rfl HB.out
        · go_wp2
          go_returns
          exact lnPost_err HE.out rfl HB.out
      · have HN := Lib.hid (mL_take hlt hp)
        have HG : Hid (∀ j (hj : j < l.length), j < k + 1 → pos l[j] = true) := fun j hj hjk => by
          by_cases e : j = k
          · subst e; exact hp
          · exact HJ.out j hj (by omega)
        obtain ⟨hp1, hp2⟩ := pos_iff.1 hp
        have CU := Lib.hid fun w => r17Up_any (mL (l.take k)) w (small17 hle)
        have hq := up_small17 hle (Tn.up_lt (mL (l.take k)))
        generalize l[k] = n at *
        generalize mL (l.take k) = m at *
        generalize Tn.up m = q at *
        obtain ⟨hw1, hw2⟩ := sum_wrap17 hq hp1 hp2
        have hn1 : ¬ n < 1 := by omega
        have hn2 : ¬ 2300 < n := by omega
        have HW := Lib.hid hw2
        clear hp HJ hb hle hq
        go_wp2
        go_quiet (first | (go_at_call 23; exact Calls.quiet_of_same ((CU.out _).mono fun _ _ q => ⟨q.1, q.2.symm⟩)))
        go_wp2
        go_roundw
        case rel => exact ⟨k + 1, HLT.out, by go_num, by rw [HN.out]; exact congrArg (Value.int .i64) HW.out, HG.out, belowN17 HB.out _⟩
        case measure => have := HLT.out; simp [intOf]; omega
    · obtain rfl : k = l.length := by omega
      rw [List.take_length] at hle ⊢
      have HR : Hid (∀ j (hj : j < l.length), pos l[j] = true) := fun j hj => HJ.out j hj hj
      clear HJ
      by_cases h8 : 8192 < mL l
      · have HE : Hid (¬ mE l = 0) := fun h => by rw [mE_long H0.out H6.out HR.out h8] at h; cases h
        have h8' : (8192 : Int) < (mL l : Nat) := by omega
        clear h8 hb
        go_wp2
        go_returns
        exact lnPost_err HE.out rfl HB.out
      · have HE := Lib.hid (mE_ok H0.out H6.out HR.out h8)
        have h8' : ¬ (8192 : Int) < (mL l : Nat) := by omega
        clear h8 hb
        go_wp2
        go_returns
        exact lnPost_ok HE.out rfl HB.out

set_option maxRecDepth 100000 in
set_option maxHeartbeats 2000000 in
theorem r17Fill_any (l : List Int) (sa : Option Addr) (c : Nat) (o : Int) (w : World) (h : Is_.Sl w sa l c) (hl : l.length ≤ 1000) :
    Calls Tryd.prog 20 #[.slice sa l.length c, .int .i64 o] w fun e w' => e = .returned (.int .i64 (fl l o : Nat)) ∧ Below w.heap.size w w' := by
  have HA := Lib.hid h
  have hlc := h.le
  have HF : Hid (fl l o = bst l o (min l.length 64)) := rfl
  clear h
  go_enter Tryd.func20, Tryd.ntmps20
  go_wp2
  go_loopw [5, 6] (fun b i wr => ∃ k : Nat, k ≤ l.length ∧ k ≤ 64 ∧ i = .int .i64 ((k : Int) + 1) ∧ b = .int .i64 (bst l o k : Nat) ∧ Below w.heap.size w wr) (fun _ i _ => l.length + 1 - (intOf i).toNat)
  case atStart => exact ⟨0, Nat.zero_le _, by omega, rfl, rfl, Below.refl _ _⟩
  case round =>
    rename_i wr
    obtain ⟨k, hk, hk6, rfl, rfl, hb⟩ := hrel
    have HB := Lib.hid hb
    by_cases hlt : k < l.length
    · have hlt' : (k : Int) + 1 ≤ (l.length : Int) := by omega
      by_cases h6 : k < 64
      · have h6' : (k : Int) + 1 ≤ 64 := by omega
        have HLT := Lib.hid hlt
        have H6 := Lib.hid h6
        have H1 := HA.out.below hb
        have hs := is_slice sa l.length c (k + 1) (by omega) HA.out.nil
        rw [show (((k + 1 : Nat) : Int)) = (k : Int) + 1 from rfl] at hs
        have ht : (l.take (k + 1)).length = k + 1 := by rw [List.length_take]; omega
        have CL := Lib.hid (r17Length_any (l.take (k + 1)) sa c wr (H1.lies.take (k + 1)) (by rw [ht]; unfold maxLen; omega))
        rw [ht] at CL
        unfold LnPost at CL
        have hw : wrap64 ((k : Int) + 1 + 1) = k + 1 + 1 := IntWalk.wrap64_in _ (by omega)
        have HX := Lib.hid (@okB_iff l o (k + 1))
        have HS : Hid (bst l o (k + 1) = if okB l o (k + 1) = true then k + 1 else bst l o k) := rfl
        generalize lnI (l.take (k + 1)) = n at *
        clear hlt h6 hb H1 hk hk6
        by_cases h1 : 0 ≤ n
        · by_cases h2 : n ≤ o
          · have HE : Hid (bst l o (k + 1) = k + 1) := HS.out.trans (if_pos (HX.out.2 ⟨h1, h2⟩))
            go_wp2_with (go_at_call 11; refine CL.out.mono ?_; rintro e w1 ⟨rfl, h⟩; have HB1 := Lib.hid (HB.out.trans (h.mono HB.out.size)); clear h)
            go_roundw
            case rel => exact ⟨k + 1, HLT.out, H6.out, by go_num, by rw [HE.out]; rfl, HB1.out⟩
            case measure => have := HLT.out; simp [intOf]; omega
          · have HE : Hid (bst l o (k + 1) = bst l o k) := HS.out.trans (if_neg fun hh => h2 (HX.out.1 hh).2)
            go_wp2_with (go_at_call 11; refine CL.out.mono ?_; rintro e w1 ⟨rfl, h⟩; have HB1 := Lib.hid (HB.out.trans (h.mono HB.out.size)); clear h)
            go_roundw
            case rel => exact ⟨k + 1, HLT.out, H6.out, by go_num, by rw [HE.out], HB1.out⟩
            case measure => have := HLT.out; simp [intOf]; omega
        · have HE : Hid (bst l o (k + 1) = bst l o k) := HS.out.trans (if_neg fun hh => h1 (HX.out.1 hh).1)
          go_wp2_with (go_at_call 11; refine CL.out.mono ?_; rintro e w1 ⟨rfl, h⟩; have HB1 := Lib.hid (HB.out.trans (h.mono HB.out.size)); clear h)
          go_roundw
          case rel => exact ⟨k + 1, HLT.out, H6.out, by go_num, by rw [HE.out], HB1.out⟩
          case measure => have := HLT.out; simp [intOf]; omega
      · have h6' : ¬ (k : Int) + 1 ≤ 64 := by omega
        have HE : Hid (fl l o = bst l o k) := by rw [HF.out, show min l.length 64 = k by omega]; exact rfl
        clear hlt h6 hb
        go_wp2
        go_returns
        exact ⟨by rw [HE.out] <;> rfl, HB.out⟩
    · have hlt' : ¬ (k : Int) + 1 ≤ (l.length : Int) := by omega
      have HE : Hid (fl l o = bst l o k) := by rw [HF.out, show min l.length 64 = k by omega]; exact rfl
      clear hlt hb
      go_wp2
      go_returns
      exact ⟨by rw [HE.out] <;> rfl, HB.out⟩
end Go.Proofs.YtoobajcpfonllaaDoor
