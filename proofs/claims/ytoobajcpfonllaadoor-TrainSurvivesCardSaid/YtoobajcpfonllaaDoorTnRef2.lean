/-
  WALKS of the reference of layer 17: at, Decode.
-/
import Derived.Test.YtoobajcpfonllaaDoorTnRef
import Derived.Test.YtoobajcpfonllaaDoorTnAr
import Derived.Lib.AppendStr
namespace Go.Proofs.YtoobajcpfonllaaDoor
open Go.RowKit Go.Tn Go.Wr Go.Ck

theorem val2 (s : ByteArray) (p : Nat) (h : p + 1 < s.size) : val ((s.data.toList.drop p).take 2) = (s[p]'(by omega)).toNat + 256 * (s[p + 1]'h).toNat := by
  have hl : s.data.toList.length = s.size := Array.length_toList
  have e1 : s.data.toList.drop p = (s[p]'(by omega)) :: s.data.toList.drop (p + 1) := List.drop_eq_getElem_cons (by omega)
  have e2 : s.data.toList.drop (p + 1) = (s[p + 1]'h) :: s.data.toList.drop (p + 1 + 1) := List.drop_eq_getElem_cons (by omega)
  rw [e1, e2]
  show val [s[p], s[p + 1]] = _
  simp [val]
theorem at_wraps {a b : Nat} (ha : a < 256) (hb : b < 256) : IntKind.i64.wrap (a : Int) = a ∧ IntKind.i64.wrap (b : Int) = b ∧ IntKind.i64.wrap (256 * (b : Int)) = 256 * (b : Int) ∧ IntKind.i64.wrap ((a : Int) + 256 * (b : Int)) = ((a + 256 * b : Nat) : Int) :=
  ⟨IntWalk.i64_in _ (by omega), IntWalk.i64_in _ (by omega), IntWalk.i64_in _ (by omega), by rw [IntWalk.i64_in _ (by omega)]; omega⟩
theorem at_sums {p n : Nat} (h : p ≤ 200000) (hn : n ≤ 65535) : IntKind.i64.wrap ((p : Int) + 1) = p + 1 ∧ IntKind.i64.wrap ((p : Int) + 4) = p + 4 ∧ IntKind.i64.wrap ((p : Int) + 4 + (n : Int)) = p + 4 + (n : Int) :=
  ⟨IntWalk.i64_in _ (by omega), IntWalk.i64_in _ (by omega), IntWalk.i64_in _ (by omega)⟩
theorem str_eq17 {a b : ByteArray} (h : a = b) : (a.toList == b.toList) = true := by rw [h]; simp
theorem str_ne17 {a b : ByteArray} (h : ¬ a.data.toList = b.data.toList) : (a.toList == b.toList) = false := by
  rw [beq_eq_false_iff_ne]
  intro e
  rw [ByteArray.toList_eq, ByteArray.toList_eq] at e
  exact h e
theorem ba_ext17 {a b : ByteArray} (h : a.data.toList = b.data.toList) : a = b := by
  apply ByteArray.ext
  exact Array.toList_inj.1 h
theorem ext_list17 (s : ByteArray) (a b : Nat) : (s.extract a b).data.toList = (s.data.toList.drop a).take (b - a) := by
  rw [ByteArray.data_extract, Array.toList_extract]
theorem slice17 (s : ByteArray) (a b : Nat) (h : a ≤ b) (h2 : b ≤ s.size) (W : World) : (Instr.slice 9 (.string s) (some (.int .i64 (a : Int))) (some (.int .i64 (b : Int))) none).run Tryd.prog W = .ok (.string (s.extract a b)) W := by
  rw [run_slice_string_if W 9 s .i64 .i64 a b Tryd.underlying9, if_pos (by omega)]
  simp
  intro hh; omega

set_option maxRecDepth 100000 in
set_option maxHeartbeats 4000000 in
theorem r17At_any (s : ByteArray) (p : Nat) (w : World) (hp : p + 4 ≤ s.size) (hs : s.size ≤ 100000) :
    Calls Tryd.prog 26 #[.string s, .int .i64 (p : Int)] w fun e w' => e = .returned (.int .i64 (fN (s.data.toList.drop p) : Nat)) ∧ Below w.heap.size w w' := by
  have hl : s.data.toList.length = s.size := Array.length_toList
  have hv := val2 s p (by omega)
  have h0 : p < s.size := by omega
  have h1 : p + 1 < s.size := by omega
  have hpp : p ≤ 200000 := by omega
  have i0 : (0 : Int) ≤ (p : Int) := by omega
  have i1 : (p : Int) < s.size := by omega
  have i2 : (0 : Int) ≤ (p : Int) + 1 := by omega
  have i3 : (p : Int) + 1 < s.size := by omega
  have ha : (s[p]'h0).toNat < 256 := UInt8.toNat_lt _
  have hb : (s[p + 1]'h1).toNat < 256 := UInt8.toNat_lt _
  have hn : val ((s.data.toList.drop p).take 2) ≤ 65535 := by rw [hv]; omega
  obtain ⟨q1, q2, q3, q4⟩ := at_wraps ha hb
  rw [← hv] at q4
  obtain ⟨r1, r2, r3⟩ := at_sums hpp hn
  have hsl := slice17 s p (p + 4) (by omega) (by omega)
  rw [show ((p + 4 : Nat) : Int) = (p : Int) + 4 from rfl] at hsl
  have hx : (s.extract p (p + 4)).data.toList = (s.data.toList.drop p).take 4 := by rw [ext_list17]; congr 1; omega
  have CD := Lib.hid fun w => r17Del_any (val ((s.data.toList.drop p).take 2)) w (Nat.lt_succ_of_le hn)
  have HD := Lib.hid (show (del (val ((s.data.toList.drop p).take 2))) = (⟨(del (val ((s.data.toList.drop p).take 2))).toArray⟩ : ByteArray).data.toList by simp)
  have HN : Hid (fN (s.data.toList.drop p) = if 1 ≤ val ((s.data.toList.drop p).take 2) ∧ val ((s.data.toList.drop p).take 2) ≤ 2300 ∧ (s.data.toList.drop p).take 4 = del (val ((s.data.toList.drop p).take 2)) ∧ 4 + val ((s.data.toList.drop p).take 2) ≤ (s.data.toList.drop p).length then val ((s.data.toList.drop p).take 2) else 0) := rfl
  rw [← hx, List.length_drop, hl] at HN
  have _ne : Nonempty (Of (fun w' => Below w.heap.size w w')) := ⟨⟨_, Below.refl _ _⟩⟩
  have HB0 : Hid (Below w.heap.size w w) := Below.refl _ _
  have HS := Lib.hid hp
  generalize fN (s.data.toList.drop p) = f at *
  generalize (⟨(del (val ((s.data.toList.drop p).take 2))).toArray⟩ : ByteArray) = D at *
  generalize del (val ((s.data.toList.drop p).take 2)) = dl at *
  generalize s.extract p (p + 4) = X at *
  generalize val ((s.data.toList.drop p).take 2) = n at *
  obtain ⟨a, hsa⟩ : ∃ a, (s[p]'h0).toNat = a := ⟨_, rfl⟩
  obtain ⟨b, hsb⟩ : ∃ b, (s[p + 1]'h1).toNat = b := ⟨_, rfl⟩
  rw [hsa] at q1 q4
  rw [hsb] at q2 q3 q4
  clear hl hv hx ha hb hs hp
  by_cases hn1 : n < 1
  · have HE : Hid (f = 0) := HN.out.trans (if_neg fun h => by omega)
    have hn1' : (n : Int) < 1 := by omega
    have hd1 : decide ((n : Int) < 1) = true := decide_eq_true hn1'
    clear hn1 HN hn
    go_enter Tryd.func26, Tryd.ntmps26
    go_wp2
    refine wp_region_of (fun w' => Below w.heap.size w w') (by kernel_rfl) (Region.lexB_of_fast (by kernel_rfl)) HB0.out.drew ?_
    repeat (go_big_quiet_step (fail))
    refine wpQuiet_nil ?_
    rintro _ ⟨q, rfl⟩
    have HB1 := Lib.hid q.ok
    generalize q.w = w1 at *
    clear q1 q2 q3 q4 r1 hsa hsb i0 i1 i2 i3 h0 h1
    go_wp2
    refine wp_region_of (fun w' => Below w.heap.size w w') (by kernel_rfl) (Region.lexB_of_fast (by kernel_rfl)) HB1.out.drew ?_
    repeat (go_big_quiet_step (first | (go_at_call 18; exact Calls.of_below (fun _ _ h hb => h.trans (hb.mono h.size)) (CD.out _))))
    refine wpQuiet_nil ?_
    rintro _ ⟨q2, rfl⟩
    have HB2 := Lib.hid q2.ok
    generalize q2.w = w2 at *
    go_wp2
    go_returns
    exact ⟨by rw [HE.out] <;> rfl, HB2.out⟩
  have hn1' : ¬ (n : Int) < 1 := by omega
  have hd1 : decide ((n : Int) < 1) = false := decide_eq_false hn1'
  by_cases hn2 : 2300 < n
  · have HE : Hid (f = 0) := HN.out.trans (if_neg fun h => by omega)
    have hn2' : (2300 : Int) < (n : Int) := by omega
    have hd2 : decide ((2300 : Int) < (n : Int)) = true := decide_eq_true hn2'
    clear hn1 hn2 HN hn
    go_enter Tryd.func26, Tryd.ntmps26
    go_wp2
    refine wp_region_of (fun w' => Below w.heap.size w w') (by kernel_rfl) (Region.lexB_of_fast (by kernel_rfl)) HB0.out.drew ?_
    repeat (go_big_quiet_step (fail))
    refine wpQuiet_nil ?_
    rintro _ ⟨q, rfl⟩
    have HB1 := Lib.hid q.ok
    generalize q.w = w1 at *
    clear q1 q2 q3 q4 r1 hsa hsb i0 i1 i2 i3 h0 h1
    go_wp2
    refine wp_region_of (fun w' => Below w.heap.size w w') (by kernel_rfl) (Region.lexB_of_fast (by kernel_rfl)) HB1.out.drew ?_
    repeat (go_big_quiet_step (first | (go_at_call 18; exact Calls.of_below (fun _ _ h hb => h.trans (hb.mono h.size)) (CD.out _))))
    refine wpQuiet_nil ?_
    rintro _ ⟨q2, rfl⟩
    have HB2 := Lib.hid q2.ok
    generalize q2.w = w2 at *
    go_wp2
    go_returns
    exact ⟨by rw [HE.out] <;> rfl, HB2.out⟩
  have hn2' : ¬ (2300 : Int) < (n : Int) := by omega
  have hd2 : decide ((2300 : Int) < (n : Int)) = false := decide_eq_false hn2'
  by_cases hx4 : X.data.toList = dl
  case neg =>
    have HE : Hid (f = 0) := HN.out.trans (if_neg fun h => hx4 h.2.2.1)
    have hne := str_ne17 (a := X) (b := D) (by rw [← HD.out]; exact hx4)
    clear hn1 hn2 HN hn hx4
    go_enter Tryd.func26, Tryd.ntmps26
    go_wp2
    refine wp_region_of (fun w' => Below w.heap.size w w') (by kernel_rfl) (Region.lexB_of_fast (by kernel_rfl)) HB0.out.drew ?_
    repeat (go_big_quiet_step (fail))
    refine wpQuiet_nil ?_
    rintro _ ⟨q, rfl⟩
    have HB1 := Lib.hid q.ok
    generalize q.w = w1 at *
    clear q1 q2 q3 q4 r1 hsa hsb i0 i1 i2 i3 h0 h1
    go_wp2
    refine wp_region_of (fun w' => Below w.heap.size w w') (by kernel_rfl) (Region.lexB_of_fast (by kernel_rfl)) HB1.out.drew ?_
    repeat (go_big_quiet_step (first | (go_at_call 18; exact Calls.of_below (fun _ _ h hb => h.trans (hb.mono h.size)) (CD.out _))))
    refine wpQuiet_nil ?_
    rintro _ ⟨q2, rfl⟩
    have HB2 := Lib.hid q2.ok
    generalize q2.w = w2 at *
    go_wp2
    go_returns
    exact ⟨by rw [HE.out] <;> rfl, HB2.out⟩
  have heq := str_eq17 (a := X) (b := D) (ba_ext17 (by rw [← HD.out]; exact hx4))
  by_cases hl4 : s.size < p + 4 + n
  · have HE : Hid (f = 0) := HN.out.trans (if_neg fun h => by have := HS.out; omega)
    have hl4' : (s.size : Int) < (p : Int) + 4 + (n : Int) := by omega
    have hd4 : decide ((s.size : Int) < (p : Int) + 4 + (n : Int)) = true := decide_eq_true hl4'
    clear hn1 hn2 HN hn hx4 hl4
    go_enter Tryd.func26, Tryd.ntmps26
    go_wp2
    refine wp_region_of (fun w' => Below w.heap.size w w') (by kernel_rfl) (Region.lexB_of_fast (by kernel_rfl)) HB0.out.drew ?_
    repeat (go_big_quiet_step (fail))
    refine wpQuiet_nil ?_
    rintro _ ⟨q, rfl⟩
    have HB1 := Lib.hid q.ok
    generalize q.w = w1 at *
    clear q1 q2 q3 q4 r1 hsa hsb i0 i1 i2 i3 h0 h1
    go_wp2
    refine wp_region_of (fun w' => Below w.heap.size w w') (by kernel_rfl) (Region.lexB_of_fast (by kernel_rfl)) HB1.out.drew ?_
    repeat (go_big_quiet_step (first | (go_at_call 18; exact Calls.of_below (fun _ _ h hb => h.trans (hb.mono h.size)) (CD.out _))))
    refine wpQuiet_nil ?_
    rintro _ ⟨q2, rfl⟩
    have HB2 := Lib.hid q2.ok
    generalize q2.w = w2 at *
    go_wp2
    go_returns
    exact ⟨by rw [HE.out] <;> rfl, HB2.out⟩
  · have HE : Hid (f = n) := HN.out.trans (if_pos ⟨by omega, by omega, hx4, by have := HS.out; omega⟩)
    have hl4' : ¬ (s.size : Int) < (p : Int) + 4 + (n : Int) := by omega
    have hd4 : decide ((s.size : Int) < (p : Int) + 4 + (n : Int)) = false := decide_eq_false hl4'
    clear hn1 hn2 HN hn hx4 hl4
    go_enter Tryd.func26, Tryd.ntmps26
    go_wp2
    refine wp_region_of (fun w' => Below w.heap.size w w') (by kernel_rfl) (Region.lexB_of_fast (by kernel_rfl)) HB0.out.drew ?_
    repeat (go_big_quiet_step (fail))
    refine wpQuiet_nil ?_
    rintro _ ⟨q, rfl⟩
    have HB1 := Lib.hid q.ok
    generalize q.w = w1 at *
    clear q1 q2 q3 q4 r1 hsa hsb i0 i1 i2 i3 h0 h1
    go_wp2
    refine wp_region_of (fun w' => Below w.heap.size w w') (by kernel_rfl) (Region.lexB_of_fast (by kernel_rfl)) HB1.out.drew ?_
    repeat (go_big_quiet_step (first | (go_at_call 18; exact Calls.of_below (fun _ _ h hb => h.trans (hb.mono h.size)) (CD.out _))))
    refine wpQuiet_nil ?_
    rintro _ ⟨q2, rfl⟩
    have HB2 := Lib.hid q2.ok
    generalize q2.w = w2 at *
    go_wp2
    go_returns
    exact ⟨by rw [HE.out] <;> rfl, HB2.out⟩
end Go.Proofs.YtoobajcpfonllaaDoor
