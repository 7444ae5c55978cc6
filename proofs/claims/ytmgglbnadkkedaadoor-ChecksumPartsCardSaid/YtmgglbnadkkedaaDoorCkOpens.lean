/-
  THE WALKS of the laws ChecksumOpens and ChecksumParts.
-/
import Derived.Test.YtmgglbnadkkedaaDoorCkLaid
namespace Go.Proofs.YtmgglbnadkkedaaDoor
open Go.RowKit Go.Wr Go.Ck

/-- Open and the reference's Open answer the same pair. -/
theorem open_both (s : ByteArray) (hs : s.size ≤ 140737488351232) : ∃ (t : ByteArray) (c : Int),
    (∀ w, Tabs w → Calls Tryd.prog 18 #[.string s] w fun e w' => e = .returned (.tuple #[.string t, .int .i64 c]) ∧ Below w.heap.size w w') ∧
    (∀ w, Calls Tryd.prog 19 #[.string s] w fun e w' => e = .returned (.tuple #[.string t, .int .i64 c]) ∧ Below w.heap.size w w') := by
  by_cases h4 : s.size < 4
  · exact ⟨_, _, fun w _ => open_short s w h4, fun w => refOpen_short s w h4⟩
  · exact ⟨_, _, fun w hw => open_long s (s.size - 4) _ w hw (by omega) hs rfl, fun w => refOpen_long s (s.size - 4) _ w (by omega) hs rfl⟩

set_option maxRecDepth 100000 in
set_option maxHeartbeats 2000000 in
theorem checksumOpens_walk0 (s : ByteArray) (hs : s.size ≤ 140737488351232) (W : World) (hl : LaidFacts W) :
    Calls Tryd.prog 5 #[.string s] W fun e w' => e = .returned (.bool true) ∧ Below W.heap.size W w' := by
  obtain ⟨t, c, h1, h2⟩ := open_both s hs
  have AW := Lib.hid awake_any
  have HT := Lib.hid hl
  have c1 := Lib.hid (h1 W hl)
  have c2 := Lib.hid h2
  clear hl hs h1 h2
  by_cases h3 : (3000 : Int) < s.size
  · go_enter Tryd.func5, Tryd.ntmps5
    go_wp2_with (go_at_call 9; refine (AW.out _ HT.out).mono ?_; rintro e w1 ⟨rfl, hb1⟩)
    go_returns
    exact ⟨rfl, hb1⟩
  · go_enter Tryd.func5, Tryd.ntmps5
    go_wp2_with (first
      | (go_at_call 18; refine c1.out.mono ?_; rintro e w1 ⟨rfl, hb1⟩; have B1 := Lib.hid hb1; clear hb1)
      | (go_at_call 19; refine (c2.out _).mono ?_; rintro e w2 ⟨rfl, hb2⟩; have B2 := Lib.hid (B1.out.trans (hb2.mono B1.out.size)); clear hb2)
      | (go_at_call 9; refine (AW.out _ (HT.out.below B2.out)).mono ?_; rintro e w3 ⟨rfl, hb3⟩; have B3 := Lib.hid (B2.out.trans (hb3.mono B2.out.size)); clear hb3))
    go_returns
    exact ⟨rfl, B3.out⟩

/-- A string, cut in two where the second part begins. -/
theorem extract_left (a t : ByteArray) : (a ++ t).extract 0 a.size = a := by
  apply ByteArray.ext
  simp
theorem extract_right (a t : ByteArray) : (a ++ t).extract a.size (a ++ t).size = t := by
  apply ByteArray.ext
  have e1 : a.data.extract a.data.size (a.data.size + t.data.size) = #[] := Array.eq_empty_of_size_eq_zero (by rw [Array.size_extract]; omega)
  have e2 : t.data.extract 0 t.data.size = t.data := Array.extract_size
  simp
  show a.data.extract a.data.size (a.data.size + t.data.size) ++ t.data.extract 0 t.data.size = t.data
  rw [e1, e2, Array.empty_append]

theorem sealed_opened (a : ByteArray) (ha : a.size ≤ 100000) (w : World) (ht : Tabs w) :
    Calls Tryd.prog 18 #[.string ⟨(a.data.toList ++ le (crc a.data.toList) 4).toArray⟩] w fun e w' => e = .returned (.tuple #[.string a, .int .i64 0]) ∧ Below w.heap.size w w' := by
  have e1 := str_snoc a (le (crc a.data.toList) 4)
  have hsz : (a ++ (⟨(le (crc a.data.toList) 4).toArray⟩ : ByteArray)).size = a.size + 4 := by
    rw [ByteArray.size_append]
    show a.size + (le (crc a.data.toList) 4).toArray.size = _
    rw [List.size_toArray, le_len]
  have := open_long (a ++ ⟨(le (crc a.data.toList) 4).toArray⟩) a.size true w ht hsz (by omega) (by rw [extract_right, extract_left, beq_self_eq_true])
  rw [extract_left, e1] at this
  exact this

set_option maxRecDepth 100000 in
set_option maxHeartbeats 2000000 in
theorem checksumParts_walk0 (a : ByteArray) (ha : a.size ≤ 140737488351232) (b : ByteArray) (hb : b.size ≤ 140737488351232) (W : World) (hl : LaidFacts W) :
    Calls Tryd.prog 6 #[.string a, .string b] W fun e w' => e = .returned (.bool true) ∧ Below W.heap.size W w' := by
  have AW := Lib.hid awake_any
  have HT := Lib.hid hl
  by_cases h3 : (3000 : Int) < a.size
  · clear ha hb hl
    go_enter Tryd.func6, Tryd.ntmps6
    go_wp2_with (go_at_call 9; refine (AW.out _ HT.out).mono ?_; rintro e w1 ⟨rfl, hb1⟩)
    go_returns
    exact ⟨rfl, hb1⟩
  by_cases h4 : (3000 : Int) < b.size
  · clear ha hb hl
    go_enter Tryd.func6, Tryd.ntmps6
    go_wp2_with (go_at_call 9; refine (AW.out _ HT.out).mono ?_; rintro e w1 ⟨rfl, hb1⟩)
    go_returns
    exact ⟨rfl, hb1⟩
  have hab : (a ++ b).size = a.size + b.size := ByteArray.size_append ..
  have hadd : ∀ W, (Op.stringOp .add a b).run Tryd.prog W = .ok (.string (a ++ b)) W := fun W => run_string_add_sum (P := Tryd.prog) W a b (by omega)
  have c1 := Lib.hid (seal_any a W ha hl)
  have c2 := Lib.hid (sealed_opened a (by omega))
  have c3 : Hid (∀ w, Tabs w → Calls Tryd.prog 10 #[.string a] w fun e w' => e = .returned (.int .u32 (crc a.data.toList : Int)) ∧ w = w') := fun w hw => sum32_any a w ha hw
  have c4 : Hid (∀ w, Tabs w → Calls Tryd.prog 16 #[.int .u32 (crc a.data.toList : Int), .string b] w fun e w' => e = .returned (.int .u32 (crc (a ++ b).data.toList : Int)) ∧ w = w') := fun w hw => by
    have := add_any (crc a.data.toList) b w (crc_lt _) hb hw.t32
    rw [crc_parts] at this
    rw [show (a ++ b).data.toList = a.data.toList ++ b.data.toList by simp]
    exact this
  have c5 : Hid (∀ w, Tabs w → Calls Tryd.prog 10 #[.string (a ++ b)] w fun e w' => e = .returned (.int .u32 (crc (a ++ b).data.toList : Int)) ∧ w = w') := fun w hw => sum32_any (a ++ b) w (by omega) hw
  have c6 : Hid (∀ w, Tabs w → Calls Tryd.prog 16 #[.int .u32 0, .string a] w fun e w' => e = .returned (.int .u32 (crc a.data.toList : Int)) ∧ w = w') := fun w hw => by
    have := add_any 0 a w (by decide) ha hw.t32
    rw [Nat.zero_xor] at this
    exact this
  clear hl ha hb hab
  generalize a ++ b = ab at hadd c4 c5
  generalize (⟨(a.data.toList ++ le (crc a.data.toList) 4).toArray⟩ : ByteArray) = sl at c1 c2
  generalize crc a.data.toList = ca at c1 c2 c3 c4 c6
  generalize crc ab.data.toList = cab at c4 c5
  go_enter Tryd.func6, Tryd.ntmps6
  go_wp2_with (first
    | (go_at_call 14; refine c1.out.mono ?_; rintro e w1 ⟨rfl, hb1⟩; have B1 := Lib.hid hb1; clear hb1)
    | (go_at_call 18; refine (c2.out _ (HT.out.below B1.out)).mono ?_; rintro e w2 ⟨rfl, hb2⟩; have B2 := Lib.hid (B1.out.trans (hb2.mono B1.out.size)); clear hb2; have T2 := Lib.hid (HT.out.below B2.out))
    | (go_at_call 10; with_reducible refine (c3.out _ T2.out).mono ?_; rintro e w' ⟨rfl, rfl⟩)
    | (go_at_call 10; with_reducible refine (c5.out _ T2.out).mono ?_; rintro e w' ⟨rfl, rfl⟩)
    | (go_at_call 16; with_reducible refine (c4.out _ T2.out).mono ?_; rintro e w' ⟨rfl, rfl⟩)
    | (go_at_call 16; with_reducible refine (c6.out _ T2.out).mono ?_; rintro e w' ⟨rfl, rfl⟩)
    | (go_at_call 9; refine (AW.out _ T2.out).mono ?_; rintro e w3 ⟨rfl, hb3⟩; have B3 := Lib.hid (B2.out.trans (hb3.mono B2.out.size)); clear hb3))
  go_returns
  exact ⟨rfl, B3.out⟩
end Go.Proofs.YtmgglbnadkkedaaDoor
