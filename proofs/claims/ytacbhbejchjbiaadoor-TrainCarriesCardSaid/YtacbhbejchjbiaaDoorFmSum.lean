/-
  WALKS of Sum32, trailer, Seal, Open, for seats that do not reach Sum8 (layer 12 and later ones).
-/
import Derived.Test.YtacbhbejchjbiaaDoorCkAdd
namespace Go.Proofs.YtacbhbejchjbiaaDoor
open Go.RowKit Go.Wr Go.Ck

/-- The table lies in its variable. -/
structure CkTab (w : World) : Prop where
  t32 : ∀ i, i < 16 → w.cell? ⟨2, i, none⟩ = some (.int .u32 (tab i : Int))
  l32 : 2 < w.heap.size
theorem CkTab.below {w w' : World} {B : Nat} (h : CkTab w) (hb : Below B w w') (hB : w.heap.size ≤ B) : CkTab w' :=
  ⟨fun i hi => (hb.cell (p := ⟨2, i, none⟩) (Nat.lt_of_lt_of_le h.l32 hB)).trans (h.t32 i hi), Nat.lt_of_lt_of_le h.l32 hb.size⟩

set_option maxHeartbeats 400000 in
theorem sum32_any (s : ByteArray) (w : World) (hs : s.size ≤ 140737488351232) (ht : CkTab w) :
    Calls Tryd.prog 54 #[.string s] w fun e w' => e = .returned (.int .u32 (crc s.data.toList : Int)) ∧ w = w' := by
  have h := add32_any 0 s w (by decide) hs ht.t32
  rw [Nat.zero_xor] at h
  have H : Hid (Calls Tryd.prog 57 #[.int .u32 0, .string s] w fun e w' => e = .returned (.int .u32 (crc s.data.toList : Int)) ∧ w = w') := h
  clear h ht
  go_enter Tryd.func54, Tryd.ntmps54
  go_wp2_with (go_at_call 57; refine H.out.mono ?_; rintro e w' ⟨rfl, rfl⟩)
  go_returns
  exact ⟨rfl, rfl⟩

set_option maxRecDepth 100000 in
set_option maxHeartbeats 2000000 in
theorem trailer_any (s : ByteArray) (w : World) (hs : s.size ≤ 140737488351232) (ht : CkTab w) :
    Calls Tryd.prog 37 #[.string s] w fun e w' => e = .returned (.string ⟨(le (crc s.data.toList) 4).toArray⟩) ∧ Below w.heap.size w w' := by
  have HS : Hid (Calls Tryd.prog 54 #[.string s] w fun e w' => e = .returned (.int .u32 (crc s.data.toList : Int)) ∧ w = w') := sum32_any s w hs ht
  have hn := crc_lt s.data.toList
  generalize crc s.data.toList = n at hn HS ⊢
  have hcv := last_conv n hn w.heap.size (w.alloc (.cells #[.int .u8 ((n : Int) % 256), .int .u8 ((n : Int) / 256 % 256), .int .u8 ((n : Int) / 65536 % 256), .int .u8 ((n : Int) / 16777216)] 5)) (by simp) (by simp) (by simp) (by simp)
  clear ht hs
  go_enter Tryd.func37, Tryd.ntmps37
  go_wp2_with (go_at_call 54; refine HS.out.mono ?_; rintro e w' ⟨rfl, rfl⟩)
  go_returns
  exact ⟨rfl, (Below.refl _ _).alloc (Nat.le_refl _) _⟩

set_option maxHeartbeats 400000 in
theorem seal_any (s : ByteArray) (w : World) (hs : s.size ≤ 140737488351232) (ht : CkTab w) :
    Calls Tryd.prog 14 #[.string s] w fun e w' => e = .returned (.string ⟨(s.data.toList ++ le (crc s.data.toList) 4).toArray⟩) ∧ Below w.heap.size w w' := by
  have hadd : ∀ W, (Op.stringOp .add s ⟨(le (crc s.data.toList) 4).toArray⟩).run Tryd.prog W = .ok (.string ⟨(s.data.toList ++ le (crc s.data.toList) 4).toArray⟩) W := fun W => by
    rw [← str_snoc]
    refine run_string_add_sum (P := Tryd.prog) W s _ ?_
    show s.size + (le (crc s.data.toList) 4).toArray.size ≤ _
    rw [List.size_toArray, le_len]; omega
  have HL : Hid (Calls Tryd.prog 37 #[.string s] w fun e w' => e = .returned (.string ⟨(le (crc s.data.toList) 4).toArray⟩) ∧ Below w.heap.size w w') := trailer_any s w hs ht
  clear ht
  go_enter Tryd.func14, Tryd.ntmps14
  go_wp2_with (go_at_call 37; refine HL.out.mono ?_; rintro e w1 ⟨rfl, hb⟩)
  go_returns
  exact ⟨rfl, hb⟩

set_option maxHeartbeats 400000 in
theorem open_short (s : ByteArray) (w : World) (hs : s.size < 4) :
    Calls Tryd.prog 19 #[.string s] w fun e w' => e = .returned (.tuple #[.string ⟨#[]⟩, .int .i64 1]) ∧ Below w.heap.size w w' := by
  have h : (s.size : Int) < 4 := by omega
  clear hs
  go_enter Tryd.func19, Tryd.ntmps19
  go_wp2
  go_returns
  exact ⟨rfl, Below.refl _ _⟩

set_option maxRecDepth 100000 in
set_option maxHeartbeats 2000000 in
theorem open_long (s : ByteArray) (n : Nat) (b : Bool) (w : World) (ht : CkTab w) (hn : s.size = n + 4) (hs : s.size ≤ 140737488351232)
    (hb : ((s.extract n s.size).toList == (⟨(le (crc (s.extract 0 n).data.toList) 4).toArray⟩ : ByteArray).toList) = b) :
    Calls Tryd.prog 19 #[.string s] w fun e w' => e = .returned (.tuple #[.string (if b then s.extract 0 n else ⟨#[]⟩), .int .i64 (if b then 0 else 5)]) ∧ Below w.heap.size w w' := by
  have h4 : ¬ (s.size : Int) < 4 := by omega
  have hsz : (s.size : Int) - 4 = n := by omega
  have hle : (n : Int) ≤ s.size := by omega
  have hw64 : wrap64 (n : Int) = n := IntWalk.wrap64_in _ (by omega)
  have hsl1 := sliceFrom s n (by omega)
  have hsl2 := sliceTo s n (by omega)
  have hU : (s.extract 0 n).size ≤ 140737488351232 := by simp; omega
  obtain ⟨U, hUe⟩ : ∃ U, U = s.extract 0 n := ⟨_, rfl⟩
  rw [← hUe] at hb hU ⊢
  have HL : Hid (∀ W, CkTab W → Calls Tryd.prog 37 #[.string (s.extract 0 n)] W fun e w' => e = .returned (.string ⟨(le (crc U.data.toList) 4).toArray⟩) ∧ Below W.heap.size W w') := fun W hW => by rw [← hUe]; exact trailer_any U W hU hW
  have HU := Lib.hid hUe
  generalize crc U.data.toList = c at hb HL
  generalize (⟨(le c 4).toArray⟩ : ByteArray) = V at hb HL
  have HT := Lib.hid (And.intro ht (ht.below (Below.refl _ _).drew (Nat.le_refl _)))
  clear hn hs hU hUe ht
  go_enter Tryd.func19, Tryd.ntmps19
  cases b
  all_goals
    go_wp2
    go_region_with (go_at_call 37; refine (HL.out _ ?ht).mono ?_; (case ht => first | exact HT.out.1 | exact HT.out.2); rintro e w1 ⟨rfl, hb1⟩)
    all_goals
      have hbw : Below w.heap.size w w1 := (Below.refl _ _).drew.trans hb1
      clear hb1
      go_wp2
      go_returns
      exact ⟨by first | rfl | (rw [HU.out]; rfl), hbw⟩

end Go.Proofs.YtacbhbejchjbiaaDoor
