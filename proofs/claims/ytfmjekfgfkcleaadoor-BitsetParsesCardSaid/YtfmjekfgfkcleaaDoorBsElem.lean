/-
  WALKS of strings.Cut at the separator ',' and of bitset.element: a word spells an element just where it is the decimal numeral of a number from 0 to 63.
-/
import Derived.Test.YtfmjekfgfkcleaaDoorBsWalks
import Derived.Test.YtfmjekfgfkcleaaDoorShelf
namespace Go.Proofs.YtfmjekfgfkcleaaDoor
open Go.RowKit Go.Bs

/-- The place of the first ',' ('-1': none). -/
def cma (l : List UInt8) : Int := Lib.indexByte l 44
theorem cma_lt : ∀ l : List UInt8, -1 ≤ cma l ∧ cma l < l.length
  | [] => by simp [cma, Lib.indexByte]
  | b :: l => by
    have := cma_lt l
    unfold cma at *
    simp only [Lib.indexByte]
    split
    · simp
    · split <;> simp <;> omega

set_option maxHeartbeats 400000 in
theorem cutIn_any (s : ByteArray) (w : World) (hs : s.size ≤ 9223372036854775806) :
    Calls Tryd.prog 48 #[.string s, .string ⟨#[44]⟩] w fun e w' => (∃ n, w' = w.drewN n) ∧
      ((cma s.data.toList = -1 ∧ e = .returned (.tuple #[.string s, .string ByteArray.empty, .bool false])) ∨
       ∃ i : Nat, cma s.data.toList = i ∧ i < s.size ∧ e = .returned (.tuple #[.string (s.extract 0 i), .string (s.extract (i + 1) s.size), .bool true])) := by
  have hl := cma_lt s.data.toList
  have e0 : s.data.toList.length = s.size := Array.length_toList
  rw [e0] at hl
  by_cases hm : cma s.data.toList = -1
  · have H := Lib.hid hm
    have hI : Calls Tryd.prog 53 #[.string s, .string ⟨#[44]⟩] w fun e w' => e = .returned (.int .i64 (-1)) ∧ w' = w := by
      have := Tryd.stringslite_Index_one s 44 w; rw [show Lib.indexByte s.data.toList 44 = -1 from hm] at this; exact this
    clear hm hl e0
    go_enter Tryd.func48, Tryd.ntmps48
    go_wp2_with (go_at_call 53; refine hI.mono ?_; rintro e w' ⟨rfl, rfl⟩)
    go_ret3
    exact ⟨⟨0, rfl⟩, .inl ⟨H.out, rfl⟩⟩
  · obtain ⟨i, hi⟩ : ∃ i : Nat, cma s.data.toList = i := ⟨(cma s.data.toList).toNat, by omega⟩
    have H := Lib.hid hi
    have hlt : i < s.size := by omega
    have hI : Calls Tryd.prog 53 #[.string s, .string ⟨#[44]⟩] w fun e w' => e = .returned (.int .i64 i) ∧ w' = w := by
      have := Tryd.stringslite_Index_one s 44 w; rw [show Lib.indexByte s.data.toList 44 = i from hi] at this; exact this
    clear hi hl e0 hm
    have c1 : (0 : Int) ≤ ↑i := by omega
    have c2 : (↑i : Int) ≤ ↑s.size := by omega
    have c3 : (0 : Int) ≤ ↑i + 1 := by omega
    have c4 : (↑i + 1 : Int) ≤ ↑s.size := by omega
    go_enter Tryd.func48, Tryd.ntmps48
    go_wp2_with (go_at_call 53; refine hI.mono ?_; rintro e w' ⟨rfl, rfl⟩)
    go_region
    all_goals go_wp2
    all_goals go_ret3
    all_goals exact ⟨⟨1, rfl⟩, .inr ⟨i, H.out, hlt, rfl⟩⟩

set_option maxHeartbeats 400000 in
theorem cut_any (s : ByteArray) (w : World) (hs : s.size ≤ 9223372036854775806) :
    Calls Tryd.prog 40 #[.string s, .string ⟨#[44]⟩] w fun e w' => (∃ n, w' = w.drewN n) ∧
      ((cma s.data.toList = -1 ∧ e = .returned (.tuple #[.string s, .string ByteArray.empty, .bool false])) ∨
       ∃ i : Nat, cma s.data.toList = i ∧ i < s.size ∧ e = .returned (.tuple #[.string (s.extract 0 i), .string (s.extract (i + 1) s.size), .bool true])) := by
  have hI := cutIn_any s w hs
  go_enter Tryd.func40, Tryd.ntmps40
  go_wp2_with (go_at_call 48; refine hI.mono ?_; rintro e w' ⟨⟨n, rfl⟩, ⟨h1, rfl⟩ | ⟨i, h1, h2, rfl⟩⟩)
  · go_ret3
    exact ⟨⟨n, rfl⟩, .inl ⟨h1, rfl⟩⟩
  · go_ret3
    exact ⟨⟨n, rfl⟩, .inr ⟨i, h1, h2, rfl⟩⟩

/-- The element that a word spells. -/
def elm (l : List UInt8) : Option Nat :=
  match Lib.atoiAll l with
  | .ok v => if 0 ≤ v ∧ v < 64 ∧ Lib.decDigits v.toNat = l then some v.toNat else none
  | _ => none

/-- What the variables ErrSyntax and ErrRange hold: an interface value. -/
structure ErrVars (w : World) : Prop where
  syn : ∃ te pe, w.cell? ⟨3, 0, none⟩ = some (.iface te pe)
  rng : ∃ te pe, w.cell? ⟨4, 0, none⟩ = some (.iface te pe)
  hi : 3 < w.heap.size ∧ 4 < w.heap.size

theorem ErrVars.below {w w' : World} (h : ErrVars w) (hb : Below w.heap.size w w') : ErrVars w' := by
  obtain ⟨⟨t0, p0, h0⟩, ⟨t1, p1, h1⟩, h2, h3⟩ := h
  exact ⟨⟨t0, p0, (hb.cell h2).trans h0⟩, ⟨t1, p1, (hb.cell h3).trans h1⟩, Nat.lt_of_lt_of_le h2 hb.size, Nat.lt_of_lt_of_le h3 hb.size⟩

theorem atoi_any (s : ByteArray) (w : World) (hs : s.size ≤ 281474976710656) (hv : ErrVars w) :
    Calls Tryd.prog 49 #[.string s] w fun e w' => Below w.heap.size w w' ∧
      ((∃ v : Int, Lib.atoiAll s.data.toList = .ok v ∧ e = .returned (.tuple #[.int .i64 v, .nilIface])) ∨
       ((∀ v, Lib.atoiAll s.data.toList ≠ .ok v) ∧ ∃ (v : Int) (t : TypeId) (x : Value), e = .returned (.tuple #[.int .i64 v, .iface t x]))) := by
  obtain ⟨⟨t0, p0, h0⟩, ⟨t1, p1, h1⟩, -, -⟩ := hv
  cases ha : Lib.atoiAll s.data.toList
  · rename_i v
    refine (Tryd.strconv_Atoi_ok s (by omega) v ha w).mono ?_
    rintro e w' ⟨rfl, hw⟩
    refine ⟨?_, .inl ⟨v, rfl, rfl⟩⟩
    rcases hw with rfl | ⟨t, rfl⟩
    · exact Below.refl _ _
    · exact Lib.bytesWorld_below _ _ _
  · refine (Any.strconv_Atoi_syntax Tryd.laysC172 s hs ha _ w h0 (.inr ⟨_, _, rfl⟩)).mono ?_
    rintro e w' ⟨N, rfl, _, _, hb⟩
    exact ⟨hb, .inr ⟨(fun _ h => by cases h), _, _, _, rfl⟩⟩
  · refine (Any.strconv_Atoi_range Tryd.laysC172 s hs ha _ w h1 (.inr ⟨_, _, rfl⟩)).mono ?_
    rintro e w' ⟨N, rfl, _, _, hb⟩
    exact ⟨hb, .inr ⟨(fun _ h => by cases h), _, _, _, rfl⟩⟩

/-- What element answers. -/
def ElemPost (l : List UInt8) (w : World) (e : Ending) (w' : World) : Prop :=
  Below w.heap.size w w' ∧ ((elm l = none ∧ e = .returned (.tuple #[.int .i64 0, .bool false])) ∨ ∃ v : Nat, elm l = some v ∧ v < 64 ∧ e = .returned (.tuple #[.int .i64 v, .bool true]))

theorem elm_ok {l : List UInt8} {v : Int} (h : Lib.atoiAll l = .ok v) : elm l = if 0 ≤ v ∧ v < 64 ∧ Lib.decDigits v.toNat = l then some v.toNat else none := by unfold elm; rw [h]
theorem elm_no {l : List UInt8} (h : ∀ v, Lib.atoiAll l ≠ .ok v) : elm l = none := by
  unfold elm
  split
  · exact absurd ‹_› (h _)
  · rfl

set_option maxHeartbeats 400000 in
theorem element_any (s : ByteArray) (w : World) (hs : s.size ≤ 281474976710656) (hv : ErrVars w) :
    Calls Tryd.prog 41 #[.string s] w fun e w' => ElemPost s.data.toList w e w' := by
  have hA := atoi_any s w hs hv
  clear hv hs
  by_cases hok : ∃ v, Lib.atoiAll s.data.toList = .ok v
  · obtain ⟨v, hok⟩ := hok
    have hA : Calls Tryd.prog 49 #[.string s] w fun e w' => Below w.heap.size w w' ∧ e = .returned (.tuple #[.int .i64 v, .nilIface]) := hA.mono fun e w' h => by
      obtain ⟨hb, ⟨v', h1, h2⟩ | ⟨h1, _⟩⟩ := h
      · rw [hok] at h1; cases h1; exact ⟨hb, h2⟩
      · exact absurd hok (h1 v)
    have HE := Lib.hid (elm_ok hok)
    clear hok
    by_cases hv0 : 0 ≤ v
    · by_cases hv1 : v < 64
      · obtain ⟨k, rfl⟩ : ∃ k : Nat, v = k := ⟨v.toNat, by omega⟩
        have hI : ∀ w, Calls Tryd.prog 38 #[.int .i64 k] w fun e w' => e = .returned (.string ⟨(Lib.decDigits k).toArray⟩) ∧ w = w' := fun w => (Tryd.strconv_Itoa_small k (by omega) w).mono fun e w' h => ⟨h.1, h.2.symm⟩
        by_cases hd : Lib.decDigits k = s.data.toList
        · have hs : (⟨(Lib.decDigits k).toArray⟩ : ByteArray) = s := by rw [hd]
          rw [hs] at hI
          have HN : Hid (elm s.data.toList = some k) := by unfold Hid; rw [HE.out, if_pos ⟨hv0, hv1, hd⟩]; rfl
          clear hd hs HE
          go_enter Tryd.func41, Tryd.ntmps41
          go_wp2_with (first | (go_at_call 49; refine hA.mono ?_; rintro e w' ⟨hb, rfl⟩) | (go_at_call 38; refine (hI _).mono ?_; rintro e w' ⟨rfl, rfl⟩) | go_in)
          go_ret2
          exact ⟨hb, .inr ⟨k, HN.out, by omega, rfl⟩⟩
        · have HN : Hid (elm s.data.toList = none) := by unfold Hid; rw [HE.out, if_neg (fun h => hd h.2.2)]
          obtain ⟨t, ht⟩ : ∃ t : ByteArray, t = ⟨(Lib.decDigits k).toArray⟩ := ⟨_, rfl⟩
          rw [← ht] at hI
          have hne : (!t.toList == s.toList) = true := by
            rw [Lib.toList_data, Lib.toList_data, ht]
            simpa using hd
          clear hd ht HE
          go_enter Tryd.func41, Tryd.ntmps41
          go_wp2_with (first | (go_at_call 49; refine hA.mono ?_; rintro e w' ⟨hb, rfl⟩) | (go_at_call 38; refine (hI _).mono ?_; rintro e w' ⟨rfl, rfl⟩) | go_in)
          go_ret2
          exact ⟨hb, .inl ⟨HN.out, rfl⟩⟩
      · have HN : Hid (elm s.data.toList = none) := by unfold Hid; rw [HE.out, if_neg (by omega)]
        clear HE
        go_enter Tryd.func41, Tryd.ntmps41
        go_wp2_with (first | (go_at_call 49; refine hA.mono ?_; rintro e w' ⟨hb, rfl⟩) | go_in)
        go_ret2
        exact ⟨hb, .inl ⟨HN.out, rfl⟩⟩
    · have HN : Hid (elm s.data.toList = none) := by unfold Hid; rw [HE.out, if_neg (by omega)]
      clear HE
      go_enter Tryd.func41, Tryd.ntmps41
      go_wp2_with (first | (go_at_call 49; refine hA.mono ?_; rintro e w' ⟨hb, rfl⟩) | go_in)
      go_ret2
      exact ⟨hb, .inl ⟨HN.out, rfl⟩⟩
  · have hno : ∀ v, Lib.atoiAll s.data.toList ≠ .ok v := fun v h => hok ⟨v, h⟩
    have HN := Lib.hid (elm_no hno)
    have hA : Calls Tryd.prog 49 #[.string s] w fun e w' => Below w.heap.size w w' ∧ ∃ (v : Int) (t : TypeId) (x : Value), e = .returned (.tuple #[.int .i64 v, .iface t x]) := hA.mono fun e w' h => by
      obtain ⟨hb, ⟨v', h1, h2⟩ | ⟨h1, h2⟩⟩ := h
      · exact absurd h1 (hno v')
      · exact ⟨hb, h2⟩
    clear hok hno
    go_enter Tryd.func41, Tryd.ntmps41
    go_wp2_with (go_at_call 49; refine hA.mono ?_; rintro e w' ⟨hb, v, t, x, rfl⟩)
    go_ret2
    exact ⟨hb, .inl ⟨HN.out, rfl⟩⟩
end Go.Proofs.YtfmjekfgfkcleaaDoor
