/-
  THE WALK of the law ChecksumDetects.
-/
import Derived.Test.YtmgglbnadkkedaaDoorCkLaid
import Derived.Test.YtmgglbnadkkedaaDoorCkFlip
namespace Go.Proofs.YtmgglbnadkkedaaDoor
open Go.RowKit Go.Wr Go.Ck

theorem nat_of_u32' {a : Int} (h : (Lit.int .u32 a).wf = true) : ∃ n : Nat, a = n ∧ n < 4294967296 := by
  simp [Lit.wf, IntKind.min, IntKind.max, IntKind.signed, IntKind.bits] at h
  exact ⟨a.toNat, by omega, by omega⟩
theorem nat_of_u16 {a : Int} (h : (Lit.int .u16 a).wf = true) : ∃ n : Nat, a = n ∧ n < 65536 := by
  simp [Lit.wf, IntKind.min, IntKind.max, IntKind.signed, IntKind.bits] at h
  exact ⟨a.toNat, by omega, by omega⟩

theorem extract_take (l : List UInt8) (n : Nat) : ((⟨l.toArray⟩ : ByteArray).extract 0 n).data.toList = l.take n := by simp
theorem extract_drop (l : List UInt8) (n : Nat) : ((⟨l.toArray⟩ : ByteArray).extract n (⟨l.toArray⟩ : ByteArray).size).data.toList = l.drop n := by
  have : (⟨l.toArray⟩ : ByteArray).size = l.length := List.size_toArray
  rw [this]
  simp [List.take_of_length_le]

/-- A sealed string with bits changed is no sealed string. -/
theorem flipped_false (L : List UInt8) (n p : Nat) (hp : p < 4294967296) (hn : n < 8 * (L.length + 4)) (h : flps (L ++ le (crc L) 4) n p 32 ≠ L ++ le (crc L) 4) (T : List UInt8) (hT : T = flps (L ++ le (crc L) 4) n p 32) :
    (((⟨T.toArray⟩ : ByteArray).extract L.length (⟨T.toArray⟩ : ByteArray).size).toList == (⟨(le (crc ((⟨T.toArray⟩ : ByteArray).extract 0 L.length).data.toList) 4).toArray⟩ : ByteArray).toList) = false := by
  have hd := flips_detected L n p hp hn h
  rw [← hT] at hd
  rw [ByteArray.toList_eq, ByteArray.toList_eq, extract_drop, extract_take]
  simpa using hd

set_option maxRecDepth 100000 in
set_option maxHeartbeats 2000000 in
theorem checksumDetects_walk0 (s : ByteArray) (hs : s.size ≤ 140737488351232) (a : Int) (ha : (Lit.int .u16 a).wf = true) (p0 : Int) (hp0 : (Lit.int .u32 p0).wf = true) (W : World) (hl : LaidFacts W) :
    Calls Tryd.prog 7 #[.string s, .int .u16 a, .int .u32 p0] W fun e w' => e = .returned (.bool true) ∧ Below W.heap.size W w' := by
  obtain ⟨n, rfl, hn⟩ := nat_of_u16 ha
  obtain ⟨p, rfl, hp⟩ := nat_of_u32' hp0
  clear ha hp0
  have AW := Lib.hid awake_any
  have HT := Lib.hid hl
  by_cases h3 : (1000 : Int) < s.size
  · clear hn hp hs hl
    go_enter Tryd.func7, Tryd.ntmps7
    go_wp2_with (go_at_call 9; refine (AW.out _ HT.out).mono ?_; rintro e w1 ⟨rfl, hb1⟩)
    go_returns
    exact ⟨rfl, hb1⟩
  have c1 := Lib.hid (seal_any s W hs hl)
  have hLl : s.data.toList.length = s.size := Array.length_toList
  obtain ⟨L, hL⟩ : ∃ L, L = s.data.toList := ⟨_, rfl⟩
  rw [← hL] at c1 hLl
  obtain ⟨Q, hQ⟩ : ∃ Q : ByteArray, Q = ⟨(L ++ le (crc L) 4).toArray⟩ := ⟨_, rfl⟩
  have hQl : Q.data.toList = L ++ le (crc L) 4 := by rw [hQ]
  have hQs : Q.size = s.size + 4 := by
    rw [hQ]
    show (L ++ le (crc L) 4).toArray.size = _
    rw [List.size_toArray, List.length_append, le_len, hLl]
  rw [← hQ] at c1
  obtain ⟨k, hk⟩ : ∃ k, k = n % (8 * Q.size) := ⟨_, rfl⟩
  have hkl : k < 8 * Q.size := by rw [hk]; exact Nat.mod_lt _ (by omega)
  obtain ⟨T, hT⟩ : ∃ T, T = flps Q.data.toList k p 32 := ⟨_, rfl⟩
  have c2 : Hid (∀ w, Calls Tryd.prog 20 #[.string Q, .int .i64 k, .int .u32 p] w fun e w' => e = .returned (.string ⟨T.toArray⟩) ∧ Below w.heap.size w w') := fun w => by rw [hT]; exact flipped_any Q k p w (by omega) hkl hp
  have hq : (Q.size : Int) = (s.size : Int) + 4 := by omega
  have hw : IntKind.i64.wrap ((s.size : Int) + 4) = s.size + 4 := IntWalk.i64_in _ (by omega)
  have hw8 : IntKind.i64.wrap (8 * ((s.size : Int) + 4)) = 8 * ((s.size : Int) + 4) := IntWalk.i64_in _ (by omega)
  have hrem : (Go.RowKit.wrap64 (n : Int)).tmod (8 * ((s.size : Int) + 4)) = (k : Int) := by
    rw [IntWalk.wrap64_in _ (by omega), Int.tmod_eq_emod_of_nonneg (by omega), hk, hQs]; simp
  have hne : ¬ (8 * ((s.size : Int) + 4)) = 0 := by omega
  by_cases hTQ : T = Q.data.toList
  · have hcmp : ((⟨T.toArray⟩ : ByteArray).toList == Q.toList) = true := by rw [ByteArray.toList_eq, ByteArray.toList_eq, hTQ]; simp
    clear hs hl hL hQ hQl hT hTQ hk hkl hn hp hLl
    clear hQs
    generalize (⟨T.toArray⟩ : ByteArray) = t at *
    go_enter Tryd.func7, Tryd.ntmps7
    go_wp2_with (first
      | (go_at_call 14; refine c1.out.mono ?_; rintro e w1 ⟨rfl, hb1⟩; have B1 := Lib.hid hb1; clear hb1)
      | (go_at_call 20; refine (c2.out _).mono ?_; rintro e w2 ⟨rfl, hb2⟩; have B2 := Lib.hid (B1.out.trans (hb2.mono B1.out.size)); clear hb2)
      | (go_at_call 9; refine (AW.out _ (HT.out.below B2.out)).mono ?_; rintro e w3 ⟨rfl, hb3⟩; have B3 := Lib.hid (B2.out.trans (hb3.mono B2.out.size)); clear hb3))
    go_returns
    exact ⟨rfl, B3.out⟩
  · have hcmp : ((⟨T.toArray⟩ : ByteArray).toList == Q.toList) = false := by rw [ByteArray.toList_eq, ByteArray.toList_eq]; simpa using hTQ
    have hTl : (⟨T.toArray⟩ : ByteArray).size = L.length + 4 := by
      show T.toArray.size = _
      rw [List.size_toArray, hT, flps_len, hQl, List.length_append, le_len]
    have c3 : Hid (∀ w, Tabs w → Calls Tryd.prog 18 #[.string ⟨T.toArray⟩] w fun e w' => e = .returned (.tuple #[.string ⟨#[]⟩, .int .i64 5]) ∧ Below w.heap.size w w') := fun w hw =>
      open_long ⟨T.toArray⟩ L.length false w hw hTl (by omega) (flipped_false L k p hp (by omega) (by rw [← hQl, ← hT]; exact hTQ) T (by rw [hT, hQl]))
    clear hs hl hL hQ hQl hT hTQ hk hkl hn hp hLl hTl
    clear hQs
    generalize (⟨T.toArray⟩ : ByteArray) = t at *
    go_enter Tryd.func7, Tryd.ntmps7
    go_wp2_with (first
      | (go_at_call 14; refine c1.out.mono ?_; rintro e w1 ⟨rfl, hb1⟩; have B1 := Lib.hid hb1; clear hb1)
      | (go_at_call 20; refine (c2.out _).mono ?_; rintro e w2 ⟨rfl, hb2⟩; have B2 := Lib.hid (B1.out.trans (hb2.mono B1.out.size)); clear hb2)
      | (go_at_call 18; refine (c3.out _ (HT.out.below B2.out)).mono ?_; rintro e w3 ⟨rfl, hb3⟩; have B3 := Lib.hid (B2.out.trans (hb3.mono B2.out.size)); clear hb3)
      | (go_at_call 9; refine (AW.out _ (HT.out.below B3.out)).mono ?_; rintro e w4 ⟨rfl, hb4⟩; have B4 := Lib.hid (B3.out.trans (hb4.mono B3.out.size)); clear hb4))
    go_returns
    exact ⟨rfl, B4.out⟩
end Go.Proofs.YtmgglbnadkkedaaDoor
