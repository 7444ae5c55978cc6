/-
  THE WALKS of the laws ChecksumSums and ChecksumContinues.
-/
import Derived.Test.YtmgglbnadkkedaaDoorCkLaid
namespace Go.Proofs.YtmgglbnadkkedaaDoor
open Go.RowKit Go.Wr Go.Ck

set_option maxRecDepth 100000 in
set_option maxHeartbeats 2000000 in
theorem checksumSums_walk0 (s : ByteArray) (hs : s.size ≤ 140737488351232) (W : World) (hl : LaidFacts W) :
    Calls Tryd.prog 3 #[.string s] W fun e w' => e = .returned (.bool true) ∧ Below W.heap.size W w' := by
  have AW := Lib.hid awake_any
  have HT := Lib.hid hl
  have c1 := Lib.hid (sum32_any s W hs hl)
  have c2 := Lib.hid (refSum32_any s W hs)
  have c3 := Lib.hid (sum8_any s W hs hl.t8)
  have c4 := Lib.hid (refSum8_any s W hs)
  have c5 := Lib.hid (seal_any s W hs hl)
  have c6 := Lib.hid (fun w => refSeal_any s w hs)
  clear hl hs
  by_cases h3 : (3000 : Int) < s.size
  · go_enter Tryd.func3, Tryd.ntmps3
    go_wp2_with (go_at_call 9; refine (AW.out _ HT.out).mono ?_; rintro e w1 ⟨rfl, hb1⟩)
    go_returns
    exact ⟨rfl, hb1⟩
  · go_enter Tryd.func3, Tryd.ntmps3
    go_wp2_with (first
      | (go_at_call 10; refine c1.out.mono ?_; rintro e w' ⟨rfl, rfl⟩)
      | (go_at_call 11; refine c2.out.mono ?_; rintro e w' ⟨rfl, rfl⟩)
      | (go_at_call 12; refine c3.out.mono ?_; rintro e w' ⟨rfl, rfl⟩)
      | (go_at_call 13; refine c4.out.mono ?_; rintro e w' ⟨rfl, rfl⟩)
      | (go_at_call 14; refine c5.out.mono ?_; rintro e w1 ⟨rfl, hb1⟩; have B1 := Lib.hid hb1; clear hb1)
      | (go_at_call 15; refine (c6.out _).mono ?_; rintro e w2 ⟨rfl, hb2⟩; have B2 := Lib.hid (B1.out.trans (hb2.mono B1.out.size)); clear hb2)
      | (go_at_call 9; refine (AW.out _ (HT.out.below B2.out)).mono ?_; rintro e w3 ⟨rfl, hb3⟩; have B3 := Lib.hid (B2.out.trans (hb3.mono B2.out.size)); clear hb3))
    go_returns
    exact ⟨rfl, B3.out⟩

theorem nat_of_u32 {a : Int} (h : (Lit.int .u32 a).wf = true) : ∃ n : Nat, a = n ∧ n < 4294967296 := by
  simp [Lit.wf, IntKind.min, IntKind.max, IntKind.signed, IntKind.bits] at h
  exact ⟨a.toNat, by omega, by omega⟩

set_option maxRecDepth 100000 in
set_option maxHeartbeats 2000000 in
theorem checksumContinues_walk0 (a : Int) (ha : (Lit.int .u32 a).wf = true) (s : ByteArray) (hs : s.size ≤ 140737488351232) (W : World) (hl : LaidFacts W) :
    Calls Tryd.prog 4 #[.int .u32 a, .string s] W fun e w' => e = .returned (.bool true) ∧ Below W.heap.size W w' := by
  obtain ⟨n, rfl, hn⟩ := nat_of_u32 ha
  clear ha
  have AW := Lib.hid awake_any
  have HT := Lib.hid hl
  have c1 := Lib.hid (add_any n s W hn hs hl.t32)
  have c2 := Lib.hid (refAdd_any n s W hn hs)
  clear hl hs
  by_cases h3 : (3000 : Int) < s.size
  · go_enter Tryd.func4, Tryd.ntmps4
    go_wp2_with (go_at_call 9; refine (AW.out _ HT.out).mono ?_; rintro e w1 ⟨rfl, hb1⟩)
    go_returns
    exact ⟨rfl, hb1⟩
  · go_enter Tryd.func4, Tryd.ntmps4
    go_wp2_with (first
      | (go_at_call 16; refine c1.out.mono ?_; rintro e w' ⟨rfl, rfl⟩)
      | (go_at_call 17; refine c2.out.mono ?_; rintro e w' ⟨rfl, rfl⟩)
      | (go_at_call 9; refine (AW.out _ HT.out).mono ?_; rintro e w3 ⟨rfl, hb3⟩))
    go_returns
    exact ⟨rfl, hb3⟩
end Go.Proofs.YtmgglbnadkkedaaDoor
