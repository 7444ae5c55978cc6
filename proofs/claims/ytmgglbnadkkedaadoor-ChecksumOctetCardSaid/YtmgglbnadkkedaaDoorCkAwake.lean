/-
  THE WALK of the examples that every law of layer 3 ends with.
-/
import Derived.Test.YtmgglbnadkkedaaDoorCkSeal
namespace Go.Proofs.YtmgglbnadkkedaaDoor
open Go.RowKit Go.Wr Go.Ck

theorem crc9 : crc (⟨#[49, 50, 51, 52, 53, 54, 55, 56, 57]⟩ : ByteArray).data.toList = 3421780262 := by decide +kernel
theorem crc0 : crc8 (⟨#[0]⟩ : ByteArray).data.toList = 12 := by decide +kernel
theorem seala : (⟨((⟨#[97]⟩ : ByteArray).data.toList ++ le (crc (⟨#[97]⟩ : ByteArray).data.toList) 4).toArray⟩ : ByteArray) = ⟨#[97, 67, 190, 183, 232]⟩ := by decide +kernel

set_option maxRecDepth 100000 in
set_option maxHeartbeats 2000000 in
theorem awake_any (w : World) (ht : Tabs w) :
    Calls Tryd.prog 9 #[] w fun e w' => e = .returned (.bool true) ∧ Below w.heap.size w w' := by
  have O1 : Hid (∀ W, Tabs W → Calls Tryd.prog 18 #[.string ⟨#[97, 67, 190, 183, 232]⟩] W fun e w' => e = .returned (.tuple #[.string ⟨#[97]⟩, .int .i64 0]) ∧ Below W.heap.size W w') := fun W hW =>
    (open_long ⟨#[97, 67, 190, 183, 232]⟩ 1 true W hW (by decide) (by decide) (by decide +kernel)).mono fun e w' h => ⟨h.1, h.2⟩
  have O2 : Hid (∀ W, Calls Tryd.prog 18 #[.string ⟨#[97, 98, 99]⟩] W fun e w' => e = .returned (.tuple #[.string ⟨#[]⟩, .int .i64 1]) ∧ Below W.heap.size W w') := fun W => open_short ⟨#[97, 98, 99]⟩ W (by decide)
  have O3 : Hid (∀ W, Tabs W → Calls Tryd.prog 18 #[.string ⟨#[97, 67, 190, 183, 233]⟩] W fun e w' => e = .returned (.tuple #[.string ⟨#[]⟩, .int .i64 5]) ∧ Below W.heap.size W w') := fun W hW =>
    (open_long ⟨#[97, 67, 190, 183, 233]⟩ 1 false W hW (by decide) (by decide) (by decide +kernel)).mono fun e w' h => ⟨h.1, h.2⟩
  have S1 : Hid (∀ W, Tabs W → Calls Tryd.prog 10 #[.string ⟨#[49, 50, 51, 52, 53, 54, 55, 56, 57]⟩] W fun e w' => e = .returned (.int .u32 3421780262) ∧ W = w') := fun W hW => by
    have := sum32_any ⟨#[49, 50, 51, 52, 53, 54, 55, 56, 57]⟩ W (by decide) hW
    rw [crc9] at this; exact this
  have S2 : Hid (∀ W, Tabs W → Calls Tryd.prog 12 #[.string ⟨#[0]⟩] W fun e w' => e = .returned (.int .u8 12) ∧ W = w') := fun W hW => by
    have := sum8_any ⟨#[0]⟩ W (by decide) hW.t8
    rw [crc0] at this; exact this
  have S3 : Hid (∀ W, Tabs W → Calls Tryd.prog 14 #[.string ⟨#[97]⟩] W fun e w' => e = .returned (.string ⟨#[97, 67, 190, 183, 232]⟩) ∧ Below W.heap.size W w') := fun W hW => by
    have := seal_any ⟨#[97]⟩ W (by decide) hW
    rw [seala] at this; exact this
  have HT := Lib.hid ht
  clear ht
  go_enter Tryd.func9, Tryd.ntmps9
  go_wp2_with fail
  refine (O1.out _ HT.out).mono ?_
  rintro e w1 ⟨rfl, hb⟩
  have HT1 := Lib.hid (HT.out.below hb)
  have B1 := Lib.hid hb
  clear hb HT O1
  go_wp2_with fail
  refine (O2.out _).mono ?_
  rintro e w2 ⟨rfl, hb⟩
  have HT2 := Lib.hid (HT1.out.below hb)
  have B2 := Lib.hid (B1.out.trans (hb.mono B1.out.size))
  clear hb HT1 B1 O2
  go_wp2_with fail
  refine (O3.out _ HT2.out).mono ?_
  rintro e w3 ⟨rfl, hb⟩
  have HT3 := Lib.hid (HT2.out.below hb)
  have B3 := Lib.hid (B2.out.trans (hb.mono B2.out.size))
  clear hb HT2 B2 O3
  go_wp2_with (first
    | (go_at_call 10; refine (S1.out _ HT3.out).mono ?_; rintro e w' ⟨rfl, rfl⟩)
    | (go_at_call 12; refine (S2.out _ HT3.out).mono ?_; rintro e w' ⟨rfl, rfl⟩)
    | (go_at_call 14; refine (S3.out _ HT3.out).mono ?_; rintro e w4 ⟨rfl, hb4⟩)
    | fail)
  go_returns
  exact ⟨rfl, B3.out.trans (hb4.mono B3.out.size)⟩
end Go.Proofs.YtmgglbnadkkedaaDoor
