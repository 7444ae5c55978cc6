/-
  WHAT THE PROGRAM's FUNCTIONS OF LAYER 9 DO, as the laws' walks ask it: a structure of contracts (XElDone proves it over the landed code); the examples that every law ends with.
-/
import Derived.Test.YthkmhmjhcjgbbaaElRef3
namespace Go.Proofs.Ythkmhmjhcjgbbaa
open Go.RowKit Go.Em El_

structure Does : Prop where
  check_any : ∀ (l : List El) (sa : Option Addr) (c : Nat) (w : World) (_ : Sl w sa l c) (_ : sz l),
    Calls Try.prog 12 #[.slice sa l.length c] w fun e w' => e = .returned (.int .i64 (chk l)) ∧ Below w.heap.size w w'
  encode_any : ∀ (l : List El) (sa : Option Addr) (c : Nat) (w : World) (_ : Sl w sa l c) (_ : sz l),
    Calls Try.prog 10 #[.slice sa l.length c] w fun e w' => e = .returned (.tuple #[.string (enc l), .int .i64 (chk l)]) ∧ Below w.heap.size w w'
  decode_any : ∀ (s : ByteArray) (w : World) (_ : s.size ≤ 10000),
    Calls Try.prog 14 #[.string s] w fun e w' => DecPost s w e w'
  find_any : ∀ (l : List El) (sa : Option Addr) (c : Nat) (id : Int) (w : World) (_ : Sl w sa l c) (_ : sz l) (_ : (Lit.int .i64 id).wf = true),
    Calls Try.prog 17 #[.slice sa l.length c, .int .i64 id] w fun e w' => e = .returned (.tuple #[.string (fnd l id).1, .bool (fnd l id).2]) ∧ Below w.heap.size w w'
  with_any : ∀ (l : List El) (sa : Option Addr) (c : Nat) (e : El) (w : World) (_ : Sl w sa l c) (_ : sz l) (_ : l.length ≤ 100) (_ : (Lit.int .i64 e.id).wf = true) (_ : e.s.size ≤ 20000),
    Calls Try.prog 19 #[.slice sa l.length c, v e] w fun r w' => WithPost l e w r w'

def l1 : List El := [⟨3, ⟨#[120]⟩⟩, ⟨0, ⟨#[]⟩⟩]
def e1 : El := ⟨3, ⟨#[121, 122]⟩⟩
def s1 : ByteArray := ⟨#[3, 1, 120, 0, 0]⟩
def s2 : ByteArray := ⟨#[3, 1]⟩
def l2 : List El := [⟨256, ⟨#[]⟩⟩]
theorem enc1 : enc l1 = ⟨#[3, 1, 120, 0, 0]⟩ ∧ chk l1 = 0 := ⟨ba_ext (by decide), by decide⟩
theorem dec1 : dec s1 = (l1, 0) := by
  have h := dec_enc enc1.2
  rwa [enc1.1] at h
theorem dec2 : (dec s2).2 = 1 := by decide
theorem wth1 : fnd (wth l1 e1) 3 = (⟨#[121, 122]⟩, true) := wth_self l1 e1
theorem sz1 : sz l1 := ⟨by decide, fun e he => by simp [l1] at he; rcases he with rfl | rfl <;> decide⟩
theorem sz2 : sz l2 := ⟨by decide, fun e he => by simp [l2] at he; subst he; decide⟩

set_option maxRecDepth 100000 in
set_option maxHeartbeats 2000000 in
theorem awake_any (D : Does) (w : World) : Calls Try.prog 9 #[] w fun e w' => e = .returned (.bool true) ∧ Below w.heap.size w w' := by
  obtain ⟨w1, hw1⟩ : ∃ w1, w1 = w.alloc (.cells #[.int .i64 3, .string ⟨#[120]⟩, .int .i64 0, .string ⟨#[]⟩] 35) := ⟨_, rfl⟩
  have S1 : Sl w1 (some ⟨w.heap.size, 0, none⟩) l1 2 := by rw [hw1]; exact sl_lit w l1 (by decide)
  have B1 : Below w.heap.size w w1 := by rw [hw1]; exact (Below.refl _ _).alloc (Nat.le_refl _) _
  have C1 := Lib.hid (D.encode_any l1 _ 2 w1 S1 sz1)
  have C2 := Lib.hid (fun w => D.decode_any s1 w (by decide))
  have C3 := Lib.hid (fun w => D.decode_any s2 w (by decide))
  have C4 := Lib.hid (fun w h => D.with_any l1 (some ⟨w1.heap.size - 1, 0, none⟩) 2 e1 w h sz1 (by decide) (by decide) (by decide))
  have C5 := Lib.hid (fun sa c w h => D.find_any (wth l1 e1) sa c 3 w h (wth_sz sz1 (by decide) (by decide)) (by decide))
  have C6 := Lib.hid (fun sa c w h => D.check_any l2 sa c w h sz2)
  rw [enc1.1, enc1.2] at C1
  rw [wth1] at C5
  rw [show chk l2 = 4 from by decide] at C6
  have Z1 : w1.heap.size - 1 = w.heap.size := by rw [hw1]; simp
  rw [Z1] at C4
  go_enter Try.func9, Try.ntmps9
  go_wp2_with fail
  rw [← hw1]
  refine C1.out.mono ?_
  rintro e w2 ⟨rfl, hb⟩
  have S2 := Lib.hid (S1.below hb)
  have B2 := Lib.hid (B1.trans (hb.mono B1.size))
  clear hb B1 S1 C1 hw1 Z1
  go_wp2_with fail
  refine (C2.out _).mono ?_
  rintro e w3 ⟨v3, c3, rfl, hs3, hb⟩
  rw [dec1] at hs3
  rw [dec1]
  have S3 := Lib.hid (S2.out.below hb)
  have D3 := Lib.hid hs3
  have B3 := Lib.hid (B2.out.trans (hb.mono B2.out.size))
  clear hb S2 B2 hs3 C2
  go_wp2_with fail
  refine (C3.out _).mono ?_
  rintro e w4 ⟨v4, c4, rfl, hs4, hb⟩
  rw [dec2]
  have S4 := Lib.hid (S3.out.below hb)
  have D4 := Lib.hid (D3.out.below hb)
  have B4 := Lib.hid (B3.out.trans (hb.mono B3.out.size))
  clear hb S3 B3 hs4 C3 D3
  go_wp2_with fail
  refine (C4.out _ S4.out).mono ?_
  rintro e w5 ⟨v5, c5, rfl, hs5, hb⟩
  have S5 := Lib.hid (S4.out.below hb)
  have D5 := Lib.hid (D4.out.below hb)
  have E5 := Lib.hid hs5
  have B5 := Lib.hid (B4.out.trans (hb.mono B4.out.size))
  clear hb S4 B4 hs5 C4 D4
  go_wp2_with fail
  refine (C5.out _ _ _ E5.out).mono ?_
  rintro e w6 ⟨rfl, hb⟩
  have S6 := Lib.hid (S5.out.below hb)
  have D6 := Lib.hid (D5.out.below hb)
  have B6 := Lib.hid (B5.out.trans (hb.mono B5.out.size))
  clear hb S5 B5 E5 C5 D5
  go_wp2_with fail
  refine (refSame_any l1 _ _ _ _ w6 (by decide) S6.out.lies D6.out.lies).mono ?_
  rintro e w7 ⟨rfl, hb⟩
  have B7 := Lib.hid (B6.out.trans (hb.mono B6.out.size))
  clear hb S6 B6 D6
  go_wp2_with fail
  refine (C6.out _ _ _ (sl_lit w7 l2 (by decide))).mono ?_
  rintro e w8 ⟨rfl, hb⟩
  have B8 := Lib.hid ((B7.out.alloc B7.out.size _).trans (hb.mono (Nat.le_trans B7.out.size (by simp))))
  clear hb B7 C6
  go_wp2
  go_returns
  exact ⟨rfl, B8.out⟩
end Go.Proofs.Ythkmhmjhcjgbbaa
