/-
  THE WALK of the examples that every law of layer 2 ends with: they hold; what was there is as it was.
-/
import Derived.Test.YtekdfcbkpljllaaWrGet
import Derived.Test.YtekdfcbkpljllaaWrDone
namespace Go.Proofs.Ytekdfcbkpljllaa
open Go.RowKit Go.Wr

theorem le258 : le 258 2 = [2, 1] := by decide +kernel
theorem val258 : val ((⟨#[2, 1, 7]⟩ : ByteArray).extract 0 2).data.toList = 258 := by decide +kernel
theorem ext7 : (⟨#[2, 1, 7]⟩ : ByteArray).extract 2 (⟨#[2, 1, 7]⟩ : ByteArray).size = ⟨#[7]⟩ := by decide +kernel

/-- The zero Writer. -/
theorem Wr.zero (w : World) (b : Nat) (h : b = w.heap.size) : Wr (w.alloc (.cells #[.int .i64 0, .pointer none, .string ⟨#[]⟩] 30)) b [] :=
  ⟨none, ⟨#[]⟩, [], Blk.new w b _ _ h, .nil, rfl⟩
theorem Wr.but {w w' : World} {b g : Nat} {L : List UInt8} (h : Wr w b L) (hb : But g w w') (hg : w.heap.size ≤ g) : Wr w' b L :=
  h.below ⟨hb.os, hb.tape, hb.output, hb.size, fun k hk => hb.block k hk (by omega)⟩

set_option maxRecDepth 100000 in
set_option maxHeartbeats 2000000 in
theorem lives_any (w : World) :
    Calls Try.prog 9 #[] w fun e w' => e = .returned (.bool true) ∧ Below w.heap.size w w' := by
  have H0 := Lib.hid (Wr.zero w w.heap.size rfl)
  have B0 : Hid (Below w.heap.size w (w.alloc (.cells #[.int .i64 0, .pointer none, .string ⟨#[]⟩] 30))) := (Below.refl _ _).alloc (Nat.le_refl _) _
  go_enter Try.func9, Try.ntmps9
  go_wp2_with fail
  refine (put_ok w.heap.size [] 258 2 _ H0.out (by decide) (by decide) (by decide) (by decide)).mono ?_
  rintro e w1 ⟨rfl, hw, hbut⟩
  rw [le258, List.nil_append] at hw
  have H1 := Lib.hid hw
  have B1 := Lib.hid (B0.out.trans (hbut.below (B := w.heap.size) (by simp) (Nat.le_refl _)))
  clear hw hbut H0 B0
  generalize hbs : w.heap.size = b at *
  go_wp2_with fail
  refine (text_ok b [2, 1] ⟨#[7]⟩ _ H1.out (by decide)).mono ?_
  rintro e w2 ⟨rfl, hw, hbut⟩
  have H2 : Hid (Wr w2 b [2, 1, 7]) := hw
  have B2 := Lib.hid (B1.out.trans (hbut.below (B := b) (by have := H1.out.lt; omega) (Nat.le_refl _)))
  clear hw hbut H1 B1
  go_wp2_with fail
  refine (done_ok b [2, 1, 7] _ H2.out (by decide)).mono ?_
  rintro e w3 ⟨rfl, hbel⟩
  have H3 := Lib.hid (H2.out.below hbel)
  have B3 := Lib.hid (B2.out.trans (hbel.mono (Nat.le_of_lt H2.out.lt)))
  clear hbel H2 B2
  go_wp2_with fail
  refine (new_any ⟨#[2, 1, 7]⟩ _).mono ?_
  rintro e w4 ⟨rfl, hw⟩
  have R4 : Hid (Rd w4 w3.heap.size 0 ⟨#[2, 1, 7]⟩) := by rw [← hw]; exact Blk.new _ _ _ _ rfl
  have hbel : Below w3.heap.size w3 w4 := by rw [← hw]; exact (Below.refl _ _).alloc (Nat.le_refl _) _
  have H4 := Lib.hid (H3.out.below hbel)
  have B4 := Lib.hid (B3.out.trans (hbel.mono (Nat.le_of_lt H3.out.lt)))
  have hne : b < w3.heap.size := H3.out.lt
  have HN := Lib.hid hne
  clear hw hbel hne H3 B3
  generalize w3.heap.size = r at *
  go_wp2_with fail
  refine (num_ok r ⟨#[2, 1, 7]⟩ 2 _ R4.out (by decide) (by decide) (by decide)).mono ?_
  rw [val258, ext7]
  rintro e w5 ⟨rfl, hw⟩
  have R5 : Hid (Rd w5 r 0 ⟨#[7]⟩) := by rw [← hw]; exact R4.out.setS _
  have hbut : But r w4 w5 := by rw [← hw]; exact But.set1 _ _ _ _
  have C5 : Hid (w5.cell? ⟨b, 0, none⟩ = some (.int .i64 0) ∧ w5.frozen? ⟨b, 0, none⟩ = false) := by
    rw [← hw]; exact ⟨(World.cell?_setCell_other _ _ _ _ (by simp)).trans H4.out.c0, (World.frozen?_setCell _ _ _ _).trans (H4.out.f 0)⟩
  have B5 := Lib.hid (B4.out.trans (hbut.below (B := b) (by have := H4.out.lt; omega) (Nat.le_of_lt HN.out)))
  clear hw hbut H4 R4 B4
  go_wp2_with (first | (go_at_call 16; refine (left_ok r ⟨#[7]⟩ _ R5.out).mono ?_; rintro e w' ⟨rfl, rfl⟩) | (go_at_call 18; refine (end_ok r ⟨#[7]⟩ _ R5.out).mono ?_; rw [if_pos (by decide)]; rintro e w' ⟨rfl, rfl⟩) | fail)
  refine (rest_ok r ⟨#[7]⟩ _ R5.out).mono ?_
  rintro e w6 ⟨rfl, hw⟩
  have R6 : Hid (Rd w6 r 0 ⟨#[]⟩) := by rw [← hw]; exact R5.out.setS _
  have hbut : But r w5 w6 := by rw [← hw]; exact But.set1 _ _ _ _
  have c6 : w6.cell? ⟨b, 0, none⟩ = some (.int .i64 0) := by rw [← hw]; exact (World.cell?_setCell_other _ _ _ _ (by simp)).trans C5.out.1
  have f6 : w6.frozen? ⟨b, 0, none⟩ = false := by rw [← hw]; exact (World.frozen?_setCell _ _ _ _).trans C5.out.2
  have B6 := Lib.hid (B5.out.trans (hbut.below (B := b) (by have := R5.out.lt; have := HN.out; omega) (Nat.le_of_lt HN.out)))
  have C6 := Lib.hid c6
  have F6 := Lib.hid f6
  clear hw hbut R5 C5 B5 c6 f6
  go_wp2_with (first | (go_at_call 18; refine (end_ok r ⟨#[]⟩ _ R6.out).mono ?_; rw [if_neg (by decide)]; rintro e w' ⟨rfl, rfl⟩) | fail)
  refine (put_big b 256 1 _ C6.out F6.out (by decide) (by decide) (by decide)).mono ?_
  rintro e w7 ⟨rfl, hw⟩
  have c7 : w7.cell? ⟨b, 0, none⟩ = some (.int .i64 4) := by rw [← hw]; exact World.cell?_setCell_same _ _ _ C6.out
  have R7 : Rd w7 r 0 ⟨#[]⟩ := by rw [← hw]; exact Blk.setOther R6.out (by have := HN.out; simp; omega) _
  have B7 := Lib.hid (show Below b w w7 by rw [← hw]; exact B6.out.setCell (Nat.le_refl _) _)
  have C7 := Lib.hid c7
  have R7' := Lib.hid R7
  clear hw R6 C6 F6 B6 c7 R7
  go_wp2_with fail
  refine (done_bad b 4 _ C7.out rfl).mono ?_
  rintro e w8 ⟨rfl, hbel⟩
  have R8 := Lib.hid (show Rd w8 r 0 ⟨#[]⟩ from Blk.of_block R7'.out (hbel.block r R7'.out.lt))
  have B8 := Lib.hid (B7.out.trans (hbel.mono (by have := R7'.out.lt; have := HN.out; omega)))
  clear hbel R7' B7 C7
  go_wp2_with fail
  refine (take_short r ⟨#[]⟩ 1 _ R8.out (by decide)).mono ?_
  rintro e w9 ⟨rfl, hw⟩
  have R9 := Lib.hid (show Rd w9 r 1 ⟨#[]⟩ by rw [← hw]; exact R8.out.setE _)
  have B9 := Lib.hid (show Below b w w9 by rw [← hw]; exact B8.out.setCell (Nat.le_of_lt HN.out) _)
  clear hw R8 B8
  go_wp2_with (first | (go_at_call 17; refine (err_any r 1 _ R9.out.c0).mono ?_; rintro e w' ⟨rfl, rfl⟩) | fail)
  go_returns
  exact ⟨rfl, by rw [hbs]; exact B9.out⟩
end Go.Proofs.Ytekdfcbkpljllaa
