/-
  THE WALK of the example that every law of layer 20 ends with.
-/
import Derived.Test.YteffmfloopkmoaaRoCmp
import Derived.Test.YteffmfloopkmoaaRoFl
namespace Go.Proofs.Yteffmfloopkmoaa
open Go.RowKit Go.Ro Go.Sq Go.Wr
attribute [local go_sem ↓ high] Rw_.loadF Rw_.storeF Rw_.v_cells Rw_.v_match
attribute [local go_sem] Rw_.C0 Rw_.C1 Rw_.C2 Rw_.loadF_new Rw_.storeF_zero Oper.semAt_some

def xa20 : ByteArray := ⟨#[97]⟩
def xb20 : ByteArray := ⟨#[98]⟩
def xc20 : ByteArray := ⟨#[99]⟩
def xo20 : ByteArray := ⟨#[111, 108, 100]⟩
def b0 : Bf := ⟨0, 4, []⟩
def b1 : Bf := ⟨0, 4, [⟨1, xb20⟩]⟩
def b2 : Bf := ⟨2, 4, []⟩
def b3 : Bf := ⟨4, 4, [⟨7, xc20⟩]⟩
theorem ex_1 : put b0 1 xb20 = (b1, 1, []) := by kernel_rfl
theorem ex_2 : put b1 0 xa20 = (b2, 1, [xa20, xb20]) := by kernel_rfl
theorem ex_3 : put b2 7 xc20 = (b3, 2, []) := by kernel_rfl
theorem ex_4 : put b3 2 xo20 = (b3, 0, []) := by kernel_rfl
theorem ok_b0 : Ok b0 := (chk_ok b0).1 (by kernel_rfl)
theorem ok_b1 : Ok b1 := (chk_ok b1).1 (by kernel_rfl)
theorem ok_b2 : Ok b2 := (chk_ok b2).1 (by kernel_rfl)
theorem ok_b3 : Ok b3 := (chk_ok b3).1 (by kernel_rfl)
theorem new_04 : new 0 4 = (b0, 0) := by kernel_rfl
theorem new_40 : new 4096 4 = (⟨0, 0, []⟩, 4) := by kernel_rfl

/-- What a Put handed back is kept in a variable's cell. -/
theorem keep_row {w wi w5 : World} {x x' : Rw} {b : Bf} {B : Nat} (hB : w.heap.size ≤ B) (hbel : Below w.heap.size w wi) (hbx : Rw_.Box wi B x) (hL : Lies w5 x' b) (hb : Below wi.heap.size wi w5) (f1 : Fresh wi x'.sa) :
    (Rw_.StoreF ⟨B, 0, none⟩ (Rw_.v x')).run Try.prog w5 = .ok () (w5.setRow B (Rw_.C x')) ∧ Rw_.Box (w5.setRow B (Rw_.C x')) B x' ∧ Lies (w5.setRow B (Rw_.C x')) x' b ∧ Below w.heap.size w (w5.setRow B (Rw_.C x')) := by
  have h5 := hbx.below hb hbx.lt
  have hlt := hbx.lt
  exact ⟨h5.storeF x', h5.setRow x', lies_row hL (fun bb off e => by have := f1 bb off e; omega), below_row (hbel.trans (hb.mono hbel.size)) hB _⟩

set_option maxRecDepth 100000 in
set_option maxHeartbeats 4000000 in
theorem lives20_any (w : World) : Calls Try.prog 8 #[] w fun e w' => e = .returned (.bool true) ∧ Below w.heap.size w w' := by
  have N1 : Hid (∀ W, Calls Try.prog 7 #[.int .i64 0, .int .i64 4] W fun e w' => e = .returned (.tuple #[Rw_.v ⟨0, 4, none, 0, 0⟩, .int .i64 0]) ∧ Below W.heap.size W w') := fun W => by
    have h := ro_new_any 0 4 W
    unfold NewPost at h
    rw [new_04] at h
    exact h
  have N2 : Hid (∀ W, Calls Try.prog 7 #[.int .i64 4096, .int .i64 4] W fun e w' => e = .returned (.tuple #[Rw_.v zr, .int .i64 4]) ∧ Below W.heap.size W w') := fun W => by
    have h := ro_new_any 4096 4 W
    unfold NewPost at h
    rw [new_40] at h
    exact h
  have P1 : Hid (∀ x W, Lies W x b0 → Calls Try.prog 17 #[Rw_.v x, .int .i64 1, .string ⟨#[98]⟩] W fun e w' => ∃ x' sa c, e = .returned (.tuple #[Rw_.v x', .int .i64 1, .slice sa 0 c]) ∧ Lies w' x' b1 ∧ Ss_.Sl w' sa [] c ∧ Below W.heap.size W w' ∧ Fresh W x'.sa ∧ Fresh W sa) := fun x W h => by
    have c := ro_put_any x b0 1 xb20 W h ok_b0 (by decide)
    unfold PutPost at c
    rw [ex_1] at c
    exact c
  have P2 : Hid (∀ x W, Lies W x b1 → Calls Try.prog 17 #[Rw_.v x, .int .i64 0, .string ⟨#[97]⟩] W fun e w' => ∃ x' sa c, e = .returned (.tuple #[Rw_.v x', .int .i64 1, .slice sa 2 c]) ∧ Lies w' x' b2 ∧ Ss_.Sl w' sa [xa20, xb20] c ∧ Below W.heap.size W w' ∧ Fresh W x'.sa ∧ Fresh W sa) := fun x W h => by
    have c := ro_put_any x b1 0 xa20 W h ok_b1 (by decide)
    unfold PutPost at c
    rw [ex_2] at c
    exact c
  have P3 : Hid (∀ x W, Lies W x b2 → Calls Try.prog 17 #[Rw_.v x, .int .i64 7, .string ⟨#[99]⟩] W fun e w' => ∃ x' sa c, e = .returned (.tuple #[Rw_.v x', .int .i64 2, .slice sa 0 c]) ∧ Lies w' x' b3 ∧ Ss_.Sl w' sa [] c ∧ Below W.heap.size W w' ∧ Fresh W x'.sa ∧ Fresh W sa) := fun x W h => by
    have c := ro_put_any x b2 7 xc20 W h ok_b2 (by decide)
    unfold PutPost at c
    rw [ex_3] at c
    exact c
  have P4 : Hid (∀ x W, Lies W x b3 → Calls Try.prog 17 #[Rw_.v x, .int .i64 2, .string ⟨#[111, 108, 100]⟩] W fun e w' => ∃ x' sa c, e = .returned (.tuple #[Rw_.v x', .int .i64 0, .slice sa 0 c]) ∧ Lies w' x' b3 ∧ Ss_.Sl w' sa [] c ∧ Below W.heap.size W w' ∧ Fresh W x'.sa ∧ Fresh W sa) := fun x W h => by
    have c := ro_put_any x b3 2 xo20 W h ok_b3 (by decide)
    unfold PutPost at c
    rw [ex_4] at c
    exact c
  have CS : Hid (∀ (W : World) v0 c, Ss_.Sl W v0 [xa20, xb20] c → Calls Try.prog 23 #[.slice v0 2 c, .slice (some ⟨W.heap.size, 0, none⟩) 2 2] (W.alloc (.cells #[.string ⟨#[97]⟩, .string ⟨#[98]⟩] 9)) fun e w' => e = .returned (.bool true) ∧ Below W.heap.size W w') := fun W v0 c h => by
    have hb : Below W.heap.size W (W.alloc (.cells #[.string ⟨#[97]⟩, .string ⟨#[98]⟩] 9)) := (Below.refl _ _).alloc (Nat.le_refl _) _
    have c := r_sameData_any [xa20, xb20] v0 (some ⟨W.heap.size, 0, none⟩) c 2 _ (h.below hb) (Ss_.sl_lit W [xa20, xb20] (by unfold maxLen; decide)) (by decide)
    exact c.mono fun e w' q => ⟨q.1, hb.trans (q.2.mono (by simp))⟩
  have q2 : b2.st = 2 := rfl
  have q3 : b3.st = 4 := rfl
  go_enter Try.func8, Try.ntmps8
  go_wp2_with fail
  refine (N1.out w).mono ?_
  rintro e w1 ⟨rfl, h1⟩
  obtain ⟨w2, hw2⟩ : ∃ w2, w1.alloc (.cells (Rw_.C ⟨0, 4, none, 0, 0⟩) 25) = w2 := ⟨_, rfl⟩
  have hz := Rw_.storeF_zero w1 ⟨0, 4, none, 0, 0⟩
  rw [hw2] at hz
  have X2 := Lib.hid (show Rw_.Box w2 w1.heap.size ⟨0, 4, none, 0, 0⟩ from hw2 ▸ Rw_.Box.new w1 _)
  have B2 := Lib.hid (show Below w.heap.size w w2 from h1.trans ((show Below w1.heap.size w1 w2 from hw2 ▸ (Below.refl _ _).alloc (Nat.le_refl _) _).mono h1.size))
  have L2 : Hid (Lies w2 ⟨0, 4, none, 0, 0⟩ b0) := ⟨rfl, rfl, rfl, Hd_.Sl.none _⟩
  have z1 := Lib.hid h1.size
  clear h1 hw2 N1
  go_wp2_with fail
  refine (N2.out w2).mono ?_
  rintro e w3 ⟨rfl, h3⟩
  obtain ⟨w4, hw4⟩ : ∃ w4, w3.alloc (.cells (Rw_.C zr) 25) = w4 := ⟨_, rfl⟩
  have hz4 := Rw_.storeF_zero w3 zr
  rw [hw4] at hz4
  have b4 := h3.trans ((show Below w3.heap.size w3 w4 from hw4 ▸ (Below.refl _ _).alloc (Nat.le_refl _) _).mono h3.size)
  have X4 := Lib.hid (X2.out.below b4 X2.out.lt)
  have B4 := Lib.hid (B2.out.trans (b4.mono B2.out.size))
  have L4 := Lib.hid (L2.out.below b4)
  have l4 := X4.out.loadF
  clear h3 hw4 N2 b4 X2 B2 L2 hz
  go_wp2_with fail
  refine (P1.out _ w4 L4.out).mono ?_
  rintro e w5 ⟨x5, sa5, c5, rfl, hl5, -, hb5, hf5, -⟩
  obtain ⟨s5, K5⟩ := keep_row z1.out B4.out X4.out hl5 hb5 hf5
  have K5 := Lib.hid K5
  obtain ⟨w6, hw6⟩ : ∃ w6, w5.setRow w1.heap.size (Rw_.C x5) = w6 := ⟨_, rfl⟩
  rw [hw6] at s5 K5
  have l6 := K5.out.1.loadF
  clear hl5 hb5 hf5 hw6 P1 X4 B4 L4
  go_wp2_with fail
  refine (P2.out _ w6 K5.out.2.1).mono ?_
  rintro e w7 ⟨x7, sa7, c7, rfl, hl7, hs7, hb7, hf7, hg7⟩
  have hlt7 := K5.out.1.lt
  obtain ⟨s7, K7⟩ := keep_row z1.out K5.out.2.2 K5.out.1 hl7 hb7 hf7
  have K7 := Lib.hid K7
  have S7 := Lib.hid (ss_row (g := w1.heap.size) (c := Rw_.C x7) hs7 (fun bb off e => by have := hg7 bb off e; omega))
  have G7 : Hid (∀ bb off, sa7 = some ⟨bb, off, none⟩ → bb ≠ w1.heap.size) := fun bb off e => by have := hg7 bb off e; omega
  obtain ⟨w8, hw8⟩ : ∃ w8, w7.setRow w1.heap.size (Rw_.C x7) = w8 := ⟨_, rfl⟩
  rw [hw8] at s7 K7 S7
  have l8 := K7.out.1.loadF
  have e8 := K7.out.1.all
  have t8 := K7.out.2.1.st.trans q2
  clear hl7 hs7 hb7 hf7 hg7 hw8 P2 K5 hlt7
  go_wp2_with fail
  refine (P3.out _ w8 K7.out.2.1).mono ?_
  rintro e w9 ⟨x9, sa9, c9, rfl, hl9, -, hb9, hf9, -⟩
  obtain ⟨s9, K9⟩ := keep_row z1.out K7.out.2.2 K7.out.1 hl9 hb9 hf9
  have K9 := Lib.hid K9
  have S9 : Hid (Ss_.Sl (w9.setRow w1.heap.size (Rw_.C x9)) sa7 [xa20, xb20] c7) := ss_row (S7.out.below hb9) G7.out
  obtain ⟨w10, hw10⟩ : ∃ w10, w9.setRow w1.heap.size (Rw_.C x9) = w10 := ⟨_, rfl⟩
  rw [hw10] at s9 K9 S9
  have l10 := K9.out.1.loadF
  have e10 := K9.out.1.all
  have t10 := K9.out.2.1.st.trans q3
  clear hl9 hb9 hf9 hw10 P3 K7 S7 e8
  go_wp2_with fail
  refine (P4.out _ w10 K9.out.2.1).mono ?_
  rintro e w11 ⟨x11, sa11, c11, rfl, -, -, hb11, -, -⟩
  obtain ⟨w12, hw12⟩ : ∃ w12, w11.alloc (.cells (Rw_.C x11) 25) = w12 := ⟨_, rfl⟩
  have hz12 := Rw_.storeF_zero w11 x11
  rw [hw12] at hz12
  have b12 := hb11.trans ((show Below w11.heap.size w11 w12 from hw12 ▸ (Below.refl _ _).alloc (Nat.le_refl _) _).mono hb11.size)
  have S12 := Lib.hid (S9.out.below b12)
  have B12 := Lib.hid (K9.out.2.2.trans (b12.mono K9.out.2.2.size))
  have X12 := Lib.hid (K9.out.1.below b12 K9.out.1.lt)
  have e12 := X12.out.all
  have CS12 := Lib.hid (CS.out w12 sa7 c7 S12.out)
  clear hb11 hw12 b12 P4 K9 S9 e10 CS
  go_wp2_with (go_at_call 23; refine CS12.out.mono ?_; rintro e w13 ⟨rfl, h13⟩; have e13 := (X12.out.below h13 X12.out.lt).all; have B13 := Lib.hid (B12.out.trans (h13.mono B12.out.size)); clear h13)
  go_returns
  exact ⟨rfl, B13.out⟩
end Go.Proofs.Yteffmfloopkmoaa
