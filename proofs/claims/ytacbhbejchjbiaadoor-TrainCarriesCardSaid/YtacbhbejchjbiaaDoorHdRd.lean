/-
  READING A HEADER as steps over the Reader's error and octets (layer 10), and the contracts of the Reader over them.
  WALKS of the landed readRest of package header (8c902e7).
  WALKS of the landed readStart of package header (8c902e7).
  THE WALK of the landed Read of package header (8c902e7).
-/
import Derived.Test.YtacbhbejchjbiaaDoorHdFns
import Derived.Test.YtacbhbejchjbiaaDoorFrW
import Derived.Test.YtacbhbejchjbiaaDoorAdDoneC
import Derived.Test.YtacbhbejchjbiaaDoorWrAll
import Derived.Test.YtacbhbejchjbiaaDoorRdTot
import Derived.Test.YtacbhbejchjbiaaDoorFrRet
import Derived.Test.YtacbhbejchjbiaaDoorHdFrame
import Derived.Test.YtacbhbejchjbiaaDoorHdProgCheck
import Derived.Test.YtacbhbejchjbiaaDoorRdAd
namespace Go.Proofs.YtacbhbejchjbiaaDoor
open Go.RowKit Go.Hd Go.Wr Go.Ad

/-! ### The steps of Read -/
/-- What readStart hands back. -/
def rS (σ : Sg) : Fr × Sg :=
  let a := rN 1 σ
  let c := rN 1 (if isK a.1 then a.2 else rF 3 a.2)
  let d := rN 2 (if bits .andNot .i64 c.1 (us a.1) = 0 then c.2 else rF 3 c.2)
  (⟨a.1, hs c.1 1, hs c.1 2, hs c.1 4, hs c.1 8, hs c.1 16, hs c.1 32, (bits .and .i64 c.1 192).tdiv 64, d.1, 0, 0, 0, 0, 0, 0, 0, 0, ⟨#[]⟩⟩, d.2)
def s1 (x : Fr × Sg) : Fr × Sg := ({ x.1 with ta := (rA x.2).1 }, (rA x.2).2)
def s2 (x : Fr × Sg) : Fr × Sg := ({ x.1 with fa := (rA x.2).1 }, (rA x.2).2)
def s3 (x : Fr × Sg) : Fr × Sg := ({ x.1 with th := (rA x.2).1 }, (rA x.2).2)
def s4 (x : Fr × Sg) : Fr × Sg := ({ x.1 with sq := (rN 2 x.2).1.tdiv 16, fg := (rN 2 x.2).1.tmod 16 }, (rN 2 x.2).2)
def s5 (x : Fr × Sg) : Fr × Sg := ({ x.1 with ct := (rN 1 x.2).1 }, (rN 1 x.2).2)
def s6 (x : Fr × Sg) : Fr × Sg := ({ x.1 with ky := (rN 2 x.2).1 }, (rN 2 x.2).2)
def s7 (x : Fr × Sg) : Fr × Sg := ({ x.1 with cn := (rN 5 x.2).1 }, (rN 5 x.2).2)
def r2 (x : Fr × Sg) : Fr × Sg := if hs (us x.1.kd) 256 = true then s2 x else x
def r3 (x : Fr × Sg) : Fr × Sg := if hs (us x.1.kd) 512 = true then s3 x else x
def r4 (x : Fr × Sg) : Fr × Sg := if hs (us x.1.kd) 1024 = true then s4 x else x
def r5 (x : Fr × Sg) : Fr × Sg := if hs (us x.1.kd) 4096 = true then s5 x else x
def r6 (x : Fr × Sg) : Fr × Sg := if hs (us x.1.kd) 8192 = true then (if (rN 2 x.2).1 = 0 then s6 x else s7 (s6 x)) else x
def rR (x : Fr × Sg) : Fr × Sg := r6 (r5 (r4 (r3 (r2 (s1 x)))))
/-- The fields that a kind uses, in order: always a beginning of one list. -/
theorem hclass (k : Int) : (hs (us k) 256 = true ∧ hs (us k) 512 = true ∧ hs (us k) 1024 = true ∧ hs (us k) 4096 = false ∧ hs (us k) 8192 = false) ∨ (hs (us k) 256 = true ∧ hs (us k) 512 = false ∧ hs (us k) 1024 = false ∧ hs (us k) 4096 = false ∧ hs (us k) 8192 = false) ∨
    (hs (us k) 256 = false ∧ hs (us k) 512 = false ∧ hs (us k) 1024 = false ∧ hs (us k) 4096 = false ∧ hs (us k) 8192 = false) ∨ (hs (us k) 256 = true ∧ hs (us k) 512 = true ∧ hs (us k) 1024 = true ∧ hs (us k) 4096 = true ∧ hs (us k) 8192 = true) ∨
    (hs (us k) 256 = true ∧ hs (us k) 512 = true ∧ hs (us k) 1024 = true ∧ hs (us k) 4096 = true ∧ hs (us k) 8192 = false) := by
  by_cases h : isK k
  · rcases kinds h with rfl | rfl | rfl | rfl | rfl | rfl | rfl | rfl | rfl | rfl | rfl | rfl | rfl | rfl | rfl | rfl | rfl | rfl | rfl <;> decide +kernel
  · rw [us_no h]; decide +kernel
section
variable {x : Fr × Sg}
theorem rR_mg (h1 : hs (us x.1.kd) 256 = true) (h2 : hs (us x.1.kd) 512 = true) (h3 : hs (us x.1.kd) 1024 = true) (h4 : hs (us x.1.kd) 4096 = false) (h5 : hs (us x.1.kd) 8192 = false) : rR x = s4 (s3 (s2 (s1 x))) := by
  have e2 : r2 (s1 x) = s2 (s1 x) := if_pos h1
  have e3 : r3 (s2 (s1 x)) = s3 (s2 (s1 x)) := if_pos h2
  have e4 : r4 (s3 (s2 (s1 x))) = s4 (s3 (s2 (s1 x))) := if_pos h3
  have e5 : r5 (s4 (s3 (s2 (s1 x)))) = s4 (s3 (s2 (s1 x))) := if_neg (by show ¬ hs (us x.1.kd) 4096 = true; rw [h4]; decide)
  have e6 : r6 (s4 (s3 (s2 (s1 x)))) = s4 (s3 (s2 (s1 x))) := if_neg (by show ¬ hs (us x.1.kd) 8192 = true; rw [h5]; decide)
  unfold rR; rw [e2, e3, e4, e5, e6]
theorem rR_rts (h1 : hs (us x.1.kd) 256 = true) (h2 : hs (us x.1.kd) 512 = false) (h3 : hs (us x.1.kd) 1024 = false) (h4 : hs (us x.1.kd) 4096 = false) (h5 : hs (us x.1.kd) 8192 = false) : rR x = s2 (s1 x) := by
  have e2 : r2 (s1 x) = s2 (s1 x) := if_pos h1
  have e3 : r3 (s2 (s1 x)) = s2 (s1 x) := if_neg (by show ¬ hs (us x.1.kd) 512 = true; rw [h2]; decide)
  have e4 : r4 (s2 (s1 x)) = s2 (s1 x) := if_neg (by show ¬ hs (us x.1.kd) 1024 = true; rw [h3]; decide)
  have e5 : r5 (s2 (s1 x)) = s2 (s1 x) := if_neg (by show ¬ hs (us x.1.kd) 4096 = true; rw [h4]; decide)
  have e6 : r6 (s2 (s1 x)) = s2 (s1 x) := if_neg (by show ¬ hs (us x.1.kd) 8192 = true; rw [h5]; decide)
  unfold rR; rw [e2, e3, e4, e5, e6]
theorem rR_cts (h1 : hs (us x.1.kd) 256 = false) (h2 : hs (us x.1.kd) 512 = false) (h3 : hs (us x.1.kd) 1024 = false) (h4 : hs (us x.1.kd) 4096 = false) (h5 : hs (us x.1.kd) 8192 = false) : rR x = s1 x := by
  have e2 : r2 (s1 x) = s1 x := if_neg (by show ¬ hs (us x.1.kd) 256 = true; rw [h1]; decide)
  have e3 : r3 (s1 x) = s1 x := if_neg (by show ¬ hs (us x.1.kd) 512 = true; rw [h2]; decide)
  have e4 : r4 (s1 x) = s1 x := if_neg (by show ¬ hs (us x.1.kd) 1024 = true; rw [h3]; decide)
  have e5 : r5 (s1 x) = s1 x := if_neg (by show ¬ hs (us x.1.kd) 4096 = true; rw [h4]; decide)
  have e6 : r6 (s1 x) = s1 x := if_neg (by show ¬ hs (us x.1.kd) 8192 = true; rw [h5]; decide)
  unfold rR; rw [e2, e3, e4, e5, e6]
theorem rR_null (h1 : hs (us x.1.kd) 256 = true) (h2 : hs (us x.1.kd) 512 = true) (h3 : hs (us x.1.kd) 1024 = true) (h4 : hs (us x.1.kd) 4096 = true) (h5 : hs (us x.1.kd) 8192 = false) : rR x = s5 (s4 (s3 (s2 (s1 x)))) := by
  have e2 : r2 (s1 x) = s2 (s1 x) := if_pos h1
  have e3 : r3 (s2 (s1 x)) = s3 (s2 (s1 x)) := if_pos h2
  have e4 : r4 (s3 (s2 (s1 x))) = s4 (s3 (s2 (s1 x))) := if_pos h3
  have e5 : r5 (s4 (s3 (s2 (s1 x)))) = s5 (s4 (s3 (s2 (s1 x)))) := if_pos h4
  have e6 : r6 (s5 (s4 (s3 (s2 (s1 x))))) = s5 (s4 (s3 (s2 (s1 x)))) := if_neg (by show ¬ hs (us x.1.kd) 8192 = true; rw [h5]; decide)
  unfold rR; rw [e2, e3, e4, e5, e6]
theorem rR_data (h1 : hs (us x.1.kd) 256 = true) (h2 : hs (us x.1.kd) 512 = true) (h3 : hs (us x.1.kd) 1024 = true) (h4 : hs (us x.1.kd) 4096 = true) (h5 : hs (us x.1.kd) 8192 = true) :
    rR x = if (rN 2 (s5 (s4 (s3 (s2 (s1 x))))).2).1 = 0 then s6 (s5 (s4 (s3 (s2 (s1 x))))) else s7 (s6 (s5 (s4 (s3 (s2 (s1 x)))))) := by
  have e2 : r2 (s1 x) = s2 (s1 x) := if_pos h1
  have e3 : r3 (s2 (s1 x)) = s3 (s2 (s1 x)) := if_pos h2
  have e4 : r4 (s3 (s2 (s1 x))) = s4 (s3 (s2 (s1 x))) := if_pos h3
  have e5 : r5 (s4 (s3 (s2 (s1 x)))) = s5 (s4 (s3 (s2 (s1 x)))) := if_pos h4
  have e6 : r6 (s5 (s4 (s3 (s2 (s1 x))))) = if (rN 2 (s5 (s4 (s3 (s2 (s1 x))))).2).1 = 0 then s6 (s5 (s4 (s3 (s2 (s1 x))))) else s7 (s6 (s5 (s4 (s3 (s2 (s1 x)))))) := if_pos h5
  unfold rR; rw [e2, e3, e4, e5, e6]
end
/-- What Read leaves: the frame and the Reader's state. -/
def rdP (σ : Sg) : Fr × Sg :=
  let x := rR (rS σ)
  let τ := rF (chk x.1) x.2
  if τ.1 = 0 then (x.1, τ) else (Fr_.zf, τ)

/-- The Reader's state and a frame in its block. -/
structure Rst (wb : World) (b g : Nat) (x : Fr × Sg) (wi : World) : Prop where
  rd : Rs wi b x.2
  box : Fr_.Box wi g x.1
  but : But b wb wi
  ge : wb.heap.size ≤ g
  lt : b < wb.heap.size
theorem Rst.call {wb : World} {b g : Nat} {x : Fr × Sg} {τ : Sg} {wi w' : World} (h : Rst wb b g x wi) (hr : Rs w' b τ) (hb : But b wi w') : Rst wb b g (x.1, τ) w' :=
  ⟨hr, (hb.block g h.box.lt (by have := h.ge; have := h.lt; omega)).trans h.box, h.but.trans hb, h.ge, h.lt⟩
theorem Rst.below {wb : World} {b g : Nat} {x : Fr × Sg} {wi w' : World} (h : Rst wb b g x wi) (hb : Below wi.heap.size wi w') : Rst wb b g x w' :=
  ⟨h.rd.blk (hb.block b h.rd.lt), h.box.below hb h.box.lt, h.but.trans (But.of_below hb (Nat.le_refl _)), h.ge, h.lt⟩
theorem Rst.store {wb : World} {b g : Nat} {x : Fr × Sg} {wi : World} {y : Fr} {j : Nat} {v : Value} (h : Rst wb b g x wi) (hb : Fr_.Box (wi.setCell ⟨g, j, none⟩ v) g y) : Rst wb b g (y, x.2) (wi.setCell ⟨g, j, none⟩ v) :=
  ⟨h.rd.blk (Below.heap_setCell _ _ _ _ (by have := h.ge; have := h.lt; show b ≠ g; omega)), hb, h.but.setCell (p := ⟨g, j, none⟩) (.inr h.ge) v, h.ge, h.lt⟩
theorem rN_nn (k : Nat) (σ : Sg) : 0 ≤ (rN k σ).1 := by
  unfold rN
  split
  · split
    · exact Int.natCast_nonneg _
    · exact Int.le_refl 0
  · exact Int.le_refl 0
theorem rN_lt (k : Nat) (σ : Sg) : (rN k σ).1 < (pow k : Int) := by
  have hp := pow_pos k
  unfold rN
  split
  · split
    · have := val_take_lt σ.2 k (by assumption)
      simp only; omega
    · simp only; omega
  · simp only; omega
end Go.Proofs.YtacbhbejchjbiaaDoor

namespace Go.Proofs.YtacbhbejchjbiaaDoor
open Go.RowKit Go.Hd Go.Wr Go.Ad
attribute [local go_sem ↓ high] Fr_.loadF Fr_.storeF Fr_.v_cells Fr_.v_match
attribute [local go_sem] Fr_.C0 Fr_.C1 Fr_.C2 Fr_.C3 Fr_.C4 Fr_.C5 Fr_.C6 Fr_.C7 Fr_.C8 Fr_.C9 Fr_.C10 Fr_.C11 Fr_.C12 Fr_.C13 Fr_.C14 Fr_.C15 Fr_.C16 Fr_.C17 Fr_.loadF_new Fr_.storeF_zero

theorem num1 (b : Nat) (σ : Sg) (w : World) (h : Rs w b σ) : Calls Tryd.prog 40 #[.pointer (some ⟨b, 0, none⟩), .int .i64 1] w fun e w' => e = .returned (.int .i64 (rN 1 σ).1) ∧ Rs w' b (rN 1 σ).2 ∧ But b w w' := num_tot 1 b σ w h (by decide)
theorem num2 (b : Nat) (σ : Sg) (w : World) (h : Rs w b σ) : Calls Tryd.prog 40 #[.pointer (some ⟨b, 0, none⟩), .int .i64 2] w fun e w' => e = .returned (.int .i64 (rN 2 σ).1) ∧ Rs w' b (rN 2 σ).2 ∧ But b w w' := num_tot 2 b σ w h (by decide)
theorem num5 (b : Nat) (σ : Sg) (w : World) (h : Rs w b σ) : Calls Tryd.prog 40 #[.pointer (some ⟨b, 0, none⟩), .int .i64 5] w fun e w' => e = .returned (.int .i64 (rN 5 σ).1) ∧ Rs w' b (rN 5 σ).2 ∧ But b w w' := num_tot 5 b σ w h (by decide)

set_option maxRecDepth 100000 in
set_option maxHeartbeats 8000000 in
theorem readRest_any (x0 : Fr × Sg) (wb w : World) (b g : Nat) (ht : HdTab w) (h : Rst wb b g x0 w) :
    Calls Tryd.prog 44 #[.pointer (some ⟨b, 0, none⟩), .pointer (some ⟨g, 0, none⟩)] w fun e w' => e = .returned (.tuple #[]) ∧ Rst wb b g (rR x0) w' := by
  have CT := Lib.hid (traits_any x0.1.kd w ht)
  unfold trv at CT
  have CFL := fld4 (nm x0.1.kd) (cls x0.1.kd) (rsp x0.1.kd) (ln0 x0.1.kd) (us x0.1.kd)
  have CH := Lib.hid (has_any (us x0.1.kd))
  have e0 := h.box.all
  have sti := Lib.hid h
  clear ht h
  rcases hclass x0.1.kd with ⟨h1, h2, h3, h4, h5⟩ | ⟨h1, h2, h3, h4, h5⟩ | ⟨h1, h2, h3, h4, h5⟩ | ⟨h1, h2, h3, h4, h5⟩ | ⟨h1, h2, h3, h4, h5⟩
  case' inl => have HR := Lib.hid (rR_mg h1 h2 h3 h4 h5)
  case' inr.inl => have HR := Lib.hid (rR_rts h1 h2 h3 h4 h5)
  case' inr.inr.inl => have HR := Lib.hid (rR_cts h1 h2 h3 h4 h5)
  case' inr.inr.inr.inl => have HR := Lib.hid (rR_data h1 h2 h3 h4 h5)
  case' inr.inr.inr.inr => have HR := Lib.hid (rR_null h1 h2 h3 h4 h5)
  all_goals
    · go_enter Tryd.func44, Tryd.ntmps44
      go_wp2_with (first
        | (go_at_call 25; refine CT.out.mono ?_; rintro e w2 ⟨rfl, hb⟩; have st2 := sti.out.below hb; clear sti e0 hb; have st0 := Lib.hid st2; have e0 := st2.box.all; clear st2)
        | (go_at_call 29; refine (CH.out _ _).mono ?_; rintro e w2 ⟨rfl, rfl⟩)
        | (go_at_call 56; refine (addr_tot b _ _ st0.out.rd).mono ?_; rintro e w3 ⟨rfl, h1, h2⟩; have st' := st0.out.call h1 h2; clear st0 e0 h1 h2
           obtain ⟨w4, hw4⟩ : ∃ w4, w3.setCell ⟨g, 9, none⟩ (.int .u64 (rA x0.2).1) = w4 := ⟨_, rfl⟩
           have f9 := st'.box.frozen 9; have e3 := st'.box.all
           obtain ⟨x1, hx1⟩ : ∃ y, y = s1 x0 := ⟨_, rfl⟩
           have st1 := Lib.hid (show Rst wb b g x1 w4 from hx1 ▸ hw4 ▸ st'.store (st'.box.set9 _)); have e0 := st1.out.box.all; clear st'; have HX1 := Lib.hid hx1; clear hx1)
        | (go_at_call 56; refine (addr_tot b _ _ st1.out.rd).mono ?_; rintro e w3 ⟨rfl, h1, h2⟩; have st' := st1.out.call h1 h2; clear st1 e0 h1 h2
           obtain ⟨w4, hw4⟩ : ∃ w4, w3.setCell ⟨g, 10, none⟩ (.int .u64 (rA x1.2).1) = w4 := ⟨_, rfl⟩
           have f9 := st'.box.frozen 10; have e3 := st'.box.all
           obtain ⟨x2, hx2⟩ : ∃ y, y = s2 x1 := ⟨_, rfl⟩
           have st2 := Lib.hid (show Rst wb b g x2 w4 from hx2 ▸ hw4 ▸ st'.store (st'.box.set10 _)); have e0 := st2.out.box.all; clear st'; have HX2 := Lib.hid hx2; clear hx2)
        | (go_at_call 56; refine (addr_tot b _ _ st2.out.rd).mono ?_; rintro e w3 ⟨rfl, h1, h2⟩; have st' := st2.out.call h1 h2; clear st2 e0 h1 h2
           obtain ⟨w4, hw4⟩ : ∃ w4, w3.setCell ⟨g, 11, none⟩ (.int .u64 (rA x2.2).1) = w4 := ⟨_, rfl⟩
           have f9 := st'.box.frozen 11; have e3 := st'.box.all
           obtain ⟨x3, hx3⟩ : ∃ y, y = s3 x2 := ⟨_, rfl⟩
           have st3 := Lib.hid (show Rst wb b g x3 w4 from hx3 ▸ hw4 ▸ st'.store (st'.box.set11 _)); have e0 := st3.out.box.all; clear st'; have HX3 := Lib.hid hx3; clear hx3)
        | (go_at_call 40; with_reducible refine (num2 b _ _ st3.out.rd).mono ?_; rintro e w3 ⟨rfl, h1, h2⟩; have st' := st3.out.call h1 h2; clear st3 e0 h1 h2
           have nb0 := rN_nn 2 x3.2
           have nb1 : (rN 2 x3.2).1 < 65536 := rN_lt 2 x3.2
           obtain ⟨x4, hx4⟩ : ∃ y, y = s4 x3 := ⟨_, rfl⟩
           have HX4 := Lib.hid hx4
           unfold s4 at hx4
           obtain ⟨σ4, hσ4⟩ : ∃ τ, τ = (rN 2 x3.2).2 := ⟨_, rfl⟩
           rw [← hσ4] at hx4 st'
           generalize (rN 2 x3.2).1 = n at *
           have dq : n.tdiv 16 = n / 16 := Int.tdiv_eq_ediv_of_nonneg nb0
           have dr : n.tmod 16 = n % 16 := Int.tmod_eq_emod_of_nonneg nb0
           rw [dq, dr] at hx4
           have wq : RowKit.wrap64 (n / 16) = n / 16 := IntWalk.wrap64_in _ (by omega)
           have wr : RowKit.wrap64 (n % 16) = n % 16 := IntWalk.wrap64_in _ (by omega)
           have wq2 : IntKind.i64.wrap (n / 16) = n / 16 := IntWalk.i64_in _ (by omega)
           have wr2 : IntKind.i64.wrap (n % 16) = n % 16 := IntWalk.i64_in _ (by omega)
           obtain ⟨w4, hw4⟩ : ∃ w4, w3.setCell ⟨g, 12, none⟩ (.int .i64 (n / 16)) = w4 := ⟨_, rfl⟩
           obtain ⟨w5, hw5⟩ : ∃ w5, w4.setCell ⟨g, 13, none⟩ (.int .i64 (n % 16)) = w5 := ⟨_, rfl⟩
           have f9 := st'.box.frozen 12; have e3 := st'.box.all
           have st'' := (show Rst wb b g ({ x3.1 with sq := n / 16 }, σ4) w4 from hw4 ▸ st'.store (st'.box.set12 _))
           have f10 := st''.box.frozen 13; have e4 := st''.box.all
           have st4 := Lib.hid (show Rst wb b g x4 w5 from hx4 ▸ hw5 ▸ st''.store (st''.box.set13 _)); have e0 := st4.out.box.all; clear st' st'' hx4 hσ4)
        | (go_at_call 40; with_reducible refine (num1 b _ _ st4.out.rd).mono ?_; rintro e w3 ⟨rfl, h1, h2⟩; have st' := st4.out.call h1 h2; clear st4 e0 h1 h2
           obtain ⟨w4, hw4⟩ : ∃ w4, w3.setCell ⟨g, 14, none⟩ (.int .i64 (rN 1 x4.2).1) = w4 := ⟨_, rfl⟩
           have f9 := st'.box.frozen 14; have e3 := st'.box.all
           obtain ⟨x5, hx5⟩ : ∃ y, y = s5 x4 := ⟨_, rfl⟩
           have st5 := Lib.hid (show Rst wb b g x5 w4 from hx5 ▸ hw4 ▸ st'.store (st'.box.set14 _)); have e0 := st5.out.box.all; clear st'; have HX5 := Lib.hid hx5; clear hx5)
        | (go_at_call 40; with_reducible refine (num2 b _ _ st5.out.rd).mono ?_; rintro e w3 ⟨rfl, h1, h2⟩; have st' := st5.out.call h1 h2; clear st5 e0 h1 h2
           obtain ⟨w4, hw4⟩ : ∃ w4, w3.setCell ⟨g, 15, none⟩ (.int .i64 (rN 2 x5.2).1) = w4 := ⟨_, rfl⟩
           have f9 := st'.box.frozen 15; have e3 := st'.box.all
           obtain ⟨x6, hx6⟩ : ∃ y, y = s6 x5 := ⟨_, rfl⟩
           have st6 := Lib.hid (show Rst wb b g x6 w4 from hx6 ▸ hw4 ▸ st'.store (st'.box.set15 _)); have e0 := st6.out.box.all; clear st'; have HX6 := Lib.hid hx6; clear hx6)
        | (go_at_call 40; with_reducible refine (num5 b _ _ st6.out.rd).mono ?_; rintro e w3 ⟨rfl, h1, h2⟩; have st' := st6.out.call h1 h2; clear st6 e0 h1 h2
           obtain ⟨w4, hw4⟩ : ∃ w4, w3.setCell ⟨g, 16, none⟩ (.int .i64 (rN 5 x6.2).1) = w4 := ⟨_, rfl⟩
           have f9 := st'.box.frozen 16; have e3 := st'.box.all
           obtain ⟨x7, hx7⟩ : ∃ y, y = s7 x6 := ⟨_, rfl⟩
           have st7 := Lib.hid (show Rst wb b g x7 w4 from hx7 ▸ hw4 ▸ st'.store (st'.box.set16 _)); have e0 := st7.out.box.all; clear st'; have HX7 := Lib.hid hx7; clear hx7))
      all_goals
        go_returns
        refine ⟨rfl, ?_⟩
        rw [HR.out]
        first
          | (rw [← HX1.out, ← HX2.out, ← HX3.out, ← HX4.out, ← HX5.out]
             have hk : (rN 2 x5.2).1 = x6.1.ky := by rw [HX6.out]; rfl
             rw [hk]
             first
               | (rw [if_pos (by simpa using ‹(x6.1.ky != 0) = false›), ← HX6.out]; exact st6.out)
               | (rw [if_neg (by simpa using ‹(x6.1.ky != 0) = true›), ← HX6.out, ← HX7.out]; exact st7.out))
          | (rw [← HX1.out, ← HX2.out, ← HX3.out, ← HX4.out, ← HX5.out]; exact st5.out)
          | (rw [← HX1.out, ← HX2.out, ← HX3.out, ← HX4.out]; exact st4.out)
          | (rw [← HX1.out, ← HX2.out]; exact st2.out)
          | (rw [← HX1.out]; exact st1.out)
end Go.Proofs.YtacbhbejchjbiaaDoor

namespace Go.Proofs.YtacbhbejchjbiaaDoor
open Go.RowKit Go.Hd Go.Wr Go.Ad
attribute [local go_sem ↓ high] Fr_.loadF Fr_.storeF Fr_.v_cells Fr_.v_match
attribute [local go_sem] Fr_.C0 Fr_.C1 Fr_.C2 Fr_.C3 Fr_.C4 Fr_.C5 Fr_.C6 Fr_.C7 Fr_.C8 Fr_.C9 Fr_.C10 Fr_.C11 Fr_.C12 Fr_.C13 Fr_.C14 Fr_.C15 Fr_.C16 Fr_.C17

theorem and_192 : ∀ n : Fin 256, 0 ≤ bits .and .i64 (n.val : Int) 192 ∧ bits .and .i64 (n.val : Int) 192 ≤ 192 := by decide +kernel
theorem and_192_in {n : Int} (h0 : 0 ≤ n) (h1 : n < 256) : 0 ≤ bits .and .i64 n 192 ∧ bits .and .i64 n 192 ≤ 192 := by
  have h := and_192 ⟨n.toNat, by omega⟩
  rwa [show (((⟨n.toNat, by omega⟩ : Fin 256).val : Nat) : Int) = n by show ((n.toNat : Nat) : Int) = n; omega] at h

theorem But.setRow {b g : Nat} {a w : World} (h : But b a w) (hg : a.heap.size ≤ g) (c : Array Value) : But b a (w.setRow g c) :=
  ⟨h.os, h.tape, h.output, by simpa [World.setRow] using h.size, fun k hk hb => (Fr_.setRow_other (by omega) c).trans (h.block k hk hb)⟩
theorem Rst.setRow {wb : World} {b g : Nat} {x : Fr × Sg} {wi : World} (h : Rst wb b g x wi) (y : Fr) : Rst wb b g (y, x.2) (wi.setRow g (Fr_.C y)) :=
  ⟨h.rd.blk (Fr_.setRow_other (by have := h.ge; have := h.lt; omega) _), h.box.setRow y, But.setRow h.but h.ge _, h.ge, h.lt⟩
set_option maxRecDepth 100000 in
set_option maxHeartbeats 8000000 in
theorem readStart_any (σ : Sg) (w : World) (b : Nat) (ht : HdTab w) (h : Rs w b σ) (hbg : b ≠ 0) :
    Calls Tryd.prog 43 #[.pointer (some ⟨b, 0, none⟩)] w fun e w' => e = .returned (Fr_.v (rS σ).1) ∧ Rs w' b (rS σ).2 ∧ But b w w' := by
  obtain ⟨w1, hw1⟩ : ∃ w1, w.alloc (.cells #[.int .i64 0, .bool false, .bool false, .bool false, .bool false, .bool false, .bool false, .int .i64 0, .int .i64 0, .int .u64 0, .int .u64 0, .int .u64 0, .int .i64 0, .int .i64 0, .int .i64 0, .int .i64 0, .int .i64 0, .string ⟨#[]⟩] 34) = w1 := ⟨_, rfl⟩
  have b1 : Below w.heap.size w w1 := hw1 ▸ (Below.refl _ _).alloc (Nat.le_refl _) _
  have st1 := Lib.hid (show Rst w b w.heap.size (Fr_.zf, σ) w1 from ⟨h.blk (b1.block b h.lt), hw1 ▸ Fr_.Box.newC w Fr_.zf, But.of_below b1 (Nat.le_refl _), Nat.le_refl _, h.lt⟩)
  have HT : Hid (∀ wi, But b w wi → HdTab wi) := fun wi hb => ⟨fun i hi j v hv => (hb.cell (p := ⟨0, i * 5 + j, none⟩) ht.lt (fun e => hbg e.symm)).trans (ht.cell i hi j v hv), Nat.lt_of_lt_of_le ht.lt hb.size⟩
  obtain ⟨a, ha⟩ : ∃ a, a = rN 1 σ := ⟨_, rfl⟩
  obtain ⟨τ2, hτ2⟩ : ∃ τ, τ = (if isK a.1 then a.2 else rF 3 a.2) := ⟨_, rfl⟩
  obtain ⟨c, hc⟩ : ∃ c, c = rN 1 τ2 := ⟨_, rfl⟩
  obtain ⟨τ4, hτ4⟩ : ∃ τ, τ = (if bits .andNot .i64 c.1 (us a.1) = 0 then c.2 else rF 3 c.2) := ⟨_, rfl⟩
  obtain ⟨d, hd⟩ : ∃ d, d = rN 2 τ4 := ⟨_, rfl⟩
  have HR : Hid (rS σ = (⟨a.1, hs c.1 1, hs c.1 2, hs c.1 4, hs c.1 8, hs c.1 16, hs c.1 32, (bits .and .i64 c.1 192).tdiv 64, d.1, 0, 0, 0, 0, 0, 0, 0, 0, ⟨#[]⟩⟩, d.2)) := by
    unfold Hid rS; rw [hd, hτ4, hc, hτ2, ha]
  have cN := rN_nn 1 τ2
  have cL : (rN 1 τ2).1 < 256 := rN_lt 1 τ2
  rw [← hc] at cN cL
  have hq := and_192_in cN cL
  have hqd : (bits .and .i64 c.1 192).tdiv 64 = bits .and .i64 c.1 192 / 64 := Int.tdiv_eq_ediv_of_nonneg hq.1
  have wq : RowKit.wrap64 (bits .and .i64 c.1 192 / 64) = bits .and .i64 c.1 192 / 64 := IntWalk.wrap64_in _ (by omega)
  have wq2 : IntKind.i64.wrap (bits .and .i64 c.1 192 / 64) = bits .and .i64 c.1 192 / 64 := IntWalk.i64_in _ (by omega)
  rw [hqd] at HR
  have CN1 := Lib.hid (fun w h => num1 b σ w h)
  rw [← ha] at CN1
  have CN2 := Lib.hid (fun w h => num1 b τ2 w h)
  rw [← hc] at CN2
  have CN3 := Lib.hid (fun w h => num2 b τ4 w h)
  rw [← hd] at CN3
  have CF1 := Lib.hid (fun w h => fail_tot 3 b a.2 w h)
  have CF2 := Lib.hid (fun w h => fail_tot 3 b c.2 w h)
  have CK := Lib.hid (known_any a.1)
  have CH := Lib.hid (has_any c.1)
  have CT := Lib.hid (traits_any a.1)
  unfold trv at CT
  have CFL := fld4 (nm a.1) (cls a.1) (rsp a.1) (ln0 a.1) (us a.1)
  have T2 := Lib.hid hτ2
  have T4 := Lib.hid hτ4
  generalize hqq : bits .and .i64 c.1 192 = q at *
  generalize hx : bits .andNot .i64 c.1 (us a.1) = z at *
  clear ht h ha hc hd cN cL hq b1 hτ2 hτ4
  have hfold := Fr_.fold_v a.1 (hs c.1 1) (hs c.1 2) (hs c.1 4) (hs c.1 8) (hs c.1 16) (hs c.1 32) (q / 64) d.1 0 0 0 0 0 0 0 0 ⟨#[]⟩
  have HZ0 : z = 0 → (z != 0) = false := fun h => by rw [h]; rfl
  have HZ1 : ¬ z = 0 → (z != 0) = true := fun h => by rw [bne_iff_ne]; exact h
  by_cases hk : isK a.1
  case' pos => rw [decide_eq_true hk] at CK; have T2 := T2.out.trans (if_pos hk)
  case' neg => rw [decide_eq_false hk] at CK; have T2 := T2.out.trans (if_neg hk)
  all_goals
    subst T2
    clear hk
    by_cases hz : z = 0
  all_goals first
    | (have T4 := T4.out.trans (if_pos hz); have hz' := HZ0 hz)
    | (have T4 := T4.out.trans (if_neg hz); have hz' := HZ1 hz)
  all_goals
    subst T4
    clear HZ0 HZ1 hz T2
    have st := Lib.hid (show Rst w b w.heap.size (Fr_.zf, σ) w1 from st1.out)
    clear st1
    go_enter Tryd.func43, Tryd.ntmps43
    go_wp2_with (first
      | (go_at_call 40; with_reducible refine (CN1.out _ st.out.rd).mono ?_; rintro e w3 ⟨rfl, h1, h2⟩; have st2 := Lib.hid (st.out.call h1 h2); clear st h1 h2; have st := st2; clear st2 CN1)
      | (go_at_call 40; with_reducible refine (CN2.out _ st.out.rd).mono ?_; rintro e w3 ⟨rfl, h1, h2⟩; have st2 := Lib.hid (st.out.call h1 h2); clear st h1 h2; have st := st2; clear st2 CN2)
      | (go_at_call 40; with_reducible refine (CN3.out _ st.out.rd).mono ?_; rintro e w3 ⟨rfl, h1, h2⟩; have st2 := Lib.hid (st.out.call h1 h2); clear st h1 h2; have st := st2; clear st2; have hst := st.out.box.storeF)
      | (go_at_call 45; with_reducible refine (CF1.out _ st.out.rd).mono ?_; rintro e w3 ⟨rfl, h1, h2⟩; have st2 := Lib.hid (st.out.call h1 h2); clear st h1 h2; have st := st2; clear st2 CF1)
      | (go_at_call 45; with_reducible refine (CF2.out _ st.out.rd).mono ?_; rintro e w3 ⟨rfl, h1, h2⟩; have st2 := Lib.hid (st.out.call h1 h2); clear st h1 h2; have st := st2; clear st2 CF2)
      | (go_at_call 26; refine (CK.out _).mono ?_; rintro e w' ⟨rfl, rfl⟩)
      | (go_at_call 29; refine (CH.out _ _).mono ?_; rintro e w' ⟨rfl, rfl⟩)
      | (go_at_call 25; refine (CT.out _ (HT.out _ st.out.but)).mono ?_; rintro e w' ⟨rfl, hb⟩; have st2 := Lib.hid (st.out.below hb); clear st hb; have st := st2; clear st2))
  all_goals
    have st2 := st.out.setRow ⟨a.1, hs c.1 1, hs c.1 2, hs c.1 4, hs c.1 8, hs c.1 16, hs c.1 32, q / 64, d.1, 0, 0, 0, 0, 0, 0, 0, 0, ⟨#[]⟩⟩
    refine ret_frame Tryd.results43 rfl st2.box rfl ?_
    rw [HR.out]
    exact ⟨rfl, st2.rd, st2.but⟩
end Go.Proofs.YtacbhbejchjbiaaDoor

namespace Go.Proofs.YtacbhbejchjbiaaDoor
open Go.RowKit Go.Hd Go.Wr Go.Ad
attribute [local go_sem ↓ high] Fr_.loadF Fr_.storeF Fr_.v_cells Fr_.v_match
attribute [local go_sem] Fr_.C0 Fr_.C1 Fr_.C2 Fr_.C3 Fr_.C4 Fr_.C5 Fr_.C6 Fr_.C7 Fr_.C8 Fr_.C9 Fr_.C10 Fr_.C11 Fr_.C12 Fr_.C13 Fr_.C14 Fr_.C15 Fr_.C16 Fr_.C17 Fr_.storeF_zero

theorem u64_0 : u64 0 := by constructor <;> decide
theorem rA_u64 (σ : Sg) : u64 (rA σ).1 := by
  unfold rA
  split
  · split
    · have h := bev_lt (σ.2.take 6)
      have hl : (σ.2.take 6).length ≤ 6 := by rw [List.length_take]; omega
      have h2 : bev (σ.2.take 6) < 281474976710656 := Nat.lt_of_lt_of_le h (Nat.le_trans (Nat.pow_le_pow_right (by decide) hl) (by decide))
      exact ⟨Int.natCast_nonneg _, by simp only; omega⟩
    · exact u64_0
  · exact u64_0
theorem fru_s {x : Fr × Sg} (h : FrU x.1) : FrU (s1 x).1 ∧ FrU (s2 x).1 ∧ FrU (s3 x).1 ∧ FrU (s4 x).1 ∧ FrU (s5 x).1 ∧ FrU (s6 x).1 ∧ FrU (s7 x).1 :=
  ⟨⟨rA_u64 _, h.fa, h.th⟩, ⟨h.ta, rA_u64 _, h.th⟩, ⟨h.ta, h.fa, rA_u64 _⟩, ⟨h.ta, h.fa, h.th⟩, ⟨h.ta, h.fa, h.th⟩, ⟨h.ta, h.fa, h.th⟩, ⟨h.ta, h.fa, h.th⟩⟩
theorem fru_rd (σ : Sg) : FrU (rR (rS σ)).1 := by
  have h0 : FrU (rS σ).1 := ⟨u64_0, u64_0, u64_0⟩
  have h1 := (fru_s h0).1
  have h2 : FrU (r2 (s1 (rS σ))).1 := by unfold r2; split; exact (fru_s h1).2.1; exact h1
  have h3 : FrU (r3 (r2 (s1 (rS σ)))).1 := by unfold r3; split; exact (fru_s h2).2.2.1; exact h2
  have h4 : FrU (r4 (r3 (r2 (s1 (rS σ))))).1 := by unfold r4; split; exact (fru_s h3).2.2.2.1; exact h3
  have h5 : FrU (r5 (r4 (r3 (r2 (s1 (rS σ)))))).1 := by unfold r5; split; exact (fru_s h4).2.2.2.2.1; exact h4
  have h6 : FrU (r6 (r5 (r4 (r3 (r2 (s1 (rS σ))))))).1 := by
    unfold r6
    split
    · split
      · exact (fru_s h5).2.2.2.2.2.1
      · exact (fru_s (fru_s h5).2.2.2.2.2.1).2.2.2.2.2.2
    · exact h5
  exact h6

theorem Rst.low {wb : World} {b g : Nat} {x : Fr × Sg} {τ : Sg} {y : Fr} {g2 : Nat} {wi w' : World} (h : Rst wb b g x wi) (h2 : Rst wi b g2 (y, τ) w') : Rst wb b g (x.1, τ) w' :=
  ⟨h2.rd, (h2.but.block g h.box.lt (by have := h.ge; have := h.lt; omega)).trans h.box, h.but.trans h2.but, h.ge, h.lt⟩

set_option maxRecDepth 100000 in
set_option maxHeartbeats 8000000 in
theorem progRead_any (σ : Sg) (w : World) (b : Nat) (ht : HdTab w) (h : Rs w b σ) (hbg : b ≠ 0) :
    Calls Tryd.prog 21 #[.pointer (some ⟨b, 0, none⟩)] w fun e w' => e = .returned (Fr_.v (rdP σ).1) ∧ Rs w' b (rdP σ).2 ∧ But b w w' := by
  obtain ⟨w1, hw1⟩ : ∃ w1, w.alloc (.cells #[.int .i64 0, .bool false, .bool false, .bool false, .bool false, .bool false, .bool false, .int .i64 0, .int .i64 0, .int .u64 0, .int .u64 0, .int .u64 0, .int .i64 0, .int .i64 0, .int .i64 0, .int .i64 0, .int .i64 0, .string ⟨#[]⟩] 34) = w1 := ⟨_, rfl⟩
  have b1 : Below w.heap.size w w1 := hw1 ▸ (Below.refl _ _).alloc (Nat.le_refl _) _
  have R1 := Lib.hid (show Rst w b w.heap.size (Fr_.zf, σ) w1 from ⟨h.blk (b1.block b h.lt), hw1 ▸ Fr_.Box.newC w Fr_.zf, But.of_below b1 (Nat.le_refl _), Nat.le_refl _, h.lt⟩)
  have HT : Hid (∀ wi, But b w wi → HdTab wi) := fun wi hb => ⟨fun i hi j v hv => (hb.cell (p := ⟨0, i * 5 + j, none⟩) ht.lt (fun e => hbg e.symm)).trans (ht.cell i hi j v hv), Nat.lt_of_lt_of_le ht.lt hb.size⟩
  have HB := Lib.hid hbg
  have HU := Lib.hid (fru_rd σ)
  obtain ⟨x, hx⟩ : ∃ x, x = rS σ := ⟨_, rfl⟩
  obtain ⟨y, hy⟩ : ∃ y, y = rR x := ⟨_, rfl⟩
  obtain ⟨τ, hτ⟩ : ∃ τ, τ = rF (chk y.1) y.2 := ⟨_, rfl⟩
  have HP : Hid (rdP σ = if τ.1 = 0 then (y.1, τ) else (Fr_.zf, τ)) := by unfold Hid rdP; rw [hτ, hy, hx]
  have CS := Lib.hid (readStart_any σ w1 b (HT.out _ R1.out.but) R1.out.rd hbg)
  rw [← hx] at CS HU
  rw [← hy] at HU
  have HX := Lib.hid hy
  have HTau := Lib.hid hτ
  clear ht h hbg b1 hx hy hτ
  by_cases hz : τ.1 = 0
  case' pos => have hz' : (τ.1 != 0) = false := by rw [hz]; rfl
  case' neg => have hz' : (τ.1 != 0) = true := by rw [bne_iff_ne]; exact hz
  case' pos => have HP := HP.out.trans (if_pos hz)
  case' neg => have HP := HP.out.trans (if_neg hz)
  all_goals
    rw [HP]
    clear HP hz
    go_enter Tryd.func21, Tryd.ntmps21
    go_wp2_with (first
      | (go_at_call 43; refine CS.out.mono ?_; rintro e w2 ⟨rfl, h1, h2⟩; have R2 := Lib.hid (R1.out.call h1 h2); clear h1 h2
         obtain ⟨w3, hw3⟩ : ∃ w3, w2.alloc (.cells (Fr_.C x.1) 34) = w3 := ⟨_, rfl⟩
         have b3 : Below w2.heap.size w2 w3 := hw3 ▸ (Below.refl _ _).alloc (Nat.le_refl _) _
         have R3 := Lib.hid (R2.out.below b3)
         have Q3 := Lib.hid (show Rst w2 b w2.heap.size x w3 from ⟨R3.out.rd, hw3 ▸ Fr_.Box.newC w2 x.1, But.of_below b3 (Nat.le_refl _), Nat.le_refl _, R2.out.rd.lt⟩)
         clear b3)
      | (go_at_call 44; refine (readRest_any x w2 w3 b _ (HT.out _ R3.out.but) Q3.out).mono ?_; rintro e w4 ⟨rfl, h4⟩; rw [← HX.out] at h4; have Q4 := Lib.hid h4; have R4 := Lib.hid (R2.out.low h4); clear h4; have l4 := Q4.out.box.loadF)
      | (go_at_call 10; refine (progCheck_any y.1 w4 (HT.out _ R4.out.but) HU.out).mono ?_; rintro e w5 ⟨rfl, hb⟩; have Q5 := Lib.hid (Q4.out.below hb); have R5 := Lib.hid (R4.out.below hb); clear hb l4)
      | (go_at_call 45; refine (fail_tot _ b _ _ Q5.out.rd).mono ?_; rintro e w6 ⟨rfl, h1, h2⟩; rw [← HTau.out] at h1; have Q6 := Lib.hid (Q5.out.call h1 h2); have R6 := Lib.hid (R5.out.call h1 h2); clear h1 h2; have l6 := Q6.out.box.loadF; have hst := R6.out.box.storeF; have hst0 := R6.out.box.storeF Fr_.zf; rw [← Fr_.v_zf] at hst0; have CE := Lib.hid (err_tot b _ _ Q6.out.rd))
      | (go_at_call 22; refine CE.out.mono ?_; rintro e w7 ⟨rfl, rfl⟩))
  all_goals first
    | (have st2 := R6.out.setRow Fr_.zf
       exact ret_frame Tryd.results21 rfl st2.box rfl ⟨rfl, st2.rd, st2.but⟩)
    | (have st2 := R6.out.setRow y.1
       exact ret_frame Tryd.results21 rfl st2.box rfl ⟨rfl, st2.rd, st2.but⟩)
end Go.Proofs.YtacbhbejchjbiaaDoor
