/-
  WALKS of package bundle: readPacket, readGap.
-/
import Derived.Test.YtlkipjpjkiffjaaBuEnc
import Derived.Test.YtlkipjpjkiffjaaBuW
import Derived.Deep.RegionWith
import Derived.BigRegion
namespace Go.Proofs.Ytlkipjpjkiffjaa
open Go.RowKit Go.Bu Go.Wr Go.Ad
attribute [local go_sem ↓ high] Pq_.loadF Pq_.storeF Pq_.v_cells Pq_.v_match
attribute [local go_sem] Pq_.C0 Pq_.C1 Pq_.C2 Pq_.loadF_new Pq_.storeF_zero

/-! What is read, as functions of the Reader's error and octets. -/
def lf (σ : Sg) : Nat := if σ.1 = 0 then σ.2.length else 0
def g0 (σ : Sg) : Sg := if lf σ < 14 then rF 1 σ else σ
def g1 (σ : Sg) : Int × Sg := rA (g0 σ)
def g2 (σ : Sg) : Int × Sg := rA (g1 σ).2
def gh (σ : Sg) : Pk := ⟨(g1 σ).1, (g2 σ).1, ⟨#[]⟩⟩
def g3 (σ : Sg) : Sg := rF (chk (gh σ)) (g2 σ).2
def g4 (σ : Sg) : Int × Sg := rN 2 (g3 σ)
def g5 (σ : Sg) : Sg := if 1024 < (g4 σ).1 then rF 2 (g4 σ).2 else (g4 σ).2
def g6 (σ : Sg) : ByteArray × Sg := rT (g4 σ).1.toNat (g5 σ)
def rP (σ : Sg) : Pk × Sg := ({ gh σ with s := (g6 σ).1 }, (g6 σ).2)
def k0 (n : Nat) (σ : Sg) : Sg := if lf σ ≤ n then rF 1 σ else σ
def k1 (n : Nat) (σ : Sg) : ByteArray × Sg := rT n (k0 n σ)
def rG (n : Nat) (σ : Sg) : Sg := if (k1 n σ).1 = ⟨(zs n).toArray⟩ then (k1 n σ).2 else rF 3 (k1 n σ).2

theorem rA_in (σ : Sg) : 0 ≤ (rA σ).1 ∧ (rA σ).1 < 18446744073709551616 := by
  unfold rA
  split
  · split
    · have h := bev_lt (σ.2.take 6)
      have hl : (σ.2.take 6).length ≤ 6 := by rw [List.length_take]; omega
      have h2 : bev (σ.2.take 6) < 281474976710656 := Nat.lt_of_lt_of_le h (Nat.le_trans (Nat.pow_le_pow_right (by decide) hl) (by decide))
      exact ⟨Int.natCast_nonneg _, by simp only; omega⟩
    · exact ⟨Int.le_refl _, show (0 : Int) < _ by decide⟩
  · exact ⟨Int.le_refl _, show (0 : Int) < _ by decide⟩
theorem gh_w (σ : Sg) : PkW (gh σ) := ⟨rA_in _, rA_in _⟩
theorem rN_in (σ : Sg) : 0 ≤ (rN 2 σ).1 ∧ (rN 2 σ).1 < 65536 := by
  unfold rN
  split
  · split
    · rename_i h1 h2
      have h := val_lt (σ.2.take 2)
      rw [List.length_take, Nat.min_eq_left h2, show pow 2 = 65536 from by decide] at h
      exact ⟨Int.natCast_nonneg _, by simp only; omega⟩
    · exact ⟨Int.le_refl _, show (0 : Int) < _ by decide⟩
  · exact ⟨Int.le_refl _, show (0 : Int) < _ by decide⟩

theorem left_any (b : Nat) (σ : Sg) (w : World) (h : Rs w b σ) : Calls Try.prog 28 #[.pointer (some ⟨b, 0, none⟩)] w fun e w' => e = .returned (.int .i64 (lf σ : Nat)) ∧ w = w' := by
  obtain ⟨e0, l⟩ := σ
  unfold lf
  by_cases he : e0 = 0
  · subst he
    simp only [if_true]
    exact left_tot b l w h
  · simp only [if_neg he]
    exact left_bad b e0 w (Rd.c0 h) (by simpa using he)

/-- A packet handed back out of a result's cell. -/
theorem ret_pk1 {fn : Func} {p : Tmp} (hr : fn.results = #[.cell p 30]) {tmps : Array Value} {ds : _} {w : World} {g : Nat} {y : Pk} {R : Ending → World → Prop} (hp : tmps.getD p undef = .pointer (some ⟨g, 0, none⟩)) (hb : Pq_.Box w g y) (hd : ds = []) (hR : R (.returned (Pq_.v y)) w) :
    bodyPost Try.prog fn R .ret ⟨tmps, ds⟩ w :=
  bodyPost_ret (results_cell_row hr tmps w g 30 (Pq_.C y) (0, 0) _ hp hb Try.underlying30 rfl Pq_.sz) hd hR

/-- The Reader at b, the result's cell, all else as it was. -/
structure Rp (w : World) (b : Nat) (σ : Sg) (wi : World) : Prop where
  rd : Rs wi b σ
  res : Pq_.Box wi w.heap.size zp
  bt : But b w wi
  lt : b < w.heap.size
theorem Rp.new {w : World} {b : Nat} {σ : Sg} (h : Rs w b σ) : Rp w b σ (w.alloc (.cells (Pq_.C zp) 30)) :=
  ⟨h.blk (Below.heap_alloc _ _ _ h.lt), Pq_.Box.new w zp, (But.refl b w).alloc _, h.lt⟩
theorem Rp.read {w wi w' : World} {b : Nat} {σ σ' : Sg} (h : Rp w b σ wi) (h1 : Rs w' b σ') (h2 : But b wi w') : Rp w b σ' w' := by
  have := h.lt
  exact ⟨h1, (h2.block _ h.res.lt (by omega)).trans h.res, h.bt.trans h2, h.lt⟩
/-- And the packet. -/
structure Rq (w : World) (b pb : Nat) (p : Pk) (σ : Sg) (wi : World) : Prop where
  rp : Rp w b σ wi
  box : Pq_.Box wi pb p
  lt : w.heap.size < pb
theorem Rq.new {w wi : World} {b : Nat} {σ : Sg} (h : Rp w b σ wi) (p : Pk) : Rq w b wi.heap.size p σ (wi.alloc (.cells (Pq_.C p) 30)) :=
  ⟨⟨h.rd.blk (Below.heap_alloc _ _ _ h.rd.lt), h.res.allocC _, h.bt.alloc _, h.lt⟩, Pq_.Box.new wi p, h.res.lt⟩
theorem Rq.read {w wi w' : World} {b pb : Nat} {p : Pk} {σ σ' : Sg} (h : Rq w b pb p σ wi) (h1 : Rs w' b σ') (h2 : But b wi w') : Rq w b pb p σ' w' := by
  have := h.lt
  have := h.rp.lt
  exact ⟨h.rp.read h1 h2, (h2.block _ h.box.lt (by omega)).trans h.box, h.lt⟩
theorem Rq.keep {w wi w' : World} {b pb : Nat} {p : Pk} {σ : Sg} (h : Rq w b pb p σ wi) (hb : Below wi.heap.size wi w') : Rq w b pb p σ w' :=
  h.read (h.rp.rd.blk (hb.block b h.rp.rd.lt)) (But.of_below hb (Nat.le_refl _))

theorem but_of_drew {b : Nat} {w w' : World} (h : But b w.drew w') : But b w w' := ⟨h.os, h.tape, h.output, h.size, h.block⟩
theorem but_setRow16 {b g : Nat} {w W : World} {D : Array Value} (h : But b w W) (hg : w.heap.size ≤ g) : But b w (W.setRow g D) :=
  ⟨h.os, h.tape, h.output, by have := h.size; simpa [World.setRow] using this, fun k hk hne => (Pq_.setRow_other (by omega) D).trans (h.block k hk hne)⟩
theorem Rq.fin {w wi : World} {b pb : Nat} {p : Pk} {σ : Sg} (h : Rq w b pb p σ wi) (d : ByteArray) (y : Pk) :
    Rs ((wi.setCell ⟨pb, 2, none⟩ (.string d)).setRow w.heap.size (Pq_.C y)) b σ ∧ But b w ((wi.setCell ⟨pb, 2, none⟩ (.string d)).setRow w.heap.size (Pq_.C y)) := by
  have h1 := h.lt
  have h2 := h.rp.lt
  exact ⟨h.rp.rd.blk ((Pq_.setRow_other (by omega) _).trans (Below.heap_setCell _ _ _ _ (by show b ≠ pb; omega))), but_setRow16 (h.rp.bt.setCell (p := ⟨pb, 2, none⟩) (.inr (Nat.le_of_lt h1)) _) (Nat.le_refl _)⟩

set_option maxRecDepth 100000 in
set_option maxHeartbeats 4000000 in
theorem buReadP_any (b : Nat) (σ : Sg) (w : World) (h : Rs w b σ) :
    Calls Try.prog 27 #[.pointer (some ⟨b, 0, none⟩)] w fun e w' => e = .returned (Pq_.v (rP σ).1) ∧ Rs w' b (rP σ).2 ∧ But b w w' := by
  obtain ⟨w1, hw1⟩ : ∃ w1, w.alloc (.cells (Pq_.C zp) 30) = w1 := ⟨_, rfl⟩
  have hw1' : w.alloc (.cells #[.int .u64 0, .int .u64 0, .string ⟨#[]⟩] 30) = w1 := hw1
  have R1 := Lib.hid (show Rp w b σ w1 from hw1 ▸ Rp.new h)
  have CL := Lib.hid (left_any b σ w1 R1.out.rd)
  have CF1 : Hid (∀ wi, Rp w b σ wi → Calls Try.prog 40 #[.pointer (some ⟨b, 0, none⟩), .int .i64 1] wi fun e w' => e = .returned (.tuple #[]) ∧ Rp w b (rF 1 σ) w') := fun wi h1 =>
    (fail_tot 1 b σ wi h1.rd).mono fun _ _ q => ⟨q.1, h1.read q.2.1 q.2.2⟩
  have CA1 : Hid (∀ wi, Rp w b (g0 σ) wi → Calls Try.prog 41 #[.pointer (some ⟨b, 0, none⟩)] wi fun e w' => e = .returned (.int .u64 (g1 σ).1) ∧ Rp w b (g1 σ).2 w') := fun wi h1 =>
    (addr_tot b (g0 σ) wi h1.rd).mono fun _ _ q => ⟨q.1, h1.read q.2.1 q.2.2⟩
  have CA2 : Hid (∀ wi, Rp w b (g1 σ).2 wi → Calls Try.prog 41 #[.pointer (some ⟨b, 0, none⟩)] wi fun e w' => e = .returned (.int .u64 (g2 σ).1) ∧ Rp w b (g2 σ).2 w') := fun wi h1 =>
    (addr_tot b (g1 σ).2 wi h1.rd).mono fun _ _ q => ⟨q.1, h1.read q.2.1 q.2.2⟩
  have hfold : (.agg #[.int .u64 (g1 σ).1, .int .u64 (g2 σ).1, .string ⟨#[]⟩] : Value) = Pq_.v (gh σ) := rfl
  have CC : Hid (∀ pb wi, Rq w b pb (gh σ) (g2 σ).2 wi → Calls Try.prog 10 #[Pq_.v (gh σ)] wi fun e w' => e = .returned (.int .i64 (chk (gh σ))) ∧ Rq w b pb (gh σ) (g2 σ).2 w') := fun pb wi h1 =>
    (buCheck_any (gh σ) wi (gh_w σ)).mono fun _ _ q => ⟨q.1, h1.keep q.2⟩
  have CF2 : Hid (∀ pb wi, Rq w b pb (gh σ) (g2 σ).2 wi → Calls Try.prog 40 #[.pointer (some ⟨b, 0, none⟩), .int .i64 (chk (gh σ))] wi fun e w' => e = .returned (.tuple #[]) ∧ Rq w b pb (gh σ) (g3 σ) w') := fun pb wi h1 =>
    (fail_tot (chk (gh σ)) b (g2 σ).2 wi h1.rp.rd).mono fun _ _ q => ⟨q.1, h1.read q.2.1 q.2.2⟩
  have CN : Hid (∀ pb wi, Rq w b pb (gh σ) (g3 σ) wi → Calls Try.prog 42 #[.pointer (some ⟨b, 0, none⟩), .int .i64 2] wi fun e w' => e = .returned (.int .i64 (g4 σ).1) ∧ Rq w b pb (gh σ) (g4 σ).2 w') := fun pb wi h1 =>
    (num_tot 2 b (g3 σ) wi h1.rp.rd (by decide)).mono fun _ _ q => ⟨q.1, h1.read q.2.1 q.2.2⟩
  have CF3 : Hid (∀ pb wi, Rq w b pb (gh σ) (g4 σ).2 wi → Calls Try.prog 40 #[.pointer (some ⟨b, 0, none⟩), .int .i64 2] wi fun e w' => e = .returned (.tuple #[]) ∧ Rq w b pb (gh σ) (rF 2 (g4 σ).2) w') := fun pb wi h1 =>
    (fail_tot 2 b (g4 σ).2 wi h1.rp.rd).mono fun _ _ q => ⟨q.1, h1.read q.2.1 q.2.2⟩
  have CT : Hid (∀ pb wi, Rq w b pb (gh σ) (g5 σ) wi → Calls Try.prog 43 #[.pointer (some ⟨b, 0, none⟩), .int .i64 (g4 σ).1] wi fun e w' => e = .returned (.string (g6 σ).1) ∧ Rq w b pb (gh σ) (g6 σ).2 w') := fun pb wi h1 => by
    have c := take_tot (g4 σ).1.toNat b (g5 σ) wi h1.rp.rd
    rw [Int.toNat_of_nonneg (show 0 ≤ (g4 σ).1 from (rN_in (g3 σ)).1)] at c
    exact c.mono fun _ _ q => ⟨q.1, h1.read q.2.1 q.2.2⟩
  have H0 : Hid (g0 σ = if lf σ < 14 then rF 1 σ else σ) := rfl
  have H5 : Hid (g5 σ = if 1024 < (g4 σ).1 then rF 2 (g4 σ).2 else (g4 σ).2) := rfl
  have HP : Hid (rP σ = ({ gh σ with s := (g6 σ).1 }, (g6 σ).2)) := rfl
  rw [HP.out]
  clear HP
  simp only
  generalize g0 σ = s0 at *
  generalize (g1 σ).2 = s1 at *
  generalize (g1 σ).1 = to at *
  generalize (g2 σ).2 = s2 at *
  generalize (g2 σ).1 = fr at *
  generalize gh σ = p at *
  generalize chk p = r at *
  generalize g3 σ = s3 at *
  generalize (g4 σ).2 = s4 at *
  generalize (g4 σ).1 = n at *
  generalize g5 σ = s5 at *
  generalize (g6 σ).2 = s6 at *
  generalize (g6 σ).1 = d at *
  generalize hlf : lf σ = k at *
  clear hlf
  have H1 := Lib.hid hw1
  clear hw1
  have HN : Hid (∀ wi, Rp w b s2 wi → Rq w b wi.heap.size p s2 (wi.alloc (.cells (Pq_.C p) 30))) := fun wi h => Rq.new h p
  by_cases hk : k < 14
  · have hk' : (k : Int) < 14 := by omega
    rw [if_pos hk] at H0
    obtain rfl := H0.out
    clear hk H0
    by_cases hn : 1024 < n
    · rw [if_pos hn] at H5
      obtain rfl := H5.out
      clear H5
      go_enter Try.func27, Try.ntmps27
      go_wp2_with (first
        | (go_at_call 28; refine (CL.out).mono ?_; rintro e w' ⟨rfl, rfl⟩)
        | (go_at_call 43; refine (CT.out _ _ R8.out).mono ?_; rintro e w9 ⟨rfl, h⟩; have R9 := Lib.hid h; have sc := h.box.all; have sf := h.box.frozen; have B9 := Lib.hid (h.box.set2 d); have l9 := B9.out.loadF; have G9 := Lib.hid (Pq_.Box.other h.rp.res (a := ⟨w4.heap.size, 2, none⟩) (by have := h.lt; exact Nat.ne_of_lt this) (.string d)); have st9 := G9.out.storeF { p with s := d }; clear h)
        | (go_at_call 40; with_reducible refine (CF3.out _ _ R7.out).mono ?_; rintro e w8 ⟨rfl, h⟩; have R8 := Lib.hid h; clear h)
        | (go_at_call 42; refine (CN.out _ _ R6.out).mono ?_; rintro e w7 ⟨rfl, h⟩; have R7 := Lib.hid h; clear h)
        | (go_at_call 40; with_reducible refine (CF2.out _ _ R5.out).mono ?_; rintro e w6 ⟨rfl, h⟩; have R6 := Lib.hid h; clear h)
        | (go_at_call 10; refine (CC.out _ _ R4q.out).mono ?_; rintro e w5 ⟨rfl, h⟩; have R5 := Lib.hid h; clear h)
        | (go_at_call 41; with_reducible refine (CA2.out _ R3.out).mono ?_; rintro e w4 ⟨rfl, h⟩; have R4 := Lib.hid h; have R4q := Lib.hid (HN.out _ h); clear h)
        | (go_at_call 41; with_reducible refine (CA1.out _ R2.out).mono ?_; rintro e w3 ⟨rfl, h⟩; have R3 := Lib.hid h; clear h)
        | (go_at_call 40; refine (CF1.out _ R1.out).mono ?_; rintro e w2 ⟨rfl, h⟩; have R2 := Lib.hid h; clear h))
      exact ret_pk1 Try.results27 rfl (G9.out.setRow _) rfl ⟨rfl, R9.out.fin d _⟩
    · rw [if_neg hn] at H5
      obtain rfl := H5.out
      clear H5
      go_enter Try.func27, Try.ntmps27
      go_wp2_with (first
        | (go_at_call 28; refine (CL.out).mono ?_; rintro e w' ⟨rfl, rfl⟩)
        | (go_at_call 43; refine (CT.out _ _ R7.out).mono ?_; rintro e w9 ⟨rfl, h⟩; have R9 := Lib.hid h; have sc := h.box.all; have sf := h.box.frozen; have B9 := Lib.hid (h.box.set2 d); have l9 := B9.out.loadF; have G9 := Lib.hid (Pq_.Box.other h.rp.res (a := ⟨w4.heap.size, 2, none⟩) (by have := h.lt; exact Nat.ne_of_lt this) (.string d)); have st9 := G9.out.storeF { p with s := d }; clear h)
        | (go_at_call 42; refine (CN.out _ _ R6.out).mono ?_; rintro e w7 ⟨rfl, h⟩; have R7 := Lib.hid h; clear h)
        | (go_at_call 40; with_reducible refine (CF2.out _ _ R5.out).mono ?_; rintro e w6 ⟨rfl, h⟩; have R6 := Lib.hid h; clear h)
        | (go_at_call 10; refine (CC.out _ _ R4q.out).mono ?_; rintro e w5 ⟨rfl, h⟩; have R5 := Lib.hid h; clear h)
        | (go_at_call 41; with_reducible refine (CA2.out _ R3.out).mono ?_; rintro e w4 ⟨rfl, h⟩; have R4 := Lib.hid h; have R4q := Lib.hid (HN.out _ h); clear h)
        | (go_at_call 41; with_reducible refine (CA1.out _ R2.out).mono ?_; rintro e w3 ⟨rfl, h⟩; have R3 := Lib.hid h; clear h)
        | (go_at_call 40; refine (CF1.out _ R1.out).mono ?_; rintro e w2 ⟨rfl, h⟩; have R2 := Lib.hid h; clear h))
      exact ret_pk1 Try.results27 rfl (G9.out.setRow _) rfl ⟨rfl, R9.out.fin d _⟩
  · have hk' : ¬ (k : Int) < 14 := by omega
    rw [if_neg hk] at H0
    obtain rfl := H0.out
    clear hk H0
    by_cases hn : 1024 < n
    · rw [if_pos hn] at H5
      obtain rfl := H5.out
      clear H5
      go_enter Try.func27, Try.ntmps27
      go_wp2_with (first
        | (go_at_call 28; refine (CL.out).mono ?_; rintro e w' ⟨rfl, rfl⟩)
        | (go_at_call 43; refine (CT.out _ _ R8.out).mono ?_; rintro e w9 ⟨rfl, h⟩; have R9 := Lib.hid h; have sc := h.box.all; have sf := h.box.frozen; have B9 := Lib.hid (h.box.set2 d); have l9 := B9.out.loadF; have G9 := Lib.hid (Pq_.Box.other h.rp.res (a := ⟨w4.heap.size, 2, none⟩) (by have := h.lt; exact Nat.ne_of_lt this) (.string d)); have st9 := G9.out.storeF { p with s := d }; clear h)
        | (go_at_call 40; with_reducible refine (CF3.out _ _ R7.out).mono ?_; rintro e w8 ⟨rfl, h⟩; have R8 := Lib.hid h; clear h)
        | (go_at_call 42; refine (CN.out _ _ R6.out).mono ?_; rintro e w7 ⟨rfl, h⟩; have R7 := Lib.hid h; clear h)
        | (go_at_call 40; with_reducible refine (CF2.out _ _ R5.out).mono ?_; rintro e w6 ⟨rfl, h⟩; have R6 := Lib.hid h; clear h)
        | (go_at_call 10; refine (CC.out _ _ R4q.out).mono ?_; rintro e w5 ⟨rfl, h⟩; have R5 := Lib.hid h; clear h)
        | (go_at_call 41; with_reducible refine (CA2.out _ R3.out).mono ?_; rintro e w4 ⟨rfl, h⟩; have R4 := Lib.hid h; have R4q := Lib.hid (HN.out _ h); clear h)
        | (go_at_call 41; with_reducible refine (CA1.out _ R1.out).mono ?_; rintro e w3 ⟨rfl, h⟩; have R3 := Lib.hid h; clear h))
      exact ret_pk1 Try.results27 rfl (G9.out.setRow _) rfl ⟨rfl, R9.out.fin d _⟩
    · rw [if_neg hn] at H5
      obtain rfl := H5.out
      clear H5
      go_enter Try.func27, Try.ntmps27
      go_wp2_with (first
        | (go_at_call 28; refine (CL.out).mono ?_; rintro e w' ⟨rfl, rfl⟩)
        | (go_at_call 43; refine (CT.out _ _ R7.out).mono ?_; rintro e w9 ⟨rfl, h⟩; have R9 := Lib.hid h; have sc := h.box.all; have sf := h.box.frozen; have B9 := Lib.hid (h.box.set2 d); have l9 := B9.out.loadF; have G9 := Lib.hid (Pq_.Box.other h.rp.res (a := ⟨w4.heap.size, 2, none⟩) (by have := h.lt; exact Nat.ne_of_lt this) (.string d)); have st9 := G9.out.storeF { p with s := d }; clear h)
        | (go_at_call 42; refine (CN.out _ _ R6.out).mono ?_; rintro e w7 ⟨rfl, h⟩; have R7 := Lib.hid h; clear h)
        | (go_at_call 40; with_reducible refine (CF2.out _ _ R5.out).mono ?_; rintro e w6 ⟨rfl, h⟩; have R6 := Lib.hid h; clear h)
        | (go_at_call 10; refine (CC.out _ _ R4q.out).mono ?_; rintro e w5 ⟨rfl, h⟩; have R5 := Lib.hid h; clear h)
        | (go_at_call 41; with_reducible refine (CA2.out _ R3.out).mono ?_; rintro e w4 ⟨rfl, h⟩; have R4 := Lib.hid h; have R4q := Lib.hid (HN.out _ h); clear h)
        | (go_at_call 41; with_reducible refine (CA1.out _ R1.out).mono ?_; rintro e w3 ⟨rfl, h⟩; have R3 := Lib.hid h; clear h))
      exact ret_pk1 Try.results27 rfl (G9.out.setRow _) rfl ⟨rfl, R9.out.fin d _⟩

set_option maxRecDepth 100000 in
set_option maxHeartbeats 4000000 in
theorem buReadG_any (b n : Nat) (σ : Sg) (w : World) (h : Rs w b σ) (hn : n < 4) :
    Calls Try.prog 29 #[.pointer (some ⟨b, 0, none⟩), .int .i64 (n : Int)] w fun e w' => e = .returned (.tuple #[]) ∧ Rs w' b (rG n σ) ∧ But b w w' := by
  have R1 := Lib.hid h
  have CL := Lib.hid (left_any b σ w h)
  have CF1 := Lib.hid (fail_tot 1 b σ w h)
  have CT := Lib.hid fun wi (h1 : Rs wi b (k0 n σ)) => take_tot n b (k0 n σ) wi h1
  have CF3 := Lib.hid fun wi (h1 : Rs wi b (k1 n σ).2) => fail_tot 3 b (k1 n σ).2 wi h1
  have hzs := zslice n hn
  have H0 : Hid (k0 n σ = if lf σ ≤ n then rF 1 σ else σ) := rfl
  have HG : Hid (rG n σ = if (k1 n σ).1 = ⟨(zs n).toArray⟩ then (k1 n σ).2 else rF 3 (k1 n σ).2) := rfl
  have H1 : rT n (k0 n σ) = k1 n σ := rfl
  rw [H1] at CT
  clear H1
  have he : ∀ {a b : ByteArray}, a = b → (a.toList == b.toList) = true := fun h => by rw [h]; simp
  have hne : ∀ {a b : ByteArray}, ¬ a = b → (a.toList == b.toList) = false := fun {a b} h => by
    refine beq_eq_false_iff_ne.2 fun e => h ?_
    rw [ByteArray.toList_eq, ByteArray.toList_eq] at e
    obtain ⟨⟨x⟩⟩ := a; obtain ⟨⟨y⟩⟩ := b
    simp at e; rw [e]
  rw [HG.out]
  clear h
  generalize (⟨(zs n).toArray⟩ : ByteArray) = z at *
  generalize k0 n σ = s0 at *
  generalize (k1 n σ).2 = s1 at *
  generalize (k1 n σ).1 = t at *
  generalize lf σ = k at *
  clear HG
  by_cases hk : k ≤ n
  · have hk' : (k : Int) ≤ (n : Int) := by omega
    rw [if_pos hk] at H0
    obtain rfl := H0.out
    clear hk H0
    by_cases ht : t = z
    · have hq := he ht
      rw [if_pos ht]
      clear he hne CF3 ht
      go_enter Try.func29, Try.ntmps29
      go_wp2_with (first
        | (go_at_call 28; refine (CL.out).mono ?_; rintro e w' ⟨rfl, rfl⟩)
        | (go_at_call 40; refine (CF1.out).mono ?_; rintro e w2 ⟨rfl, h1, h2⟩; have R2 := Lib.hid h1; have T2 := Lib.hid h2; clear h1 h2))
      go_region_with (first
        | (go_at_call 43; refine (CT.out _ ?hw).mono ?_; (case hw => exact R2.out.blk rfl); rintro e w3 ⟨rfl, h1, h2⟩; have R3 := Lib.hid h1; have T3 := Lib.hid (T2.out.trans (but_of_drew h2)); clear h1 h2))
      go_wp2
      go_returns
      exact ⟨rfl, R3.out, T3.out⟩
    · have hq := hne ht
      rw [if_neg ht]
      clear he hne ht
      go_enter Try.func29, Try.ntmps29
      go_wp2_with (first
        | (go_at_call 28; refine (CL.out).mono ?_; rintro e w' ⟨rfl, rfl⟩)
        | (go_at_call 40; refine (CF1.out).mono ?_; rintro e w2 ⟨rfl, h1, h2⟩; have R2 := Lib.hid h1; have T2 := Lib.hid h2; clear h1 h2))
      go_region_with (first
        | (go_at_call 43; refine (CT.out _ ?hw).mono ?_; (case hw => exact R2.out.blk rfl); rintro e w3 ⟨rfl, h1, h2⟩; have R3 := Lib.hid h1; have T3 := Lib.hid (T2.out.trans (but_of_drew h2)); clear h1 h2))
      go_wp2_with (go_at_call 40; refine (CF3.out _ R3.out).mono ?_; rintro e w4 ⟨rfl, h1, h2⟩; have R4 := Lib.hid h1; have T4 := Lib.hid (T3.out.trans h2); clear h1 h2)
      go_returns
      exact ⟨rfl, R4.out, T4.out⟩
  · have hk' : ¬ (k : Int) ≤ (n : Int) := by omega
    rw [if_neg hk] at H0
    obtain rfl := H0.out
    clear hk H0
    by_cases ht : t = z
    · have hq := he ht
      rw [if_pos ht]
      clear he hne CF3 ht
      go_enter Try.func29, Try.ntmps29
      go_wp2_with (first
        | (go_at_call 28; refine (CL.out).mono ?_; rintro e w' ⟨rfl, rfl⟩))
      have R2 := R1
      have T2 := Lib.hid (But.refl b w)
      go_region_with (first
        | (go_at_call 43; refine (CT.out _ ?hw).mono ?_; (case hw => exact R2.out.blk rfl); rintro e w3 ⟨rfl, h1, h2⟩; have R3 := Lib.hid h1; have T3 := Lib.hid (T2.out.trans (but_of_drew h2)); clear h1 h2))
      go_wp2
      go_returns
      exact ⟨rfl, R3.out, T3.out⟩
    · have hq := hne ht
      rw [if_neg ht]
      clear he hne ht
      go_enter Try.func29, Try.ntmps29
      go_wp2_with (first
        | (go_at_call 28; refine (CL.out).mono ?_; rintro e w' ⟨rfl, rfl⟩))
      have R2 := R1
      have T2 := Lib.hid (But.refl b w)
      go_region_with (first
        | (go_at_call 43; refine (CT.out _ ?hw).mono ?_; (case hw => exact R2.out.blk rfl); rintro e w3 ⟨rfl, h1, h2⟩; have R3 := Lib.hid h1; have T3 := Lib.hid (T2.out.trans (but_of_drew h2)); clear h1 h2))
      go_wp2_with (go_at_call 40; refine (CF3.out _ R3.out).mono ?_; rintro e w4 ⟨rfl, h1, h2⟩; have R4 := Lib.hid h1; have T4 := Lib.hid (T3.out.trans h2); clear h1 h2)
      go_returns
      exact ⟨rfl, R4.out, T4.out⟩
end Go.Proofs.Ytlkipjpjkiffjaa
