/-
  THE WALK of the reference of layer 14: fields.
-/
import Derived.Test.YtojiffpmmgjpjaaDoorBnRefF
import Derived.Test.YtojiffpmmgjpjaaDoorBnRd2
import Derived.Deep.RegionHeld3
namespace Go.Proofs.YtojiffpmmgjpjaaDoor
open Go.RowKit Go.Bn Go.Wr
attribute [local go_sem ↓ high] Bn_.loadF Bn_.storeF Bn_.v_cells Bn_.v_match Bn_.loadT Bn_.storeT Bn_.storeS Bn_.storeP
attribute [local go_sem] storeT_new14 loadT_new14

theorem swE_len {b : Bn} {K : List Go.Em.El} (ho : ord K = true) : ∃ (x0 x1 x2 x3 x4 : Go.Em.El) (hl : 4 < K.length), K[0] = x0 ∧ K[1] = x1 ∧ K[2] = x2 ∧ K[3] = x3 ∧ K[4] = x4 ∧
    ((K.length = 5 ∧ swE b K = fdE x1.s x2.s x3.s x4.s 0 ∧ lsB b K = fdB b x0.s x1.s x2.s x3.s x4.s) ∨
     (K.length = 6 ∧ ∃ (x5 : Go.Em.El) (hl : 5 < K.length), K[5] = x5 ∧ swE b K = fdE x1.s x2.s x3.s x4.s (if Go.Bn.sz1 x5.s 2 = 0 then (if num x5.s 0 1 = 0 then 3 else 0) else Go.Bn.sz1 x5.s 2) ∧ lsB b K = { fdB b x0.s x1.s x2.s x3.s x4.s with sc := num x5.s 0 1, sn := num x5.s 1 1 })) := by
  rcases ord_iff.1 ho with ⟨x0, x1, x2, x3, x4, rfl, h0, h1, h2, h3, h4⟩ | ⟨x0, x1, x2, x3, x4, x5, rfl, h0, h1, h2, h3, h4, h5⟩
  · have := fd_five (b := b) h0 h1 h2 h3 h4
    exact ⟨x0, x1, x2, x3, x4, by simp, rfl, rfl, rfl, rfl, rfl, .inl ⟨rfl, this.1, this.2⟩⟩
  · have := fd_six (b := b) h0 h1 h2 h3 h4 h5
    exact ⟨x0, x1, x2, x3, x4, by simp, rfl, rfl, rfl, rfl, rfl, .inr ⟨rfl, x5, by simp, rfl, this.1, this.2⟩⟩
/-- An element's data, where the elements lie. -/
theorem el_data {W w : World} {b off : Nat} {K : List Go.Em.El} (h : El_.At w (some ⟨b, off, none⟩) K) (hb : Below w.heap.size w W) (i : Nat) (hi : i < K.length) : W.cell? ⟨b, off + i * 2 + 1, none⟩ = some (.string K[i].s) := by
  obtain ⟨b', off', e, -, -, q⟩ := h.below hb i hi
  injection e with e; injection e with e1 e2; subst e1; subst e2
  exact q

/-- Some beacon lies in the block. -/
def Hf (w w' : World) : Prop := ∃ z, Fst14 w z w'
theorem hf_of {w w' : World} {z : Bn} (h : Fst14 w z w') : Hf w w' := by unfold Hf; exact ⟨z, h⟩

set_option maxRecDepth 100000 in
set_option maxHeartbeats 16000000 in
theorem refFields14_any (b0 : Bn) (K : List Go.Em.El) (sa : Option Addr) (c : Nat) (w : World) (h : El_.At w sa K) (ho : ord K = true) (hsz : ∀ x ∈ K, x.s.size ≤ 100000) :
    Calls Tryd.prog 33 #[Bn_.v b0, .slice sa K.length c] w fun e w' => FdPost b0 K w e w' := by
  obtain ⟨x0, x1, x2, x3, x4, hl, k0, k1, k2, k3, k4, hcase⟩ := swE_len (b := b0) ho
  obtain ⟨bb, off, rfl, -⟩ := h 0 (by omega)
  have D0 : Hid (∀ W, Below w.heap.size w W → W.cell? ⟨bb, off + 1, none⟩ = some (.string x0.s)) := fun W hb => k0 ▸ el_data h hb 0 (by omega)
  have D1 : Hid (∀ W, Below w.heap.size w W → W.cell? ⟨bb, off + 3, none⟩ = some (.string x1.s)) := fun W hb => k1 ▸ el_data h hb 1 (by omega)
  have D2 : Hid (∀ W, Below w.heap.size w W → W.cell? ⟨bb, off + 5, none⟩ = some (.string x2.s)) := fun W hb => k2 ▸ el_data h hb 2 (by omega)
  have D3 : Hid (∀ W, Below w.heap.size w W → W.cell? ⟨bb, off + 7, none⟩ = some (.string x3.s)) := fun W hb => k3 ▸ el_data h hb 3 (by omega)
  have D4 : Hid (∀ W, Below w.heap.size w W → W.cell? ⟨bb, off + 9, none⟩ = some (.string x4.s)) := fun W hb => k4 ▸ el_data h hb 4 (by omega)
  have hs2 : x2.s.size ≤ 100000 := k2 ▸ hsz _ (List.getElem_mem _)
  have F0' := Lib.hid (Fst14.new w b0)
  obtain ⟨w2, hw2⟩ : ∃ w2, (w.alloc (.cells (Bn_.C b0) 31)).alloc (.cells (Bn_.C zb) 31) = w2 := ⟨_, rfl⟩
  rw [hw2] at F0'
  have hw2' : (w.alloc (.cells (Bn_.C b0) 31)).alloc (.cells #[.int .i64 0, .int .i64 0, .string ⟨#[]⟩, .int .i64 0, .int .i64 0, .int .i64 0, .int .i64 0, .bool false, .int .u64 0, .int .i64 0, .int .i64 0, .int .i64 0, .int .i64 0, .int .i64 0, .int .i64 0, .int .i64 0, .int .i64 0, .int .i64 0, .int .i64 0, .int .i64 0, .int .i64 0, .int .i64 0, .int .i64 0, .int .i64 0, .int .i64 0, .int .i64 0, .int .i64 0] 31) = w2 := hw2
  clear hw2
  have F0 := F0'
  clear F0'
  have f0 := F0.out.box.frozen 2
  have e0 := F0.out.box.all 2
  have t0 := D0.out _ F0.out.bel
  generalize x0.s = s0 at *
  generalize x1.s = s1 at *
  generalize x2.s = s2 at *
  generalize x3.s = s3 at *
  generalize x4.s = s4 at *
  clear k0 k1 k2 k3 k4
  have hl0 : (0 : Int) < (K.length : Int) := by omega
  have hl1 : (1 : Int) < (K.length : Int) := by omega
  have hl2 : (2 : Int) < (K.length : Int) := by omega
  have hl3 : (3 : Int) < (K.length : Int) := by omega
  have hl4 : (4 : Int) < (K.length : Int) := by omega
  have Z1 : Hid (∀ w, Calls Tryd.prog 57 #[.string s1, .int .i64 1] w fun e w' => e = .returned (.int .i64 (Go.Bn.sz1 s1 1)) ∧ w = w') := fun w => refSize14_any s1 1 w
  have Z3 : Hid (∀ w, Calls Tryd.prog 57 #[.string s3, .int .i64 2] w fun e w' => e = .returned (.int .i64 (Go.Bn.sz1 s3 2)) ∧ w = w') := fun w => refSize14_any s3 2 w
  have Z4 : Hid (∀ w, Calls Tryd.prog 57 #[.string s4, .int .i64 20] w fun e w' => e = .returned (.int .i64 (Go.Bn.sz1 s4 20)) ∧ w = w') := fun w => refSize14_any s4 20 w
  have N1 : Hid (Go.Bn.sz1 s1 1 = 0 → ∀ w, Calls Tryd.prog 34 #[.string s1, .int .i64 0, .int .i64 1] w fun e w' => e = .returned (.int .i64 (num s1 0 1)) ∧ Below w.heap.size w w') := fun h w => refNumber14_any s1 0 1 w (by decide) (by have := sz1_zero h; omega)
  have N3 : Hid (Go.Bn.sz1 s3 2 = 0 → ∀ w, Calls Tryd.prog 34 #[.string s3, .int .i64 0, .int .i64 2] w fun e w' => e = .returned (.int .i64 (num s3 0 2)) ∧ Below w.heap.size w w') := fun h w => refNumber14_any s3 0 2 w (by decide) (by have := sz1_zero h; omega)
  have CT : Hid (∀ w, Calls Tryd.prog 58 #[.string s2] w fun e w' => e = .returned (.tuple #[.agg #[.int .i64 (Go.Tm.dec s2).1.c, .int .i64 (Go.Tm.dec s2).1.p, .bool (Go.Tm.dec s2).1.g, .int .u64 (Go.Tm.dec s2).1.m], .int .i64 (Go.Tm.dec s2).2]) ∧ Below w.heap.size w w') := fun w => refDecode13_any s2 w (by omega)
  have HE : Hid (∀ r, fdE s1 s2 s3 s4 r = if Go.Bn.sz1 s1 1 = 0 then (if (Go.Tm.dec s2).2 = 0 then (if Go.Bn.sz1 s3 2 = 0 then (if Go.Bn.sz1 s4 20 = 0 then r else Go.Bn.sz1 s4 20) else Go.Bn.sz1 s3 2) else (Go.Tm.dec s2).2) else Go.Bn.sz1 s1 1) := fun _ => rfl
  have HW : Hid (∃ r, swE b0 K = fdE s1 s2 s3 s4 r) := by
    rcases hcase with ⟨-, h, -⟩ | ⟨-, x5, h5, -, h, -⟩ <;> exact ⟨_, h⟩
  have HZ4 : Hid (Go.Bn.sz1 s4 20 = 0 → s4.size = 20) := fun h => sz1_zero h
  have HFB0 : Hid (fdB b0 s0 s1 s2 s3 s4 = { b0 with nm := s0, ch := num s1 0 1, tm := (Go.Tm.dec s2).1, ld := num s3 0 2, p0 := prAt s4 0, p1 := prAt s4 5, p2 := prAt s4 10, p3 := prAt s4 15 }) := rfl
  generalize Go.Tm.dec s2 = q at *
  obtain ⟨tm, r2⟩ := q
  simp only at CT HE HFB0
  generalize Go.Bn.sz1 s1 1 = r1 at *
  generalize Go.Bn.sz1 s3 2 = r3 at *
  generalize Go.Bn.sz1 s4 20 = r4 at *
  generalize num s1 0 1 = z1 at *
  generalize num s3 0 2 = z3 at *
  obtain ⟨y1, hy1⟩ : ∃ y, ({ b0 with nm := s0 } : Bn) = y := ⟨_, rfl⟩
  obtain ⟨y2, hy2⟩ : ∃ y, ({ y1 with ch := z1 } : Bn) = y := ⟨_, rfl⟩
  obtain ⟨y3, hy3⟩ : ∃ y, ({ y2 with tm := tm } : Bn) = y := ⟨_, rfl⟩
  obtain ⟨y4, hy4⟩ : ∃ y, ({ y3 with ld := z3 } : Bn) = y := ⟨_, rfl⟩
  have F1 : Hid (Fst14 w y1 (w2.setCell ⟨w.heap.size, 2, none⟩ (.string s0))) := hy1 ▸ (F0.out.put (F0.out.box.set2 s0) (But.set1 w.heap.size 2 _ _))
  have X3 : Hid (∀ W, Fst14 w y1 W → Fst14 w y2 (W.setCell ⟨w.heap.size, 3, none⟩ (.int .i64 z1))) := fun W h => hy2 ▸ (h.put (h.box.set3 z1) (But.set1 w.heap.size 3 _ _))
  have XT : Hid (∀ W, Fst14 w y2 W → Fst14 w y3 (Bn_.setT W w.heap.size tm)) := fun W h => hy3 ▸ (h.put (h.box.setT tm) (Bn_.but_setT _ w.heap.size tm))
  have X4 : Hid (∀ W, Fst14 w y3 W → Fst14 w y4 (W.setCell ⟨w.heap.size, 4, none⟩ (.int .i64 z3))) := fun W h => hy4 ▸ (h.put (h.box.set4 z3) (But.set1 w.heap.size 4 _ _))
  have HFB1 : Hid (fdB b0 s0 s1 s2 s3 s4 = { y4 with p0 := prAt s4 0, p1 := prAt s4 5, p2 := prAt s4 10, p3 := prAt s4 15 }) := by
    show fdB b0 s0 s1 s2 s3 s4 = _
    rw [← hy4, ← hy3, ← hy2, ← hy1]; exact HFB0.out
  clear hy1 hy2 hy3 hy4 HFB0
  have t1 := D1.out _ F1.out.bel
  have lf1 := F1.out.box.loadF
  have sf1 := F1.out.res.storeF y1
  have FD : Hid (∀ (y : Bn) (r : Int) (w' : World), Fst14 w y w' → swE b0 K = r → ¬ r = 0 → FdPost b0 K w (.returned (.tuple #[Bn_.v y, .int .i64 r])) (w'.setRow (w.heap.size + 1) (Bn_.C y))) := fun y r w' h1 h2 h3 =>
    ⟨y, by rw [h2], fun h => absurd (h2.symm.trans h) h3, (h1.fin y).2⟩
  by_cases h1 : r1 = 0
  case neg =>
    have h1' : (r1 != 0) = true := by simp [h1]
    obtain ⟨r, hr⟩ := HW.out
    rw [HE.out, if_neg h1] at hr
    have HR := Lib.hid hr
    have HN := Lib.hid h1
    clear hcase HE HW HZ4 hr h1 N1 N3 CT Z3 Z4
    go_enter Tryd.func33, Tryd.ntmps33
    go_wp2_with (first
      | (go_at_call 57; with_reducible refine (Z1.out _).mono ?_; rintro e w' ⟨rfl, rfl⟩))
    exact ret_bn Tryd.results33 rfl rfl (F1.out.fin _).1 rfl (FD.out _ _ _ F1.out HR.out HN.out)
  subst h1
  have M1 := Lib.hid (N1.out rfl)
  clear N1
  by_cases h2 : r2 = 0
  case neg =>
    have hne : (r2 != 0) = true := by simp [h2]
    obtain ⟨r, hr⟩ := HW.out
    rw [HE.out, if_pos rfl, if_neg h2] at hr
    have HR := Lib.hid hr
    have HN := Lib.hid h2
    clear hcase HE HW HZ4 hr h2 N3 Z3 Z4
    go_enter Tryd.func33, Tryd.ntmps33
    go_wp2_with (first
      | (go_at_call 57; with_reducible refine (Z1.out _).mono ?_; rintro e w' ⟨rfl, rfl⟩)
      | (go_at_call 34; with_reducible refine (M1.out _).mono ?_; rintro e w3 ⟨rfl, hb⟩; have G3 := Lib.hid (F1.out.keep hb); have f3 := G3.out.box.frozen 3; have e3 := G3.out.box.all 3; have F3 := Lib.hid (X3.out _ G3.out); have t2 := D2.out _ F3.out.bel; clear hb)
      | (go_at_call 58; refine (CT.out _).mono ?_; rintro e w4 ⟨rfl, hb⟩; have F4 := Lib.hid ((F3.out.keep hb).keep ((Below.refl _ _).alloc (Nat.le_refl _) (.cells #[.int .i64 tm.c, .int .i64 tm.p, .bool tm.g, .int .u64 tm.m] 24))); have lf4 := F4.out.box.loadF; have sf4 := F4.out.res.storeF y2; have st4 := F4.out.box.storeT tm; have F5 := Lib.hid (XT.out _ F4.out); have t3 := D3.out _ F5.out.bel; have lf5 := F5.out.box.loadF; have sf5 := F5.out.res.storeF y3; clear hb))
    exact ret_bn Tryd.results33 rfl rfl (F4.out.fin _).1 rfl (FD.out _ _ _ F4.out HR.out HN.out)
  subst h2
  by_cases h3 : r3 = 0
  case neg =>
    have hne : (r3 != 0) = true := by simp [h3]
    obtain ⟨r, hr⟩ := HW.out
    rw [HE.out, if_pos rfl, if_pos rfl, if_neg h3] at hr
    have HR := Lib.hid hr
    have HN := Lib.hid h3
    clear hcase HE HW HZ4 hr h3 N3 Z4
    go_enter Tryd.func33, Tryd.ntmps33
    go_wp2_with (first
      | (go_at_call 57; with_reducible refine (Z1.out _).mono ?_; rintro e w' ⟨rfl, rfl⟩)
      | (go_at_call 34; with_reducible refine (M1.out _).mono ?_; rintro e w3 ⟨rfl, hb⟩; have G3 := Lib.hid (F1.out.keep hb); have f3 := G3.out.box.frozen 3; have e3 := G3.out.box.all 3; have F3 := Lib.hid (X3.out _ G3.out); have t2 := D2.out _ F3.out.bel; clear hb)
      | (go_at_call 58; refine (CT.out _).mono ?_; rintro e w4 ⟨rfl, hb⟩; have F4 := Lib.hid ((F3.out.keep hb).keep ((Below.refl _ _).alloc (Nat.le_refl _) (.cells #[.int .i64 tm.c, .int .i64 tm.p, .bool tm.g, .int .u64 tm.m] 24))); have lf4 := F4.out.box.loadF; have sf4 := F4.out.res.storeF y2; have st4 := F4.out.box.storeT tm; have F5 := Lib.hid (XT.out _ F4.out); have t3 := D3.out _ F5.out.bel; have lf5 := F5.out.box.loadF; have sf5 := F5.out.res.storeF y3; clear hb)
      | (go_at_call 57; with_reducible refine (Z3.out _).mono ?_; rintro e w' ⟨rfl, rfl⟩))
    exact ret_bn Tryd.results33 rfl rfl (F5.out.fin _).1 rfl (FD.out _ _ _ F5.out HR.out HN.out)
  subst h3
  have M3 := Lib.hid (N3.out rfl)
  clear N3
  by_cases h4 : r4 = 0
  case neg =>
    have hne : (r4 != 0) = true := by simp [h4]
    obtain ⟨r, hr⟩ := HW.out
    rw [HE.out, if_pos rfl, if_pos rfl, if_pos rfl, if_neg h4] at hr
    have HR := Lib.hid hr
    have HN := Lib.hid h4
    clear hcase HE HW HZ4 hr h4 F0
    go_enter Tryd.func33, Tryd.ntmps33
    go_wp2_with (first
      | (go_at_call 57; with_reducible refine (Z1.out _).mono ?_; rintro e w' ⟨rfl, rfl⟩)
      | (go_at_call 34; with_reducible refine (M1.out _).mono ?_; rintro e w3 ⟨rfl, hb⟩; have G3 := Lib.hid (F1.out.keep hb); have f3 := G3.out.box.frozen 3; have e3 := G3.out.box.all 3; have F3 := Lib.hid (X3.out _ G3.out); have t2 := D2.out _ F3.out.bel; clear hb)
      | (go_at_call 58; refine (CT.out _).mono ?_; rintro e w4 ⟨rfl, hb⟩; have F4 := Lib.hid ((F3.out.keep hb).keep ((Below.refl _ _).alloc (Nat.le_refl _) (.cells #[.int .i64 tm.c, .int .i64 tm.p, .bool tm.g, .int .u64 tm.m] 24))); have lf4 := F4.out.box.loadF; have sf4 := F4.out.res.storeF y2; have st4 := F4.out.box.storeT tm; have F5 := Lib.hid (XT.out _ F4.out); have t3 := D3.out _ F5.out.bel; have lf5 := F5.out.box.loadF; have sf5 := F5.out.res.storeF y3; clear hb)
      | (go_at_call 57; with_reducible refine (Z3.out _).mono ?_; rintro e w' ⟨rfl, rfl⟩)
      | (go_at_call 34; with_reducible refine (M3.out _).mono ?_; rintro e w6 ⟨rfl, hb⟩; have G6 := Lib.hid (F5.out.keep hb); have f6 := G6.out.box.frozen 4; have e6 := G6.out.box.all 4; have F6 := Lib.hid (X4.out _ G6.out); have t4 := D4.out _ F6.out.bel; have lf6 := F6.out.box.loadF; have sf6 := F6.out.res.storeF y4; clear hb)
      | (go_at_call 57; with_reducible refine (Z4.out _).mono ?_; rintro e w' ⟨rfl, rfl⟩))
    exact ret_bn Tryd.results33 rfl rfl (F6.out.fin _).1 rfl (FD.out _ _ _ F6.out HR.out HN.out)
  subst h4
  have h20 := HZ4.out rfl
  have HEE : Hid (∀ r, fdE s1 s2 s3 s4 r = r) := fun r => by rw [HE.out, if_pos rfl, if_pos rfl, if_pos rfl, if_pos rfl]
  clear HE HW HZ4
  go_enter Tryd.func33, Tryd.ntmps33
  go_wp2_with (first
      | (go_at_call 57; with_reducible refine (Z1.out _).mono ?_; rintro e w' ⟨rfl, rfl⟩)
      | (go_at_call 34; with_reducible refine (M1.out _).mono ?_; rintro e w3 ⟨rfl, hb⟩; have G3 := Lib.hid (F1.out.keep hb); have f3 := G3.out.box.frozen 3; have e3 := G3.out.box.all 3; have F3 := Lib.hid (X3.out _ G3.out); have t2 := D2.out _ F3.out.bel; clear hb)
      | (go_at_call 58; refine (CT.out _).mono ?_; rintro e w4 ⟨rfl, hb⟩; have F4 := Lib.hid ((F3.out.keep hb).keep ((Below.refl _ _).alloc (Nat.le_refl _) (.cells #[.int .i64 tm.c, .int .i64 tm.p, .bool tm.g, .int .u64 tm.m] 24))); have lf4 := F4.out.box.loadF; have sf4 := F4.out.res.storeF y2; have st4 := F4.out.box.storeT tm; have F5 := Lib.hid (XT.out _ F4.out); have t3 := D3.out _ F5.out.bel; have lf5 := F5.out.box.loadF; have sf5 := F5.out.res.storeF y3; clear hb)
      | (go_at_call 57; with_reducible refine (Z3.out _).mono ?_; rintro e w' ⟨rfl, rfl⟩)
      | (go_at_call 34; with_reducible refine (M3.out _).mono ?_; rintro e w6 ⟨rfl, hb⟩; have G6 := Lib.hid (F5.out.keep hb); have f6 := G6.out.box.frozen 4; have e6 := G6.out.box.all 4; have F6 := Lib.hid (X4.out _ G6.out); have t4 := D4.out _ F6.out.bel; have lf6 := F6.out.box.loadF; have sf6 := F6.out.res.storeF y4; clear hb)
      | (go_at_call 57; with_reducible refine (Z4.out _).mono ?_; rintro e w' ⟨rfl, rfl⟩))
  have HB0 : Hid (∀ b, sps b s4 0 = b) := fun _ => rfl
  have HBS : Hid (∀ b k, sps b s4 (k + 1) = (sps b s4 k).setPr k (prAt s4 (5 * k))) := fun _ _ => rfl
  go_loopw [9, 10] (fun i _ wr => ∃ (k : Nat) (u : World), k ≤ 4 ∧ i = .int .i64 k ∧ u = wr ∧ Fst14 w (sps y4 s4 k) u) (fun i _ _ => 4 - (intOf i).toNat)
  case atStart => exact ⟨0, _, by omega, rfl, rfl, by rw [HB0.out]; exact F6.out⟩
  case round =>
    obtain ⟨k, wr, hk, rfl, rfl, hst⟩ := hrel
    have HST := Lib.hid hst
    clear hst F6 lf6 sf6 t4 F0 F1 lf1 sf1 t1 t0 HB0
    by_cases hk4 : k < 4
    · have t4 := D4.out _ HST.out.bel
      have HK := Lib.hid (HBS.out y4 k)
      have hsub := size_sub (s := s4) (a := 5 * k) (by omega)
      have P1 : Hid (∀ w, Calls Tryd.prog 34 #[.string (s4.extract (5 * k) (5 * k + 5)), .int .i64 0, .int .i64 1] w fun e w' => e = .returned (.int .i64 (num (s4.extract (5 * k) (5 * k + 5)) 0 1)) ∧ Below w.heap.size w w') := fun w => refNumber14_any _ 0 1 w (by decide) (by omega)
      have P2 : Hid (∀ w, Calls Tryd.prog 34 #[.string (s4.extract (5 * k) (5 * k + 5)), .int .i64 1, .int .i64 1] w fun e w' => e = .returned (.int .i64 (num (s4.extract (5 * k) (5 * k + 5)) 1 1)) ∧ Below w.heap.size w w') := fun w => refNumber14_any _ 1 1 w (by decide) (by omega)
      have P3 : Hid (∀ w, Calls Tryd.prog 34 #[.string (s4.extract (5 * k) (5 * k + 5)), .int .i64 2, .int .i64 1] w fun e w' => e = .returned (.int .i64 (num (s4.extract (5 * k) (5 * k + 5)) 2 1)) ∧ Below w.heap.size w w') := fun w => refNumber14_any _ 2 1 w (by decide) (by omega)
      have P4 : Hid (∀ w, Calls Tryd.prog 34 #[.string (s4.extract (5 * k) (5 * k + 5)), .int .i64 3, .int .i64 2] w fun e w' => e = .returned (.int .i64 (num (s4.extract (5 * k) (5 * k + 5)) 3 2)) ∧ Below w.heap.size w w') := fun w => refNumber14_any _ 3 2 w (by decide) (by omega)
      have HP : Hid (prAt s4 (5 * k) = ⟨num (s4.extract (5 * k) (5 * k + 5)) 0 1, num (s4.extract (5 * k) (5 * k + 5)) 1 1, num (s4.extract (5 * k) (5 * k + 5)) 2 1, num (s4.extract (5 * k) (5 * k + 5)) 3 2⟩) := by
        show prAt s4 (5 * k) = _
        unfold prAt
        rw [num_sub (by decide), num_sub (by decide), num_sub (by decide), num_sub (by decide)]; rfl
      have hsl : ∀ W, (Instr.slice 9 (.string s4) (some (.int .i64 (5 * (k : Int)))) (some (.int .i64 (5 * (k : Int) + 5))) none).run Tryd.prog W = .ok (.string (s4.extract (5 * k) (5 * k + 5))) W := fun W => by
        rw [run_slice_string_if W 9 s4 .i64 .i64 (5 * (k : Int)) (5 * (k : Int) + 5) Tryd.underlying9, if_pos ⟨by omega, by omega⟩, if_pos (show 0 ≤ 5 * (k : Int) ∧ 5 * (k : Int) ≤ 5 * (k : Int) + 5 by omega)]
        rw [show (5 * (k : Int)).toNat = 5 * k by omega, show (5 * (k : Int) + 5).toNat = 5 * k + 5 by omega]
      have u1 : RowKit.wrap64 (5 * (k : Int)) = 5 * (k : Int) := IntWalk.wrap64_in _ (by omega)
      have u2 : RowKit.wrap64 (5 * (k : Int) + 5) = 5 * (k : Int) + 5 := IntWalk.wrap64_in _ (by omega)
      have u3 : IntKind.i64.wrap (5 * (k : Int)) = 5 * (k : Int) := IntWalk.i64_in _ (by omega)
      have u4 : IntKind.i64.wrap (5 * (k : Int) + 5) = 5 * (k : Int) + 5 := IntWalk.i64_in _ (by omega)
      have i0 : (0 : Int) ≤ (k : Int) := by omega
      have i1 : (k : Int) < 4 := by omega
      generalize s4.extract (5 * k) (5 * k + 5) = t at *
      generalize num t 0 1 = a at *
      generalize num t 1 1 = b at *
      generalize num t 2 1 = d at *
      generalize num t 3 2 = f at *
      generalize sps y4 s4 k = y at *
      clear hsub h20 HEE hcase
      go_wp2_with (first
        | (go_at_call 34; with_reducible refine (P1.out _).mono ?_; rintro e v1 ⟨rfl, hb⟩; have V1 := Lib.hid (HST.out.keep hb); clear hb)
        | (go_at_call 34; with_reducible refine (P2.out _).mono ?_; rintro e v2 ⟨rfl, hb⟩; have V2 := Lib.hid (V1.out.keep hb); clear hb)
        | (go_at_call 34; with_reducible refine (P3.out _).mono ?_; rintro e v3 ⟨rfl, hb⟩; have V3 := Lib.hid (V2.out.keep hb); clear hb)
        | (go_at_call 34; with_reducible refine (P4.out _).mono ?_; rintro e v4 ⟨rfl, hb⟩; have V4 := Lib.hid (V3.out.keep hb); have sp := V4.out.box.storeP k hk4 a b d f; have V5 := Lib.hid (V4.out.put (V4.out.box.setP k hk4 ⟨a, b, d, f⟩) (Bn_.but_setP _ w.heap.size k ⟨a, b, d, f⟩)); clear hb))
      go_roundw
      case rel => exact ⟨k + 1, _, by omega, by go_num, rfl, by rw [HK.out, HP.out]; exact V5.out⟩
      case measure => simp [intOf]; omega
    · obtain rfl : k = 4 := by omega
      clear HBS
      rw [sps_four] at HST
      have HFB : Hid (fdB b0 s0 s1 s2 s3 s4 = ({ y4 with p0 := prAt s4 0, p1 := prAt s4 5, p2 := prAt s4 10, p3 := prAt s4 15 } : Bn)) := HFB1.out
      generalize ({ y4 with p0 := prAt s4 0, p1 := prAt s4 5, p2 := prAt s4 10, p3 := prAt s4 15 } : Bn) = y at *
      have YP : Hid (∀ (z : Bn) (r : Int) (w' : World), Fst14 w z w' → swE b0 K = r → (r = 0 → z = lsB b0 K) → FdPost b0 K w (.returned (.tuple #[Bn_.v z, .int .i64 r])) (w'.setRow (w.heap.size + 1) (Bn_.C z))) := fun z r w' h1 h2 h3 =>
        ⟨z, by rw [h2], fun h => h3 (h2.symm.trans h), (h1.fin z).2⟩
      rcases hcase with ⟨hn, hsw, hls⟩ | ⟨hn, x5, hl5, hx5, hsw, hls⟩
      · have HSW : Hid (swE b0 K = 0) := hsw.trans (HEE.out 0)
        have HLS : Hid (y = lsB b0 K) := (hls.trans HFB.out).symm
        have hn' : (K.length : Int) < 6 := by omega
        have lf7 := HST.out.box.loadF
        have sf7 := HST.out.res.storeF y
        clear hsw hls HEE HFB HFB1 hn h20
        go_wp2
        exact ret_bn Tryd.results33 rfl rfl (HST.out.fin _).1 rfl (YP.out _ _ _ HST.out HSW.out (fun _ => HLS.out))
      · have D5 : Hid (∀ W, Below w.heap.size w W → W.cell? ⟨bb, off + 11, none⟩ = some (.string x5.s)) := fun W hb => hx5 ▸ el_data h hb 5 hl5
        have Z5 : Hid (∀ w, Calls Tryd.prog 57 #[.string x5.s, .int .i64 2] w fun e w' => e = .returned (.int .i64 (Go.Bn.sz1 x5.s 2)) ∧ w = w') := fun w => refSize14_any x5.s 2 w
        have N5 : Hid (Go.Bn.sz1 x5.s 2 = 0 → ∀ w, Calls Tryd.prog 34 #[.string x5.s, .int .i64 0, .int .i64 1] w fun e w' => e = .returned (.int .i64 (num x5.s 0 1)) ∧ Below w.heap.size w w') := fun h w => refNumber14_any x5.s 0 1 w (by decide) (by have := sz1_zero h; omega)
        have N6 : Hid (Go.Bn.sz1 x5.s 2 = 0 → ∀ w, Calls Tryd.prog 34 #[.string x5.s, .int .i64 1, .int .i64 1] w fun e w' => e = .returned (.int .i64 (num x5.s 1 1)) ∧ Below w.heap.size w w') := fun h w => refNumber14_any x5.s 1 1 w (by decide) (by have := sz1_zero h; omega)
        have HSW : Hid (swE b0 K = if Go.Bn.sz1 x5.s 2 = 0 then (if num x5.s 0 1 = 0 then 3 else 0) else Go.Bn.sz1 x5.s 2) := hsw.trans (HEE.out _)
        have HLS : Hid (({ y with sc := num x5.s 0 1, sn := num x5.s 1 1 } : Bn) = lsB b0 K) := by
          show _ = lsB b0 K
          rw [hls, HFB.out]
        have hn' : ¬ (K.length : Int) < 6 := by omega
        have hl5' : (5 : Int) < (K.length : Int) := by omega
        have t5 := D5.out _ HST.out.bel
        have t5' := D5.out _ HST.out.drew.bel
        have lf7 := HST.out.box.loadF
        have sf7 := HST.out.res.storeF y
        generalize x5.s = s5 at *
        generalize Go.Bn.sz1 s5 2 = r5 at *
        generalize num s5 0 1 = sc at *
        generalize num s5 1 1 = sn at *
        clear hsw hls HEE HFB HFB1 hn h20 hx5 hl5 h
        by_cases hr5 : r5 = 0
        case neg =>
          have hr5' : (r5 != 0) = true := by simp [hr5]
          have HSW' := Lib.hid (HSW.out.trans (if_neg hr5))
          have HN := Lib.hid hr5
          clear HSW hr5 N5 N6
          go_wp2_with (first
            | (go_at_call 57; with_reducible refine (Z5.out _).mono ?_; rintro e w' ⟨rfl, rfl⟩))
          exact ret_bn Tryd.results33 rfl rfl (HST.out.fin _).1 rfl (YP.out _ _ _ HST.out HSW'.out (fun h => absurd h HN.out))
        subst hr5
        have M5 := Lib.hid (N5.out rfl)
        have M6 := Lib.hid (N6.out rfl)
        have HSW' := Lib.hid (HSW.out.trans (if_pos rfl))
        have HST' := HST.out.drew
        clear N5 N6 HSW
        go_wp2_with (first
          | (go_at_call 57; with_reducible refine (Z5.out _).mono ?_; rintro e w' ⟨rfl, rfl⟩))
        have q0 : wr.drew.cell? ⟨bb, off + 11, none⟩ = some (.string s5) := t5'
        have q1 : Hf w wr.drew := hf_of HST'
        have HS9 := Lib.hid HST'
        have HD5 := D5
        clear t5 t5' lf7 sf7 HST' Z5 M1 M3 Z1 Z3 Z4 CT X3 XT X4 FD
        go_region_held3 (fun w' => w'.cell? ⟨bb, off + 11, none⟩ = some (.string s5) ∧ Hf w w') (first | exact ⟨by assumption, by assumption⟩ | go_keep)
          (first
          | (go_at_call 34; with_reducible refine (M5.out _).mono ?_; rintro e v1 ⟨rfl, hb⟩; have g1 := Lib.hid (HS9.out.keep hb); have d1 := D5.out _ g1.out.bel; have r1 : Hf w v1 := hf_of g1.out)
          | (go_at_call 34; with_reducible refine (M6.out _).mono ?_; rintro e v2 ⟨rfl, hb⟩; have g2 := Lib.hid (g1.out.keep hb); have d2 := D5.out _ g2.out.bel; have r2 : Hf w v2 := hf_of g2.out; have ss := g2.out.box.storeS sc sn; have g3 := Lib.hid (g2.out.put (g2.out.box.setS sc sn) (Bn_.but_setS _ w.heap.size sc sn)); have d3 := D5.out _ g3.out.bel; have r3 : Hf w (Bn_.setS v2 w.heap.size sc sn) := hf_of g3.out))
        have e9 := (g3.out.box.all 9).trans (Bn_.C9 _)
        dsimp only at e9
        have G3 := g3
        have lf9 := g3.out.box.loadF
        have sf9 := g3.out.res.storeF { y with sc := sc, sn := sn }
        clear d1 d2 d3 r1 r2 r3 q0 q1
        by_cases hsc : sc = 0
        · have hsc' : (sc == 0) = true := by simp [hsc]
          have HSWW := Lib.hid (HSW'.out.trans (if_pos hsc))
          clear HSW' hsc
          go_wp2
          exact ret_bn Tryd.results33 rfl rfl (G3.out.fin _).1 rfl (YP.out _ _ _ G3.out HSWW.out (fun h => absurd h (by decide)))
        · have hsc' : (sc == 0) = false := by simp [hsc]
          have HSWW := Lib.hid (HSW'.out.trans (if_neg hsc))
          clear HSW' hsc
          go_wp2
          exact ret_bn Tryd.results33 rfl rfl (G3.out.fin _).1 rfl (YP.out _ _ _ G3.out HSWW.out (fun _ => HLS.out))
end Go.Proofs.YtojiffpmmgjpjaaDoor
