/-
  WALKS of package tim: Decode.
-/
import Derived.Test.YtojiffpmmgjpjaaDoorTmProg
import Derived.Lib.Strings
namespace Go.Proofs.YtojiffpmmgjpjaaDoor
open Go.RowKit Go.Bs Go.Tm

theorem u8_bit0 (x : Nat) (h : x < 256) : bits .and .u8 (x : Int) 1 = (x : Int) % 2 := by
  have := u8_and_nat x 1 h (by decide)
  rw [nat_mask1] at this
  exact this.trans (by omega)
/-- The result's cell and the map's, behind calls. -/
structure Dst (w w' : World) (c p : Int) (g : Bool) (m : Nat) : Prop where
  r0 : w'.cell? ⟨w.heap.size, 0, none⟩ = some (.int .i64 0)
  r1 : w'.cell? ⟨w.heap.size, 1, none⟩ = some (.int .i64 0)
  r2 : w'.cell? ⟨w.heap.size, 2, none⟩ = some (.bool false)
  r3 : w'.cell? ⟨w.heap.size, 3, none⟩ = some (.int .u64 0)
  x0 : w'.cell? ⟨w.heap.size + 1, 0, none⟩ = some (.int .i64 c)
  x1 : w'.cell? ⟨w.heap.size + 1, 1, none⟩ = some (.int .i64 p)
  x2 : w'.cell? ⟨w.heap.size + 1, 2, none⟩ = some (.bool g)
  x3 : w'.cell? ⟨w.heap.size + 1, 3, none⟩ = some (.int .u64 (m : Int))
  bel : Below w.heap.size w w'
  z : ∀ j, w'.frozen? ⟨w.heap.size, j, none⟩ = false
  y : ∀ j, w'.frozen? ⟨w.heap.size + 1, j, none⟩ = false
  sz : w.heap.size + 2 ≤ w'.heap.size
theorem Dst.fz (w : World) (c p : Int) (g : Bool) (m j : Nat) : (((w.alloc (.cells #[.int .i64 0, .int .i64 0, .bool false, .int .u64 0] 24)).alloc (.cells #[.int .i64 c, .int .i64 p, .bool g, .int .u64 (m : Int)] 24)).drew.drew).frozen? ⟨w.heap.size, j, none⟩ = false := by
  have e : ((w.alloc (.cells #[.int .i64 0, .int .i64 0, .bool false, .int .u64 0] 24)).alloc (.cells #[.int .i64 c, .int .i64 p, .bool g, .int .u64 (m : Int)] 24)).heap[w.heap.size]? = some (.cells #[.int .i64 0, .int .i64 0, .bool false, .int .u64 0] 24) := (Below.heap_alloc _ _ _ (by simp)).trans (heap_alloc_new w _)
  exact frozen_of e
theorem Dst.fy (w : World) (c p : Int) (g : Bool) (m j : Nat) : (((w.alloc (.cells #[.int .i64 0, .int .i64 0, .bool false, .int .u64 0] 24)).alloc (.cells #[.int .i64 c, .int .i64 p, .bool g, .int .u64 (m : Int)] 24)).drew.drew).frozen? ⟨w.heap.size + 1, j, none⟩ = false := by
  have e : ((w.alloc (.cells #[.int .i64 0, .int .i64 0, .bool false, .int .u64 0] 24)).alloc (.cells #[.int .i64 c, .int .i64 p, .bool g, .int .u64 (m : Int)] 24)).heap[w.heap.size + 1]? = some (.cells #[.int .i64 c, .int .i64 p, .bool g, .int .u64 (m : Int)] 24) := by
    have := heap_alloc_new (w.alloc (.cells #[.int .i64 0, .int .i64 0, .bool false, .int .u64 0] 24)) (.cells #[.int .i64 c, .int .i64 p, .bool g, .int .u64 (m : Int)] 24)
    rwa [show (w.alloc (.cells #[.int .i64 0, .int .i64 0, .bool false, .int .u64 0] 24)).heap.size = w.heap.size + 1 by simp] at this
  exact frozen_of e
theorem ba_ne {a b : ByteArray} (h : ¬ a = b) : (a.toList == b.toList) = false := by
  simp only [Lib.toList_data]
  refine beq_eq_false_iff_ne.2 fun e => h ?_
  obtain ⟨⟨x⟩⟩ := a; obtain ⟨⟨y⟩⟩ := b
  simp at e; rw [e]
theorem Dst.new (w : World) (c p : Int) (g : Bool) (m : Nat) : Dst w (((w.alloc (.cells #[.int .i64 0, .int .i64 0, .bool false, .int .u64 0] 24)).alloc (.cells #[.int .i64 c, .int .i64 p, .bool g, .int .u64 (m : Int)] 24)).drew.drew) c p g m :=
  ⟨by simp, by simp, by simp, by simp, by simp, by simp, by simp, by simp, ((((Below.refl _ _).alloc (Nat.le_refl _) _).alloc (by simp) _).drew).drew, Dst.fz w c p g m, Dst.fy w c p g m, by simp⟩
theorem Dst.below {w W w' : World} {c p : Int} {g : Bool} {m : Nat} (h : Dst w W c p g m) (hs : w.heap.size + 2 ≤ W.heap.size) (hb : Below W.heap.size W w') : Dst w w' c p g m :=
  have k (p : Addr) (hp : p.block < w.heap.size + 2) : w'.cell? p = W.cell? p := hb.cell (by omega)
  ⟨(k _ (by simp; try omega)).trans h.r0, (k _ (by simp; try omega)).trans h.r1, (k _ (by simp; try omega)).trans h.r2, (k _ (by simp; try omega)).trans h.r3, (k _ (by simp; try omega)).trans h.x0, (k _ (by simp; try omega)).trans h.x1, (k _ (by simp; try omega)).trans h.x2, (k _ (by simp; try omega)).trans h.x3, h.bel.trans (hb.mono (by omega)), fun j => (hb.frozen (show w.heap.size < W.heap.size by omega)).trans (h.z j), fun j => (hb.frozen (show w.heap.size + 1 < W.heap.size by omega)).trans (h.y j), Nat.le_trans hs hb.size⟩
/-- The set of the map is set. -/
theorem Dst.set {w W : World} {c p : Int} {g : Bool} {m : Nat} (h : Dst w W c p g m) (n : Nat) : Dst w (W.setCell ⟨w.heap.size + 1, 3, none⟩ (.int .u64 (n : Int))) c p g n := by
  have o (b j : Nat) (hj : ¬ (b = w.heap.size + 1 ∧ j = 3)) : (⟨w.heap.size + 1, 3, none⟩ : Addr) ≠ ⟨b, j, none⟩ := fun e => hj ⟨by injection e with e1; exact e1.symm, by injection e with e1 e2; exact e2.symm⟩
  exact ⟨(World.cell?_setCell_other _ _ _ _ (o _ _ (by omega))).trans h.r0, (World.cell?_setCell_other _ _ _ _ (o _ _ (by omega))).trans h.r1, (World.cell?_setCell_other _ _ _ _ (o _ _ (by omega))).trans h.r2, (World.cell?_setCell_other _ _ _ _ (o _ _ (by omega))).trans h.r3,
    (World.cell?_setCell_other _ _ _ _ (o _ _ (by omega))).trans h.x0, (World.cell?_setCell_other _ _ _ _ (o _ _ (by omega))).trans h.x1, (World.cell?_setCell_other _ _ _ _ (o _ _ (by omega))).trans h.x2, World.cell?_setCell_same _ _ _ h.x3, h.bel.setCell (Nat.le_succ _) _,
    fun j => (World.frozen?_setCell _ _ _ _).trans (h.z j), fun j => (World.frozen?_setCell _ _ _ _).trans (h.y j), by have := h.sz; simpa using this⟩
theorem u8_rest (x : Nat) (h : x < 256) : bits .andNot .u8 (x : Int) 1 = ((x - x % 2 : Nat) : Int) := by
  have key : ∀ y : Fin 256, bits .andNot .u8 ((y.val : Nat) : Int) 1 = ((y.val - y.val % 2 : Nat) : Int) := by decide +kernel
  exact key ⟨x, h⟩
theorem tail_bytes (a : ByteArray) (h : 3 ≤ a.size) : (a.extract 3 a.size).size = a.size - 3 ∧ ∀ i, i < (a.extract 3 a.size).size → byt (a.extract 3 a.size) i = byt a (3 + i) := by
  have e : (a.extract 3 a.size).data.toList = a.data.toList.drop 3 := by
    rw [ByteArray.data_extract, Array.toList_extract, List.extract_eq_take_drop]
    exact List.take_of_length_le (by rw [List.length_drop, Array.length_toList]; exact Nat.le_refl _)
  refine ⟨by rw [ByteArray.size_extract]; omega, fun i _ => ?_⟩
  unfold byt
  rw [e, List.getD_eq_getElem?_getD, List.getElem?_drop, List.getD_eq_getElem?_getD]
theorem tmSlice (a : ByteArray) (h : 3 ≤ a.size) (W : World) : (Instr.slice 9 (.string a) (some (.int .i64 3)) none none).run Tryd.prog W = .ok (.string (a.extract 3 a.size)) W :=
  run_slice_string_l W 9 a Tryd.underlying9 .i64 3 (by decide) (by omega)

theorem dec_short {a : ByteArray} (h : a.size < 4) : dec a = (zt, 1) := by unfold dec; rw [if_pos h]
theorem dec_long {a : ByteArray} (h : 11 < a.size) : dec a = (zt, 2) := by unfold dec; rw [if_neg (by omega), if_pos h]
theorem dec_range {a : ByteArray} (h1 : 4 ≤ a.size) (h2 : a.size ≤ 11) (h : cnt (byt a 0 : Int) (byt a 1 : Int) = false) : dec a = (zt, 4) := by
  unfold dec; rw [if_neg (by omega), if_neg (by omega), if_neg (by simp [h])]
theorem dec_in {a : ByteArray} (h1 : 4 ≤ a.size) (h2 : a.size ≤ 11) (h : cnt (byt a 0 : Int) (byt a 1 : Int) = true) : dec a = if chk (byt a 0 : Int) (byt a 1 : Int) (bmp a) = 0 ∧ enc (byt a 0 : Int) (byt a 1 : Int) (grp a) (bmp a) = a then (⟨(byt a 0 : Int), (byt a 1 : Int), grp a, (bmp a : Int)⟩, 0) else (zt, 3) := by
  unfold dec; rw [if_neg (by omega), if_neg (by omega), if_pos h]

/-- A map stored into the result's cell. -/
theorem set4 {W : World} {b : Nat} {u0 u1 u2 u3 : Value} (v0 v1 v2 v3 : Value) (h0 : W.cell? ⟨b, 0, none⟩ = some u0) (h1 : W.cell? ⟨b, 1, none⟩ = some u1) (h2 : W.cell? ⟨b, 2, none⟩ = some u2) (h3 : W.cell? ⟨b, 3, none⟩ = some u3) :
    ((((W.setCell ⟨b, 0, none⟩ v0).setCell ⟨b, 1, none⟩ v1).setCell ⟨b, 2, none⟩ v2).setCell ⟨b, 3, none⟩ v3).cell? ⟨b, 0, none⟩ = some v0 ∧
    ((((W.setCell ⟨b, 0, none⟩ v0).setCell ⟨b, 1, none⟩ v1).setCell ⟨b, 2, none⟩ v2).setCell ⟨b, 3, none⟩ v3).cell? ⟨b, 1, none⟩ = some v1 ∧
    ((((W.setCell ⟨b, 0, none⟩ v0).setCell ⟨b, 1, none⟩ v1).setCell ⟨b, 2, none⟩ v2).setCell ⟨b, 3, none⟩ v3).cell? ⟨b, 2, none⟩ = some v2 ∧
    ((((W.setCell ⟨b, 0, none⟩ v0).setCell ⟨b, 1, none⟩ v1).setCell ⟨b, 2, none⟩ v2).setCell ⟨b, 3, none⟩ v3).cell? ⟨b, 3, none⟩ = some v3 := by
  have n (i j : Nat) (h : i ≠ j) : (⟨b, i, none⟩ : Addr) ≠ ⟨b, j, none⟩ := fun e => h (by injection e)
  refine ⟨?_, ?_, ?_, ?_⟩
  · rw [World.cell?_setCell_other _ _ _ _ (n 3 0 (by decide)), World.cell?_setCell_other _ _ _ _ (n 2 0 (by decide)), World.cell?_setCell_other _ _ _ _ (n 1 0 (by decide)), World.cell?_setCell_same _ _ _ h0]
  · rw [World.cell?_setCell_other _ _ _ _ (n 3 1 (by decide)), World.cell?_setCell_other _ _ _ _ (n 2 1 (by decide))]
    exact World.cell?_setCell_same _ _ _ ((World.cell?_setCell_other _ _ _ _ (n 0 1 (by decide))).trans h1)
  · rw [World.cell?_setCell_other _ _ _ _ (n 3 2 (by decide))]
    exact World.cell?_setCell_same _ _ _ ((World.cell?_setCell_other _ _ _ _ (n 1 2 (by decide))).trans ((World.cell?_setCell_other _ _ _ _ (n 0 2 (by decide))).trans h2))
  · exact World.cell?_setCell_same _ _ _ ((World.cell?_setCell_other _ _ _ _ (n 2 3 (by decide))).trans ((World.cell?_setCell_other _ _ _ _ (n 1 3 (by decide))).trans ((World.cell?_setCell_other _ _ _ _ (n 0 3 (by decide))).trans h3)))
/-- A map that lies in the result's cell is handed back, with a value. -/
theorem ret_tim {fn : Func} {p q : Tmp} (hr : fn.results = #[.cell p 24, .tmp q]) {tmps : Array Value} {ds : _} {W : World} {b : Nat} {v0 v1 v2 v3 vq : Value} {R : Ending → World → Prop} (hp : tmps.getD p undef = .pointer (some ⟨b, 0, none⟩)) (hq : tmps.getD q undef = vq)
    (h : W.cell? ⟨b, 0, none⟩ = some v0 ∧ W.cell? ⟨b, 1, none⟩ = some v1 ∧ W.cell? ⟨b, 2, none⟩ = some v2 ∧ W.cell? ⟨b, 3, none⟩ = some v3) (hd : ds = []) (hR : R (.returned (.tuple #[.agg #[v0, v1, v2, v3], vq])) W) : bodyPost Tryd.prog fn R .ret ⟨tmps, ds⟩ W := by
  refine bodyPost_ret (v := .tuple #[.agg #[v0, v1, v2, v3], vq]) ?_ hd hR
  have hp' : tmps[p]?.getD undef = .pointer (some ⟨b, 0, none⟩) := by simpa using hp
  have hq' : tmps[q]?.getD undef = vq := by simpa using hq
  obtain ⟨h0, h1, h2, h3⟩ := h
  simp [results, hr, hp', hq', asAddr, go_sem, h0, h1, h2, h3]

set_option maxRecDepth 100000 in
set_option maxHeartbeats 4000000 in
theorem tmDecode_any (a : ByteArray) (w : World) (hsz : a.size ≤ 140737488351232) :
    Calls Tryd.prog 72 #[.string a] w fun e w' => e = .returned (.tuple #[Tm_.v (dec a).1, .int .i64 (dec a).2]) ∧ Below w.heap.size w w' := by
  by_cases h1 : a.size < 4
  · have HD := Lib.hid (dec_short h1)
    have h1' : (a.size : Int) ≤ 3 := by omega
    clear h1
    go_enter Tryd.func72, Tryd.ntmps72
    go_wp2
    go_returns
    exact ⟨by rw [HD.out]; rfl, (Below.refl _ _).alloc (Nat.le_refl _) _⟩
  by_cases h2 : 11 < a.size
  · have HD := Lib.hid (dec_long h2)
    have h1' : ¬ (a.size : Int) ≤ 3 := by omega
    have h2' : 11 < (a.size : Int) := by omega
    clear h1 h2
    go_enter Tryd.func72, Tryd.ntmps72
    go_wp2
    go_returns
    exact ⟨by rw [HD.out]; rfl, (Below.refl _ _).alloc (Nat.le_refl _) _⟩
  have h1' : ¬ (a.size : Int) ≤ 3 := by omega
  have h2' : ¬ 11 < (a.size : Int) := by omega
  have p0 : 0 < a.size := by omega
  have p1 : 1 < a.size := by omega
  have p2 : 2 < a.size := by omega
  have b0 := byt_get p0
  have b1 := byt_get p1
  have b2 := byt_get p2
  have l0 := byt_lt a 0
  have l1 := byt_lt a 1
  have l2 := byt_lt a 2
  have q0 : IntKind.i64.wrap (byt a 0 : Int) = byt a 0 := IntWalk.i64_in _ (by omega)
  have q1 : IntKind.i64.wrap (byt a 1 : Int) = byt a 1 := IntWalk.i64_in _ (by omega)
  have g0 := u8_bit0 (byt a 2) l2
  have g1 : ((byt a 2 : Int) % 2 == 1) = grp a := by
    unfold grp
    rw [show (byt a 2 : Int) % 2 = ((byt a 2 % 2 : Nat) : Int) by omega]
    rcases Nat.mod_two_eq_zero_or_one (byt a 2) with e | e <;> rw [e] <;> rfl
  have g2 := u8_rest (byt a 2) l2
  have HO : Hid (byt a 2 - byt a 2 % 2 = off a) := rfl
  have hof : off a ≤ 255 := by unfold off; omega
  obtain ⟨ts, tb⟩ := tail_bytes a (by omega)
  have hbm : bmk (off a) a (a.extract 3 a.size).size = bmp a := by unfold bmp; rw [ts]
  have CB := Lib.hid fun w => bitmap_any (off a) (a.extract 3 a.size) a w hof (by omega) tb
  rw [hbm] at CB
  have hsl := tmSlice a (by omega)
  have hlt := bmp_lt a
  have CE := Lib.hid fun w => tmEncode_any (byt a 0 : Int) (byt a 1 : Int) (grp a) (bmp a) w hlt
  have CC := Lib.hid fun w => tmCounts_any (byt a 0 : Int) (byt a 1 : Int) w
  have HDI := Lib.hid fun h => dec_in (a := a) (by omega) (by omega) h
  have HDR := Lib.hid fun h => dec_range (a := a) (by omega) (by omega) h
  have HR : Hid (encR (byt a 0 : Int) (byt a 1 : Int) (grp a) (bmp a) = if chk (byt a 0 : Int) (byt a 1 : Int) (bmp a) = 0 then enc (byt a 0 : Int) (byt a 1 : Int) (grp a) (bmp a) else ⟨#[]⟩) := rfl
  rw [HO.out] at g2
  have q2 : IntKind.i64.wrap (off a : Int) = off a := IntWalk.i64_in _ (by omega)
  clear h1 h2 ts tb hbm hof hlt HO
  generalize a.extract 3 a.size = t at *
  generalize off a = o at *
  generalize grp a = g at *
  generalize bmp a = m at *
  generalize byt a 0 = c at *
  generalize byt a 1 = p at *
  generalize byt a 2 = z at *
  cases hc : cnt (c : Int) (p : Int)
  · have HD := Lib.hid (HDR.out hc)
    rw [hc] at CC
    clear HDR HDI HR CE CB hc
    go_enter Tryd.func72, Tryd.ntmps72
    go_wp2
    go_region
    go_wp2_with (go_at_call 41; refine (CC.out _).mono ?_; rintro e w' ⟨rfl, rfl⟩)
    go_returns
    exact ⟨by rw [HD.out]; rfl, by simpa using (((Below.refl w.heap.size w).alloc (Nat.le_refl _) _).alloc (by simp) _).drew⟩
  · have HD := Lib.hid (HDI.out hc)
    rw [hc] at CC
    have HN := Lib.hid (Dst.new w (c : Int) (p : Int) g m)
    clear HDR HDI hc
    by_cases hk : chk (c : Int) (p : Int) m = 0
    · by_cases he : enc (c : Int) (p : Int) g m = a
      · have HF : Hid (dec a = (⟨(c : Int), (p : Int), g, (m : Int)⟩, 0)) := HD.out.trans (if_pos ⟨hk, he⟩)
        have hE : encR (c : Int) (p : Int) g m = a := HR.out.trans ((if_pos hk).trans he)
        rw [hE, hk] at CE
        clear HD HR hk he hE
        go_enter Tryd.func72, Tryd.ntmps72
        go_wp2
        go_region
        go_wp2_with (go_at_call 41; refine (CC.out _).mono ?_; rintro e w' ⟨rfl, rfl⟩)
        go_region_with (go_at_call 83; refine (CB.out _).mono ?_; rintro e w' ⟨rfl, rfl⟩)
        go_wp2_with (go_at_call 36; refine (CE.out _).mono ?_; rintro e w' ⟨rfl, hb⟩; have HX := Lib.hid (HN.out.below (by simp) hb); obtain ⟨r0, r1, r2, r3, x0, x1, x2, x3, -, z, -, -⟩ := HX.out; have z0 := z 0; have z1 := z 1; have z2 := z 2; have z3 := z 3; clear hb z)
        refine ret_tim Tryd.results72 rfl rfl (set4 _ _ _ _ r0 r1 r2 r3) rfl ?_
        exact ⟨by rw [HF.out]; rfl, ((((HX.out.bel.setCell (p := ⟨w.heap.size, 0, none⟩) (Nat.le_refl _) _).setCell (p := ⟨w.heap.size, 1, none⟩) (Nat.le_refl _) _).setCell (p := ⟨w.heap.size, 2, none⟩) (Nat.le_refl _) _).setCell (p := ⟨w.heap.size, 3, none⟩) (Nat.le_refl _) _)⟩
      · have HF : Hid (dec a = (zt, 3)) := HD.out.trans (if_neg fun h => he h.2)
        have hE : encR (c : Int) (p : Int) g m = enc (c : Int) (p : Int) g m := HR.out.trans (if_pos hk)
        rw [hE, hk] at CE
        clear HD HR hk hE
        have hne := ba_ne he
        generalize enc (c : Int) (p : Int) g m = E at *
        clear he
        go_enter Tryd.func72, Tryd.ntmps72
        go_wp2
        go_region
        go_wp2_with (go_at_call 41; refine (CC.out _).mono ?_; rintro e w' ⟨rfl, rfl⟩)
        go_region_with (go_at_call 83; refine (CB.out _).mono ?_; rintro e w' ⟨rfl, rfl⟩)
        go_wp2_with (go_at_call 36; refine (CE.out _).mono ?_; rintro e w' ⟨rfl, hb⟩; have HX := Lib.hid (HN.out.below (by simp) hb); obtain ⟨r0, r1, r2, r3, x0, x1, x2, x3, -, z, -, -⟩ := HX.out; have z0 := z 0; have z1 := z 1; have z2 := z 2; have z3 := z 3; clear hb z)
        refine ret_tim Tryd.results72 rfl rfl (set4 _ _ _ _ r0 r1 r2 r3) rfl ?_
        exact ⟨by rw [HF.out]; rfl, ((((HX.out.bel.setCell (p := ⟨w.heap.size, 0, none⟩) (Nat.le_refl _) _).setCell (p := ⟨w.heap.size, 1, none⟩) (Nat.le_refl _) _).setCell (p := ⟨w.heap.size, 2, none⟩) (Nat.le_refl _) _).setCell (p := ⟨w.heap.size, 3, none⟩) (Nat.le_refl _) _)⟩
    · have HF : Hid (dec a = (zt, 3)) := HD.out.trans (if_neg fun h => hk h.1)
      clear HD HR
      generalize encR (c : Int) (p : Int) g m = E at *
      generalize chk (c : Int) (p : Int) m = r at *
      go_enter Tryd.func72, Tryd.ntmps72
      go_wp2
      go_region
      go_wp2_with (go_at_call 41; refine (CC.out _).mono ?_; rintro e w' ⟨rfl, rfl⟩)
      go_region_with (go_at_call 83; refine (CB.out _).mono ?_; rintro e w' ⟨rfl, rfl⟩)
      go_wp2_with (go_at_call 36; refine (CE.out _).mono ?_; rintro e w' ⟨rfl, hb⟩; have HX := Lib.hid (HN.out.below (by simp) hb); obtain ⟨r0, r1, r2, r3, x0, x1, x2, x3, -, z, -, -⟩ := HX.out; have z0 := z 0; have z1 := z 1; have z2 := z 2; have z3 := z 3; clear hb z)
      refine ret_tim Tryd.results72 rfl rfl (set4 _ _ _ _ r0 r1 r2 r3) rfl ?_
      exact ⟨by rw [HF.out]; rfl, ((((HX.out.bel.setCell (p := ⟨w.heap.size, 0, none⟩) (Nat.le_refl _) _).setCell (p := ⟨w.heap.size, 1, none⟩) (Nat.le_refl _) _).setCell (p := ⟨w.heap.size, 2, none⟩) (Nat.le_refl _) _).setCell (p := ⟨w.heap.size, 3, none⟩) (Nat.le_refl _) _)⟩
end Go.Proofs.YtojiffpmmgjpjaaDoor
