/-
  THE WALK of ScoreReports (its tail written thrice by wip/tools/mkreports21.py).
-/
import Derived.Test.YtjighkagmnoncaaScKeeps
import Derived.Test.YtjighkagmnoncaaScIs
namespace Go.Proofs.Ytjighkagmnoncaa
open Go.RowKit Go.Sc Go.Sq Go.Bs
attribute [local go_sem ↓ high] Sw_.loadF Sw_.storeF Sw_.v_cells Sw_.v_match
attribute [local go_sem] Sw_.C0 Sw_.C1 Sw_.C2 Sw_.loadF_new Sw_.storeF_zero Sw_.eql Sw_.guard Oper.semAt_some

/-- The scoreboard in its cell, the noted numbers in theirs. -/
structure Rs (W : World) (B g : Nat) (x : Sc) (f : Int → Bool) (w : World) : Prop where
  bx : Sw_.Box w B x
  nt : ∀ j : Nat, j < 4096 → w.cell? ⟨g, j, none⟩ = some (.bool (f j)) ∧ w.frozen? ⟨g, j, none⟩ = false
  bel : Below W.heap.size W w
  hB : W.heap.size ≤ B
  hg : W.heap.size ≤ g
  lt : g < w.heap.size
  ne : B ≠ g
theorem Rs.keep {W w w' : World} {B g : Nat} {x : Sc} {f : Int → Bool} (h : Rs W B g x f w) (hb : Below w.heap.size w w') : Rs W B g x f w' :=
  ⟨h.bx.below hb h.bx.lt, fun j hj => ⟨(hb.cell h.lt).trans (h.nt j hj).1, (hb.frozen h.lt).trans (h.nt j hj).2⟩, h.bel.trans (hb.mono h.bel.size), h.hB, h.hg, Nat.lt_of_lt_of_le h.lt hb.size, h.ne⟩
theorem Rs.congr {W w : World} {B g : Nat} {x : Sc} {f f' : Int → Bool} (h : Rs W B g x f w) (e : ∀ j : Nat, j < 4096 → f' j = f j) : Rs W B g x f' w :=
  { h with nt := fun j hj => by rw [e j hj]; exact h.nt j hj }
theorem Rs.mark {W w : World} {B g : Nat} {x : Sc} {f : Int → Bool} (h : Rs W B g x f w) (k : Nat) (_ : k < 4096) (v : Bool) : Rs W B g x (fun j => if j = (k : Int) then v else f j) (w.setCell ⟨g, k, none⟩ (.bool v)) :=
  { bx := h.bx.other h.ne _
    nt := fun j hj => by
      refine ⟨?_, (World.frozen?_setCell _ _ _ _).trans (h.nt j hj).2⟩
      by_cases e : j = k
      · subst e
        rw [World.cell?_setCell_same _ _ _ (h.nt j hj).1]; simp
      · rw [World.cell?_setCell_other _ _ _ _ (fun hh => e (congrArg Addr.off hh).symm), (h.nt j hj).1]
        have : ¬ (j : Int) = (k : Int) := by omega
        simp [this]
    bel := h.bel.setCell h.hg _
    hB := h.hB
    hg := h.hg
    lt := by have := h.lt; simpa [World.setCell] using this
    ne := h.ne }
theorem Rs.put {W w : World} {B g : Nat} {x : Sc} {f : Int → Bool} (h : Rs W B g x f w) (y : Sc) : Rs W B g y f (w.setRow B (Sw_.C y)) :=
  { bx := h.bx.setRow y
    nt := fun j hj => ⟨(World.cell?_of_block (w := w) (Sw_.setRow_other (Ne.symm h.ne) _)).trans (h.nt j hj).1, by
      have e : (w.setRow B (Sw_.C y)).heap[g]? = w.heap[g]? := Sw_.setRow_other (Ne.symm h.ne) _
      have := (h.nt j hj).2
      unfold World.frozen? at this ⊢
      rw [e]; exact this⟩
    bel := below_row21 h.bel h.hB _
    hB := h.hB
    hg := h.hg
    lt := by have := h.lt; simpa [World.setRow] using this
    ne := h.ne }
/-- The first k numbers looked through. -/
def mix (k : Nat) (F f : Int → Bool) (j : Int) : Bool := if j < (k : Int) then F j else f j
theorem mix_zero (F f : Int → Bool) (j : Nat) : mix 0 F f j = f j := if_neg (by omega)
theorem mix_at (k : Nat) (F f : Int → Bool) : mix k F f k = f k := if_neg (by omega)
theorem mix_all (F f : Int → Bool) (j : Nat) (h : j < 4096) : mix 4096 F f j = F j := if_pos (by omega)
theorem mix_succ (k : Nat) (F f : Int → Bool) (j : Int) : mix (k + 1) F f j = if j = (k : Int) then F k else mix k F f j := by
  unfold mix
  by_cases e : j = (k : Int)
  · subst e; rw [if_pos (by omega), if_pos rfl]
  · rw [if_neg e]
    by_cases h : j < (k : Int)
    · rw [if_pos h, if_pos (by omega)]
    · rw [if_neg h, if_neg (by omega)]
theorem infoBool : (Try.prog.info? 4).map (fun i => (i.zero, i.size, i.bytes)) = some (some (.bool false), 1, 1) := by kernel_rfl
theorem mk_bools (w : World) : ∃ w', (Instr.makeSlice 37 (.int .i64 4096) (.int .i64 4096)).run Try.prog w = .ok (.slice (some ⟨w.heap.size, 0, none⟩) 4096 4096) w' ∧
    (∀ j : Nat, j < 4096 → w'.cell? ⟨w.heap.size, j, none⟩ = some (.bool false) ∧ w'.frozen? ⟨w.heap.size, j, none⟩ = false) ∧ Below w.heap.size w w' ∧ w.heap.size < w'.heap.size := by
  obtain ⟨i0, hi, hz0, hz1, hz2⟩ := info_parts infoBool
  obtain ⟨w', h1, h2, h3⟩ := run_make_full (P := Try.prog) w w.heap.size 37 4 i0 (.bool false) 1 Try.underlying37 hi hz0 hz1 .i64 .i64 4096 (by rw [hz2]; omega) (by unfold maxLen; omega) (Nat.le_refl _)
  have hc : ∀ j : Nat, j < 4096 → w'.cell? ⟨w.heap.size, j, none⟩ = some (.bool false) := fun j hj => by
    have := h2.cells (g := w.heap.size) rfl j (.bool false) (by
      unfold madeCells
      simp [Value.cells, Nat.mod_one, hj])
    have e : (⟨w.heap.size, 0, none⟩ : Addr).add j = ⟨w.heap.size, j, none⟩ := by unfold Addr.add; split <;> simp_all
    rwa [e] at this
  exact ⟨w', h1, fun j hj => ⟨hc j hj, h2.frozenAt _⟩, Below.grown (Below.refl _ _) h3 (Nat.le_refl _) (fun _ e => by cases e), World.block_lt_of_cell? _ _ (hc 0 (by decide))⟩

set_option linter.unusedSimpArgs false in
set_option linter.unusedVariables false in
set_option maxRecDepth 100000 in
set_option maxHeartbeats 16000000 in
theorem scoreReports_walk1 (u v : Int) (s0 j0 : Nat) (hu : u.tmod 4096 = s0) (hs0 : s0 < 4096) (hv : v.tmod 64 = j0) (hj0 : j0 < 64) (l : List Int) (sa : Option Addr) (c : Nat) (W : World) (hS : Is_.Sl W sa l c) (hwf : ∀ x ∈ l, (Lit.int .i64 x).wf = true) :
    Calls Try.prog 6 #[.int .u16 u, .int .u8 v, .slice sa l.length c] W fun e w' => e = .returned (.bool true) ∧ Below W.heap.size W w' := by
  obtain ⟨Z, hZ⟩ : ∃ Z : Nat, Z = j0 + 1 := ⟨_, rfl⟩
  obtain ⟨z, hz⟩ : ∃ z : Int, z = (Z : Int) := ⟨_, rfl⟩
  have HZ := Lib.hid hz
  have HZ64 : Hid (Z ≤ 64) := by show Z ≤ 64; omega
  have hck : ck s0 z 0 = 0 := by
    rw [ck_in (vl_iff.2 (by omega)) (by omega) (by omega), if_pos]
    unfold dwn; simp
  have CN : Hid (∀ w, Calls Try.prog 8 #[.int .i64 s0, .int .i64 z] w fun e w' => e = .returned (.tuple #[Sw_.v ⟨s0, z, 0⟩, .int .i64 0]) ∧ Below w.heap.size w w') := fun w => by
    have h := sc_new_any s0 z w
    unfold NwPost nwC at h
    rw [hck, if_pos rfl] at h
    exact h
  have G0 : Hid (Gd s0 z 0) := ck_gd.1 hck
  have CL := Lib.hid awake21_any
  have wz : IntKind.i64.wrap (1 + (j0 : Int)) = z := by rw [IntWalk.i64_in _ (by omega)]; omega
  have ws : IntKind.i64.wrap (s0 : Int) = s0 := IntWalk.i64_in _ (by omega)
  have wj : IntKind.i64.wrap (j0 : Int) = j0 := IntWalk.i64_in _ (by omega)
  have us : IntKind.u16.wrap (s0 : Int) = s0 := by rw [IntKind.wrap_u16]; omega
  have uj : IntKind.u8.wrap (j0 : Int) = j0 := by rw [IntKind.wrap_u8]; omega
  have HS := Lib.hid hS
  have HWF := Lib.hid hwf
  have H0 : Hid (∀ k, hs s0 z 0 k = false) := fun k => by
    unfold hs has
    rw [Nat.zero_testBit, Bool.and_false, Bool.and_false]
  obtain ⟨n, hnl⟩ : ∃ n, l.length = n := ⟨_, rfl⟩
  rw [hnl]
  have HNL := Lib.hid hnl
  clear hck hz hs0 hj0 hZ hS hwf hnl
  go_enter Try.func6, Try.ntmps6
  go_wp2_with fail
  refine (CN.out W).mono ?_
  rintro e w1 ⟨rfl, h1⟩
  obtain ⟨w2, hw2⟩ : ∃ w2, w1.alloc (.cells (Sw_.C ⟨s0, z, 0⟩) 24) = w2 := ⟨_, rfl⟩
  have hz2 := Sw_.storeF_zero w1 ⟨s0, z, 0⟩
  rw [hw2] at hz2
  have b2 : Below w1.heap.size w1 w2 := hw2 ▸ (Below.refl _ _).alloc (Nat.le_refl _) _
  have X2 := Lib.hid (show Sw_.Box w2 w1.heap.size ⟨s0, z, 0⟩ from hw2 ▸ Sw_.Box.new w1 _)
  have B2 := Lib.hid (h1.trans (b2.mono h1.size))
  have Z1 := Lib.hid h1.size
  clear h1 hw2 b2
  by_cases h60 : (60 : Int) < (n : Int)
  · clear hu hv wz ws wj us uj
    go_wp2_with (go_at_call 12; refine (CL.out _).mono ?_; rintro e w3 ⟨rfl, h⟩; have B3 := Lib.hid (B2.out.trans (h.mono B2.out.size)); clear h)
    go_returns
    exact ⟨rfl, B3.out⟩
  obtain ⟨w3, hmk, hnt, hb3, hlt3⟩ := mk_bools w2
  have R3 : Hid (Rs W w1.heap.size w2.heap.size ⟨s0, z, ((0 : Nat) : Int)⟩ (hs s0 z 0) w3) :=
    ⟨X2.out.below hb3 X2.out.lt, fun j hj => by rw [H0.out]; exact hnt j hj, B2.out.trans (hb3.mono B2.out.size), Z1.out, B2.out.size, hlt3, by have := X2.out.lt; omega⟩
  have HM0 : Hid ((0 : Nat) < 18446744073709551616) := by show (0 : Nat) < 18446744073709551616; decide
  clear hnt hb3 hlt3 X2 B2 Z1
  go_wp2_with fail
  clear hmk hz2 wz ws wj us uj hu hv
  generalize w1.heap.size = B7 at *
  generalize w2.heap.size = g at *
  go_loopw [10] (fun s10 wr => ∃ (i : Nat) (st : Int) (m : Nat), s10 = .int .i64 i ∧ i ≤ n ∧ Hid (Gd st z m) ∧ Hid (m < 18446744073709551616) ∧ Hid (Rs W B7 g ⟨st, z, (m : Nat)⟩ (hs st z m) wr)) (fun s10 _ => n - (intOf s10).toNat)
  case atStart => exact ⟨0, s0, 0, rfl, Nat.zero_le _, G0, HM0, R3⟩
  case round =>
    clear R3 G0 HM0 CN H0
    rename World => wr
    obtain ⟨i, st, m, rfl, hi, GG, HM, RR⟩ := hrel
    by_cases hin : i < n
    case neg =>
      go_wp2_with (go_at_call 12; refine (CL.out _).mono ?_; rintro e w6 ⟨rfl, h⟩; have B6 := Lib.hid (RR.out.bel.trans (h.mono RR.out.bel.size)); clear h)
      go_returns
      exact ⟨rfl, B6.out⟩
    have hil : i < l.length := by have := HNL.out; omega
    obtain ⟨bb, off, hsa, hbl, c0⟩ := HS.out.lies i hil
    have ci := (RR.out.bel.cell hbl).trans c0
    have hb := i64_bounds (HWF.out _ (List.getElem_mem hil))
    subst hsa
    generalize l[i] = q at *
    have i0 : (0 : Int) ≤ (i : Int) := by omega
    have hin2 : (i : Int) < (n : Int) := by omega
    have lr := RR.out.bx.loadF
    clear hil hbl c0 hi
    by_cases hq : q < 0
    · have hwq : wrap64 (-1 - q) = -1 - q := IntWalk.wrap64_in _ (by omega)
      have hwq2 : IntKind.i64.wrap (-1 - q) = -1 - q := IntWalk.i64_in _ (by omega)
      have CM := Lib.hid (fun w => sc_move_any st z m (-1 - q) w HM.out)
      have G1 := Lib.hid (GG.out.move (-1 - q))
      have HM1 := Lib.hid (@mM_lt st (-1 - q) m HM.out)
      have HC := Lib.hid (fun k h0 h1 => noted_move GG.out (-1 - q) k h0 h1)
      generalize mS st (-1 - q) = S1 at *
      generalize mM st m (-1 - q) = M1 at *
      generalize hs st z m = f1 at *
      have OK1 : Hid (OkS ⟨S1, z, (M1 : Nat)⟩) := ⟨_, _, _, rfl, HM1.out, G1.out⟩
      clear hb
      go_wp2_with fail
      refine (CM.out _).mono ?_
      rintro e w13 ⟨rfl, h⟩
      have R13 := Lib.hid (RR.out.keep h)
      have st13 := R13.out.bx.storeF ⟨S1, z, (M1 : Nat)⟩
      obtain ⟨w16, hw16⟩ : ∃ w16, w13.setRow B7 (Sw_.C ⟨S1, z, (M1 : Nat)⟩) = w16 := ⟨_, rfl⟩
      have R1 : Hid (Rs W B7 g ⟨S1, z, (M1 : Nat)⟩ f1 w16) := hw16 ▸ R13.out.put _
      rw [hw16] at st13
      clear h R13 RR lr ci hw16 CM GG HM hq
      -- in sight: S1 M1 f1 g1 : Gd, hm1, R1 : Hid (Rs W B7 g ⟨S1, z, M1⟩ f1 w16), HC
      have lA := R1.out.bx.loadF
      go_wp2_with (go_at_call 10; refine (sc_check_ok _ _ OK1.out).mono ?_; rintro e w17 ⟨rfl, h⟩; have R2 := Lib.hid (R1.out.keep h); clear h)
      clear lA R1
      go_loopw [13] (fun s13 wq => ∃ k : Nat, k ≤ 4096 ∧ s13 = .int .i64 k ∧ Hid (Rs W B7 g ⟨S1, z, (M1 : Nat)⟩ (mix k (cl S1 z f1) f1) wq)) (fun s13 _ => 4096 - (intOf s13).toNat)
      case atStart => exact ⟨0, by decide, rfl, R2.out.congr (fun j _ => mix_zero _ _ j)⟩
      case round =>
        clear R2
        rename World => wq
        obtain ⟨k, hk, rfl, RQ⟩ := hrel
        have eb := RQ.out.bx.all
        have k0 : (0 : Int) ≤ (k : Int) := by omega
        by_cases hk4 : k < 4096
        · have hk5 : (k : Int) < 4096 := by omega
          have CIk := Lib.hid (fun w => refIn_any S1 z k w)
          have CDk := Lib.hid (fun w => refDistance_any S1 k w)
          have HK := Lib.hid hk4
          have HCk : Hid (cl S1 z f1 k = if inn S1 z k = false ∧ 2048 ≤ dist S1 k then false else f1 k) := rfl
          have HNX := Lib.hid (fun j => mix_succ k (cl S1 z f1) f1 j)
          generalize inn S1 z k = I at *
          generalize dist S1 k = D at *
          have fz := (RQ.out.nt k hk4).2
          obtain ⟨bk, hbk⟩ : ∃ bk, wq.cell? ⟨g, k, none⟩ = some (.bool bk) := ⟨_, (RQ.out.nt k hk4).1⟩
          clear hk
          cases I
          · by_cases hD : 2048 ≤ D
            · have hcl := Lib.hid (HCk.out.trans (if_pos ⟨rfl, hD⟩))
              have RN := Lib.hid (RQ.out.mark k HK.out false)
              go_wp2_with (first
                | (go_at_call 22; refine (CIk.out _).mono ?_; rintro e w' ⟨rfl, rfl⟩)
                | (go_at_call 21; refine (CDk.out _).mono ?_; rintro e w' ⟨rfl, rfl⟩))
              go_roundw
              case rel => exact ⟨k + 1, HK.out, by go_num, RN.out.congr (fun j _ => by rw [HNX.out j]; split; (· exact hcl.out); (· rfl))⟩
              case measure => have := HK.out; simp [intOf]; omega
            · have hcl := Lib.hid (HCk.out.trans (if_neg (fun h => hD h.2)))
              go_wp2_with (first
                | (go_at_call 22; refine (CIk.out _).mono ?_; rintro e w' ⟨rfl, rfl⟩)
                | (go_at_call 21; refine (CDk.out _).mono ?_; rintro e w' ⟨rfl, rfl⟩))
              go_roundw
              case rel => exact ⟨k + 1, HK.out, by go_num, RQ.out.congr (fun j _ => by rw [HNX.out j]; split; (· rename_i e; rw [e, hcl.out]; exact (mix_at _ _ _).symm); (· rfl))⟩
              case measure => have := HK.out; simp [intOf]; omega
          · have hcl := Lib.hid (HCk.out.trans (if_neg (fun h => by cases h.1)))
            go_wp2_with (first
              | (go_at_call 22; refine (CIk.out _).mono ?_; rintro e w' ⟨rfl, rfl⟩)
              | (go_at_call 21; refine (CDk.out _).mono ?_; rintro e w' ⟨rfl, rfl⟩))
            go_roundw
            case rel => exact ⟨k + 1, HK.out, by go_num, RQ.out.congr (fun j _ => by rw [HNX.out j]; split; (· rename_i e; rw [e, hcl.out]; exact (mix_at _ _ _).symm); (· rfl))⟩
            case measure => have := HK.out; simp [intOf]; omega
        · obtain rfl : k = 4096 := by omega
          have RS : Hid (Rs W B7 g ⟨S1, z, (M1 : Nat)⟩ (hs S1 z M1) wq) := RQ.out.congr (fun j hj => by
            rw [mix_all _ _ _ hj]; exact (HC.out j (by omega) (by omega)).symm)
          have lB := RS.out.bx.loadF
          have CR : Hid (∀ w, Calls Try.prog 13 #[Sw_.v ⟨S1, z, (M1 : Nat)⟩] w fun e w' => e = .returned (.tuple #[.int .i64 S1, .int .u64 (M1 : Int)]) ∧ Below w.heap.size w w') := fun w => sc_report_any ⟨S1, z, (M1 : Nat)⟩ w
          clear RQ hk hk4 eb k0
          go_wp2_with (go_at_call 13; refine (CR.out _).mono ?_; rintro e w24 ⟨rfl, h⟩; have RT := Lib.hid (RS.out.keep h); clear h)
          clear lB RS
          go_loopw [16] (fun s16 wv => ∃ k : Nat, k ≤ Z ∧ s16 = .int .i64 k ∧ Hid (Rs W B7 g ⟨S1, z, (M1 : Nat)⟩ (hs S1 z M1) wv)) (fun s16 _ => Z - (intOf s16).toNat)
          case atStart => exact ⟨0, Nat.zero_le _, rfl, RT.out⟩
          case round =>
            clear RT
            rename World => wv
            obtain ⟨k, hk, rfl, RV⟩ := hrel
            have ev := RV.out.bx.all
            by_cases hkZ : k < Z
            · have hkz : (k : Int) < z := by rw [HZ.out]; omega
              have hZ64 := HZ64.out
              have HK := Lib.hid hkZ
              have CAk := Lib.hid (fun w => refAdd_any S1 k w)
              have hA := md_in (S1 + k)
              have HH := hs_at G1.out k hkz
              obtain ⟨A, hAA⟩ : ∃ A : Nat, add S1 k = (A : Int) := ⟨(add S1 k).toNat, by unfold add; omega⟩
              rw [hAA] at CAk HH
              have hA4 : A < 4096 := by unfold add at hAA; omega
              have cA := (RV.out.nt A hA4).1
              rw [HH] at cA
              have hmin : min k 64 = k := by omega
              have hu : IntKind.u64.wrap (k : Int) = k := IntWalk.u64_in _ (by omega)
              have hk0 : (0 : Int) ≤ (k : Int) := by omega
              have hbt := bit1 M1 k HM1.out
              have hA0 : (0 : Int) ≤ (A : Int) := by omega
              have hA5 : (A : Int) < 4096 := by omega
              generalize M1.testBit k = b1 at *
              have hne : (b1 != b1) = false := by simp
              clear hk hkZ hA hAA HH
              go_wp2_with (go_at_call 23; refine (CAk.out _).mono ?_; rintro e w' ⟨rfl, rfl⟩)
              go_roundw
              case rel => exact ⟨k + 1, HK.out, by go_num, RV⟩
              case measure => have := HK.out; simp [intOf]; omega
            · have hkz : ¬ (k : Int) < z := by rw [HZ.out]; omega
              have HI := Lib.hid hin
              clear hk hkZ hin
              go_wp2
              go_roundw
              case rel => exact ⟨i + 1, S1, M1, by go_num, HI.out, G1, HM1, RV⟩
              case measure => have := HI.out; simp [intOf]; omega
    · obtain ⟨w12, hw12⟩ : ∃ w12, wr.alloc (.cells (Sw_.C ⟨st, z, (m : Nat)⟩) 24) = w12 := ⟨_, rfl⟩
      have hz12 := Sw_.storeF_zero wr ⟨st, z, (m : Nat)⟩
      rw [hw12] at hz12
      have b12 : Below wr.heap.size wr w12 := hw12 ▸ (Below.refl _ _).alloc (Nat.le_refl _) _
      have R12 := Lib.hid (RR.out.keep b12)
      have P12 := Lib.hid (show Sw_.Box w12 wr.heap.size ⟨st, z, (m : Nat)⟩ from hw12 ▸ Sw_.Box.new wr _)
      have hne : Hid (B7 ≠ wr.heap.size ∧ g ≠ wr.heap.size) := ⟨by have := RR.out.bx.lt; omega, by have := RR.out.lt; omega⟩
      have l12 := R12.out.bx.loadF
      have CNT : Hid (∀ w, Calls Try.prog 14 #[Sw_.v ⟨st, z, (m : Nat)⟩, .int .i64 q] w fun e w' => e = .returned (Sw_.v ⟨nS st z q, z, (nM st z m q : Nat)⟩) ∧ Below w.heap.size w w') := fun w => sc_note_any st z m q w HM.out ⟨GG.out.lo, GG.out.hi⟩
      have G1 := Lib.hid (GG.out.note q)
      have HM1 := Lib.hid (@nM_lt st z q m HM.out)
      have CV := Lib.hid (fun w => refValid_any q w)
      have CDq := Lib.hid (fun w => refDistance_any st q w)
      have HIN : Hid (inn st 2048 q = (vl q && decide (dist st q < 2048))) := rfl
      have HCN : Hid (inn st 2048 q = true → ∀ k, 0 ≤ k → k < 4096 → cl (nS st z q) z (fun k => decide (k = q) || hs st z m k) k = hs (nS st z q) z (nM st z m q) k) := fun h k h0 h1 => noted_note GG.out q k h h0 h1
      have HCS : Hid (inn st 2048 q = false → ∀ k, 0 ≤ k → k < 4096 → cl (nS st z q) z (hs st z m) k = hs (nS st z q) z (nM st z m q) k) := fun h k _ _ => by rw [nS_no h, nM_no h]; exact noted_same k
      have HVQ := Lib.hid (@vl_iff q)
      generalize nS st z q = S1 at *
      generalize nM st z m q = M1 at *
      generalize hs st z m = f0 at *
      generalize dist st q = D at *
      generalize inn st 2048 q = I at *
      have OK1 : Hid (OkS ⟨S1, z, (M1 : Nat)⟩) := ⟨_, _, _, rfl, HM1.out, G1.out⟩
      clear hb b12 hw12
      go_wp2_with fail
      refine (CNT.out _).mono ?_
      rintro e w13 ⟨rfl, h⟩
      have R13 := Lib.hid (R12.out.keep h)
      have P13 := P12.out.below h P12.out.lt
      have st13 := R13.out.bx.storeF ⟨S1, z, (M1 : Nat)⟩
      have hP := (Sw_.setRow_other (W := w13) (Ne.symm hne.out.1) (Sw_.C ⟨S1, z, (M1 : Nat)⟩)).trans P13
      obtain ⟨w16, hw16⟩ : ∃ w16, w13.setRow B7 (Sw_.C ⟨S1, z, (M1 : Nat)⟩) = w16 := ⟨_, rfl⟩
      have R16 : Hid (Rs W B7 g ⟨S1, z, (M1 : Nat)⟩ f0 w16) := hw16 ▸ R13.out.put _
      rw [hw16] at st13 hP
      have P16 : Sw_.Box w16 wr.heap.size ⟨st, z, (m : Nat)⟩ := hP
      have e16 := P16.all
      clear h R13 P13 R12 P12 hP P16 RR l12 lr ci hw16 CNT GG HM hz12
      cases hv : vl q
      · have HC := Lib.hid (HCS.out (by rw [HIN.out, hv]; rfl))
        rw [hv] at CV
        have R1 := R16
        generalize f0 = f1 at *
        clear R16 HCS HCN HIN hv
        go_wp2_with fail
        refine (CV.out _).mono ?_
        rintro e w' ⟨rfl, rfl⟩
        -- in sight: S1 M1 f1 g1 : Gd, hm1, R1 : Hid (Rs W B7 g ⟨S1, z, M1⟩ f1 w16), HC
        have lA := R1.out.bx.loadF
        go_wp2_with (go_at_call 10; refine (sc_check_ok _ _ OK1.out).mono ?_; rintro e w17 ⟨rfl, h⟩; have R2 := Lib.hid (R1.out.keep h); clear h)
        clear lA R1
        go_loopw [13] (fun s13 wq => ∃ k : Nat, k ≤ 4096 ∧ s13 = .int .i64 k ∧ Hid (Rs W B7 g ⟨S1, z, (M1 : Nat)⟩ (mix k (cl S1 z f1) f1) wq)) (fun s13 _ => 4096 - (intOf s13).toNat)
        case atStart => exact ⟨0, by decide, rfl, R2.out.congr (fun j _ => mix_zero _ _ j)⟩
        case round =>
          clear R2
          rename World => wq
          obtain ⟨k, hk, rfl, RQ⟩ := hrel
          have eb := RQ.out.bx.all
          have k0 : (0 : Int) ≤ (k : Int) := by omega
          by_cases hk4 : k < 4096
          · have hk5 : (k : Int) < 4096 := by omega
            have CIk := Lib.hid (fun w => refIn_any S1 z k w)
            have CDk := Lib.hid (fun w => refDistance_any S1 k w)
            have HK := Lib.hid hk4
            have HCk : Hid (cl S1 z f1 k = if inn S1 z k = false ∧ 2048 ≤ dist S1 k then false else f1 k) := rfl
            have HNX := Lib.hid (fun j => mix_succ k (cl S1 z f1) f1 j)
            generalize inn S1 z k = I at *
            generalize dist S1 k = D at *
            have fz := (RQ.out.nt k hk4).2
            obtain ⟨bk, hbk⟩ : ∃ bk, wq.cell? ⟨g, k, none⟩ = some (.bool bk) := ⟨_, (RQ.out.nt k hk4).1⟩
            clear hk
            cases I
            · by_cases hD : 2048 ≤ D
              · have hcl := Lib.hid (HCk.out.trans (if_pos ⟨rfl, hD⟩))
                have RN := Lib.hid (RQ.out.mark k HK.out false)
                go_wp2_with (first
                  | (go_at_call 22; refine (CIk.out _).mono ?_; rintro e w' ⟨rfl, rfl⟩)
                  | (go_at_call 21; refine (CDk.out _).mono ?_; rintro e w' ⟨rfl, rfl⟩))
                go_roundw
                case rel => exact ⟨k + 1, HK.out, by go_num, RN.out.congr (fun j _ => by rw [HNX.out j]; split; (· exact hcl.out); (· rfl))⟩
                case measure => have := HK.out; simp [intOf]; omega
              · have hcl := Lib.hid (HCk.out.trans (if_neg (fun h => hD h.2)))
                go_wp2_with (first
                  | (go_at_call 22; refine (CIk.out _).mono ?_; rintro e w' ⟨rfl, rfl⟩)
                  | (go_at_call 21; refine (CDk.out _).mono ?_; rintro e w' ⟨rfl, rfl⟩))
                go_roundw
                case rel => exact ⟨k + 1, HK.out, by go_num, RQ.out.congr (fun j _ => by rw [HNX.out j]; split; (· rename_i e; rw [e, hcl.out]; exact (mix_at _ _ _).symm); (· rfl))⟩
                case measure => have := HK.out; simp [intOf]; omega
            · have hcl := Lib.hid (HCk.out.trans (if_neg (fun h => by cases h.1)))
              go_wp2_with (first
                | (go_at_call 22; refine (CIk.out _).mono ?_; rintro e w' ⟨rfl, rfl⟩)
                | (go_at_call 21; refine (CDk.out _).mono ?_; rintro e w' ⟨rfl, rfl⟩))
              go_roundw
              case rel => exact ⟨k + 1, HK.out, by go_num, RQ.out.congr (fun j _ => by rw [HNX.out j]; split; (· rename_i e; rw [e, hcl.out]; exact (mix_at _ _ _).symm); (· rfl))⟩
              case measure => have := HK.out; simp [intOf]; omega
          · obtain rfl : k = 4096 := by omega
            have RS : Hid (Rs W B7 g ⟨S1, z, (M1 : Nat)⟩ (hs S1 z M1) wq) := RQ.out.congr (fun j hj => by
              rw [mix_all _ _ _ hj]; exact (HC.out j (by omega) (by omega)).symm)
            have lB := RS.out.bx.loadF
            have CR : Hid (∀ w, Calls Try.prog 13 #[Sw_.v ⟨S1, z, (M1 : Nat)⟩] w fun e w' => e = .returned (.tuple #[.int .i64 S1, .int .u64 (M1 : Int)]) ∧ Below w.heap.size w w') := fun w => sc_report_any ⟨S1, z, (M1 : Nat)⟩ w
            clear RQ hk hk4 eb k0
            go_wp2_with (go_at_call 13; refine (CR.out _).mono ?_; rintro e w24 ⟨rfl, h⟩; have RT := Lib.hid (RS.out.keep h); clear h)
            clear lB RS
            go_loopw [16] (fun s16 wv => ∃ k : Nat, k ≤ Z ∧ s16 = .int .i64 k ∧ Hid (Rs W B7 g ⟨S1, z, (M1 : Nat)⟩ (hs S1 z M1) wv)) (fun s16 _ => Z - (intOf s16).toNat)
            case atStart => exact ⟨0, Nat.zero_le _, rfl, RT.out⟩
            case round =>
              clear RT
              rename World => wv
              obtain ⟨k, hk, rfl, RV⟩ := hrel
              have ev := RV.out.bx.all
              by_cases hkZ : k < Z
              · have hkz : (k : Int) < z := by rw [HZ.out]; omega
                have hZ64 := HZ64.out
                have HK := Lib.hid hkZ
                have CAk := Lib.hid (fun w => refAdd_any S1 k w)
                have hA := md_in (S1 + k)
                have HH := hs_at G1.out k hkz
                obtain ⟨A, hAA⟩ : ∃ A : Nat, add S1 k = (A : Int) := ⟨(add S1 k).toNat, by unfold add; omega⟩
                rw [hAA] at CAk HH
                have hA4 : A < 4096 := by unfold add at hAA; omega
                have cA := (RV.out.nt A hA4).1
                rw [HH] at cA
                have hmin : min k 64 = k := by omega
                have hu : IntKind.u64.wrap (k : Int) = k := IntWalk.u64_in _ (by omega)
                have hk0 : (0 : Int) ≤ (k : Int) := by omega
                have hbt := bit1 M1 k HM1.out
                have hA0 : (0 : Int) ≤ (A : Int) := by omega
                have hA5 : (A : Int) < 4096 := by omega
                generalize M1.testBit k = b1 at *
                have hne : (b1 != b1) = false := by simp
                clear hk hkZ hA hAA HH
                go_wp2_with (go_at_call 23; refine (CAk.out _).mono ?_; rintro e w' ⟨rfl, rfl⟩)
                go_roundw
                case rel => exact ⟨k + 1, HK.out, by go_num, RV⟩
                case measure => have := HK.out; simp [intOf]; omega
              · have hkz : ¬ (k : Int) < z := by rw [HZ.out]; omega
                have HI := Lib.hid hin
                clear hk hkZ hin
                go_wp2
                go_roundw
                case rel => exact ⟨i + 1, S1, M1, by go_num, HI.out, G1, HM1, RV⟩
                case measure => have := HI.out; simp [intOf]; omega
      by_cases hd : D < 2048
      · have HC := Lib.hid (HCN.out (by rw [HIN.out, hv, decide_eq_true hd]; rfl))
        obtain ⟨q0, q4⟩ := HVQ.out.1 hv
        obtain ⟨Q, rfl⟩ : ∃ Q : Nat, q = Q := ⟨q.toNat, by omega⟩
        have hQ4 : Q < 4096 := by omega
        rw [hv] at CV
        have fQ := (R16.out.nt Q hQ4).2
        obtain ⟨bQ, cQ⟩ : ∃ bQ, w16.cell? ⟨g, Q, none⟩ = some (.bool bQ) := ⟨_, (R16.out.nt Q hQ4).1⟩
        have R1 : Hid (Rs W B7 g ⟨S1, z, (M1 : Nat)⟩ (fun k => decide (k = (Q : Int)) || f0 k) (w16.setCell ⟨g, Q, none⟩ (.bool true))) := (R16.out.mark Q hQ4 true).congr (fun j _ => by
          by_cases e : (j : Int) = (Q : Int)
          · rw [decide_eq_true e, if_pos e, Bool.true_or]
          · rw [decide_eq_false e, if_neg e, Bool.false_or])
        generalize (fun k => decide (k = (Q : Int)) || f0 k) = f1 at *
        clear R16 HCS HCN HIN hv HVQ
        go_wp2_with fail
        refine (CV.out _).mono ?_
        rintro e w' ⟨rfl, rfl⟩
        go_wp2_with fail
        refine (CDq.out _).mono ?_
        rintro e w' ⟨rfl, rfl⟩
        -- in sight: S1 M1 f1 g1 : Gd, hm1, R1 : Hid (Rs W B7 g ⟨S1, z, M1⟩ f1 w16), HC
        have lA := R1.out.bx.loadF
        go_wp2_with (go_at_call 10; refine (sc_check_ok _ _ OK1.out).mono ?_; rintro e w17 ⟨rfl, h⟩; have R2 := Lib.hid (R1.out.keep h); clear h)
        clear lA R1
        go_loopw [13] (fun s13 wq => ∃ k : Nat, k ≤ 4096 ∧ s13 = .int .i64 k ∧ Hid (Rs W B7 g ⟨S1, z, (M1 : Nat)⟩ (mix k (cl S1 z f1) f1) wq)) (fun s13 _ => 4096 - (intOf s13).toNat)
        case atStart => exact ⟨0, by decide, rfl, R2.out.congr (fun j _ => mix_zero _ _ j)⟩
        case round =>
          clear R2
          rename World => wq
          obtain ⟨k, hk, rfl, RQ⟩ := hrel
          have eb := RQ.out.bx.all
          have k0 : (0 : Int) ≤ (k : Int) := by omega
          by_cases hk4 : k < 4096
          · have hk5 : (k : Int) < 4096 := by omega
            have CIk := Lib.hid (fun w => refIn_any S1 z k w)
            have CDk := Lib.hid (fun w => refDistance_any S1 k w)
            have HK := Lib.hid hk4
            have HCk : Hid (cl S1 z f1 k = if inn S1 z k = false ∧ 2048 ≤ dist S1 k then false else f1 k) := rfl
            have HNX := Lib.hid (fun j => mix_succ k (cl S1 z f1) f1 j)
            generalize inn S1 z k = I at *
            generalize dist S1 k = D at *
            have fz := (RQ.out.nt k hk4).2
            obtain ⟨bk, hbk⟩ : ∃ bk, wq.cell? ⟨g, k, none⟩ = some (.bool bk) := ⟨_, (RQ.out.nt k hk4).1⟩
            clear hk
            cases I
            · by_cases hD : 2048 ≤ D
              · have hcl := Lib.hid (HCk.out.trans (if_pos ⟨rfl, hD⟩))
                have RN := Lib.hid (RQ.out.mark k HK.out false)
                go_wp2_with (first
                  | (go_at_call 22; refine (CIk.out _).mono ?_; rintro e w' ⟨rfl, rfl⟩)
                  | (go_at_call 21; refine (CDk.out _).mono ?_; rintro e w' ⟨rfl, rfl⟩))
                go_roundw
                case rel => exact ⟨k + 1, HK.out, by go_num, RN.out.congr (fun j _ => by rw [HNX.out j]; split; (· exact hcl.out); (· rfl))⟩
                case measure => have := HK.out; simp [intOf]; omega
              · have hcl := Lib.hid (HCk.out.trans (if_neg (fun h => hD h.2)))
                go_wp2_with (first
                  | (go_at_call 22; refine (CIk.out _).mono ?_; rintro e w' ⟨rfl, rfl⟩)
                  | (go_at_call 21; refine (CDk.out _).mono ?_; rintro e w' ⟨rfl, rfl⟩))
                go_roundw
                case rel => exact ⟨k + 1, HK.out, by go_num, RQ.out.congr (fun j _ => by rw [HNX.out j]; split; (· rename_i e; rw [e, hcl.out]; exact (mix_at _ _ _).symm); (· rfl))⟩
                case measure => have := HK.out; simp [intOf]; omega
            · have hcl := Lib.hid (HCk.out.trans (if_neg (fun h => by cases h.1)))
              go_wp2_with (first
                | (go_at_call 22; refine (CIk.out _).mono ?_; rintro e w' ⟨rfl, rfl⟩)
                | (go_at_call 21; refine (CDk.out _).mono ?_; rintro e w' ⟨rfl, rfl⟩))
              go_roundw
              case rel => exact ⟨k + 1, HK.out, by go_num, RQ.out.congr (fun j _ => by rw [HNX.out j]; split; (· rename_i e; rw [e, hcl.out]; exact (mix_at _ _ _).symm); (· rfl))⟩
              case measure => have := HK.out; simp [intOf]; omega
          · obtain rfl : k = 4096 := by omega
            have RS : Hid (Rs W B7 g ⟨S1, z, (M1 : Nat)⟩ (hs S1 z M1) wq) := RQ.out.congr (fun j hj => by
              rw [mix_all _ _ _ hj]; exact (HC.out j (by omega) (by omega)).symm)
            have lB := RS.out.bx.loadF
            have CR : Hid (∀ w, Calls Try.prog 13 #[Sw_.v ⟨S1, z, (M1 : Nat)⟩] w fun e w' => e = .returned (.tuple #[.int .i64 S1, .int .u64 (M1 : Int)]) ∧ Below w.heap.size w w') := fun w => sc_report_any ⟨S1, z, (M1 : Nat)⟩ w
            clear RQ hk hk4 eb k0
            go_wp2_with (go_at_call 13; refine (CR.out _).mono ?_; rintro e w24 ⟨rfl, h⟩; have RT := Lib.hid (RS.out.keep h); clear h)
            clear lB RS
            go_loopw [16] (fun s16 wv => ∃ k : Nat, k ≤ Z ∧ s16 = .int .i64 k ∧ Hid (Rs W B7 g ⟨S1, z, (M1 : Nat)⟩ (hs S1 z M1) wv)) (fun s16 _ => Z - (intOf s16).toNat)
            case atStart => exact ⟨0, Nat.zero_le _, rfl, RT.out⟩
            case round =>
              clear RT
              rename World => wv
              obtain ⟨k, hk, rfl, RV⟩ := hrel
              have ev := RV.out.bx.all
              by_cases hkZ : k < Z
              · have hkz : (k : Int) < z := by rw [HZ.out]; omega
                have hZ64 := HZ64.out
                have HK := Lib.hid hkZ
                have CAk := Lib.hid (fun w => refAdd_any S1 k w)
                have hA := md_in (S1 + k)
                have HH := hs_at G1.out k hkz
                obtain ⟨A, hAA⟩ : ∃ A : Nat, add S1 k = (A : Int) := ⟨(add S1 k).toNat, by unfold add; omega⟩
                rw [hAA] at CAk HH
                have hA4 : A < 4096 := by unfold add at hAA; omega
                have cA := (RV.out.nt A hA4).1
                rw [HH] at cA
                have hmin : min k 64 = k := by omega
                have hu : IntKind.u64.wrap (k : Int) = k := IntWalk.u64_in _ (by omega)
                have hk0 : (0 : Int) ≤ (k : Int) := by omega
                have hbt := bit1 M1 k HM1.out
                have hA0 : (0 : Int) ≤ (A : Int) := by omega
                have hA5 : (A : Int) < 4096 := by omega
                generalize M1.testBit k = b1 at *
                have hne : (b1 != b1) = false := by simp
                clear hk hkZ hA hAA HH
                go_wp2_with (go_at_call 23; refine (CAk.out _).mono ?_; rintro e w' ⟨rfl, rfl⟩)
                go_roundw
                case rel => exact ⟨k + 1, HK.out, by go_num, RV⟩
                case measure => have := HK.out; simp [intOf]; omega
              · have hkz : ¬ (k : Int) < z := by rw [HZ.out]; omega
                have HI := Lib.hid hin
                clear hk hkZ hin
                go_wp2
                go_roundw
                case rel => exact ⟨i + 1, S1, M1, by go_num, HI.out, G1, HM1, RV⟩
                case measure => have := HI.out; simp [intOf]; omega
      · have HC := Lib.hid (HCS.out (by rw [HIN.out, hv, decide_eq_false hd]; rfl))
        rw [hv] at CV
        have R1 := R16
        generalize f0 = f1 at *
        clear R16 HCS HCN HIN hv
        go_wp2_with fail
        refine (CV.out _).mono ?_
        rintro e w' ⟨rfl, rfl⟩
        go_wp2_with fail
        refine (CDq.out _).mono ?_
        rintro e w' ⟨rfl, rfl⟩
        -- in sight: S1 M1 f1 g1 : Gd, hm1, R1 : Hid (Rs W B7 g ⟨S1, z, M1⟩ f1 w16), HC
        have lA := R1.out.bx.loadF
        go_wp2_with (go_at_call 10; refine (sc_check_ok _ _ OK1.out).mono ?_; rintro e w17 ⟨rfl, h⟩; have R2 := Lib.hid (R1.out.keep h); clear h)
        clear lA R1
        go_loopw [13] (fun s13 wq => ∃ k : Nat, k ≤ 4096 ∧ s13 = .int .i64 k ∧ Hid (Rs W B7 g ⟨S1, z, (M1 : Nat)⟩ (mix k (cl S1 z f1) f1) wq)) (fun s13 _ => 4096 - (intOf s13).toNat)
        case atStart => exact ⟨0, by decide, rfl, R2.out.congr (fun j _ => mix_zero _ _ j)⟩
        case round =>
          clear R2
          rename World => wq
          obtain ⟨k, hk, rfl, RQ⟩ := hrel
          have eb := RQ.out.bx.all
          have k0 : (0 : Int) ≤ (k : Int) := by omega
          by_cases hk4 : k < 4096
          · have hk5 : (k : Int) < 4096 := by omega
            have CIk := Lib.hid (fun w => refIn_any S1 z k w)
            have CDk := Lib.hid (fun w => refDistance_any S1 k w)
            have HK := Lib.hid hk4
            have HCk : Hid (cl S1 z f1 k = if inn S1 z k = false ∧ 2048 ≤ dist S1 k then false else f1 k) := rfl
            have HNX := Lib.hid (fun j => mix_succ k (cl S1 z f1) f1 j)
            generalize inn S1 z k = I at *
            generalize dist S1 k = D at *
            have fz := (RQ.out.nt k hk4).2
            obtain ⟨bk, hbk⟩ : ∃ bk, wq.cell? ⟨g, k, none⟩ = some (.bool bk) := ⟨_, (RQ.out.nt k hk4).1⟩
            clear hk
            cases I
            · by_cases hD : 2048 ≤ D
              · have hcl := Lib.hid (HCk.out.trans (if_pos ⟨rfl, hD⟩))
                have RN := Lib.hid (RQ.out.mark k HK.out false)
                go_wp2_with (first
                  | (go_at_call 22; refine (CIk.out _).mono ?_; rintro e w' ⟨rfl, rfl⟩)
                  | (go_at_call 21; refine (CDk.out _).mono ?_; rintro e w' ⟨rfl, rfl⟩))
                go_roundw
                case rel => exact ⟨k + 1, HK.out, by go_num, RN.out.congr (fun j _ => by rw [HNX.out j]; split; (· exact hcl.out); (· rfl))⟩
                case measure => have := HK.out; simp [intOf]; omega
              · have hcl := Lib.hid (HCk.out.trans (if_neg (fun h => hD h.2)))
                go_wp2_with (first
                  | (go_at_call 22; refine (CIk.out _).mono ?_; rintro e w' ⟨rfl, rfl⟩)
                  | (go_at_call 21; refine (CDk.out _).mono ?_; rintro e w' ⟨rfl, rfl⟩))
                go_roundw
                case rel => exact ⟨k + 1, HK.out, by go_num, RQ.out.congr (fun j _ => by rw [HNX.out j]; split; (· rename_i e; rw [e, hcl.out]; exact (mix_at _ _ _).symm); (· rfl))⟩
                case measure => have := HK.out; simp [intOf]; omega
            · have hcl := Lib.hid (HCk.out.trans (if_neg (fun h => by cases h.1)))
              go_wp2_with (first
                | (go_at_call 22; refine (CIk.out _).mono ?_; rintro e w' ⟨rfl, rfl⟩)
                | (go_at_call 21; refine (CDk.out _).mono ?_; rintro e w' ⟨rfl, rfl⟩))
              go_roundw
              case rel => exact ⟨k + 1, HK.out, by go_num, RQ.out.congr (fun j _ => by rw [HNX.out j]; split; (· rename_i e; rw [e, hcl.out]; exact (mix_at _ _ _).symm); (· rfl))⟩
              case measure => have := HK.out; simp [intOf]; omega
          · obtain rfl : k = 4096 := by omega
            have RS : Hid (Rs W B7 g ⟨S1, z, (M1 : Nat)⟩ (hs S1 z M1) wq) := RQ.out.congr (fun j hj => by
              rw [mix_all _ _ _ hj]; exact (HC.out j (by omega) (by omega)).symm)
            have lB := RS.out.bx.loadF
            have CR : Hid (∀ w, Calls Try.prog 13 #[Sw_.v ⟨S1, z, (M1 : Nat)⟩] w fun e w' => e = .returned (.tuple #[.int .i64 S1, .int .u64 (M1 : Int)]) ∧ Below w.heap.size w w') := fun w => sc_report_any ⟨S1, z, (M1 : Nat)⟩ w
            clear RQ hk hk4 eb k0
            go_wp2_with (go_at_call 13; refine (CR.out _).mono ?_; rintro e w24 ⟨rfl, h⟩; have RT := Lib.hid (RS.out.keep h); clear h)
            clear lB RS
            go_loopw [16] (fun s16 wv => ∃ k : Nat, k ≤ Z ∧ s16 = .int .i64 k ∧ Hid (Rs W B7 g ⟨S1, z, (M1 : Nat)⟩ (hs S1 z M1) wv)) (fun s16 _ => Z - (intOf s16).toNat)
            case atStart => exact ⟨0, Nat.zero_le _, rfl, RT.out⟩
            case round =>
              clear RT
              rename World => wv
              obtain ⟨k, hk, rfl, RV⟩ := hrel
              have ev := RV.out.bx.all
              by_cases hkZ : k < Z
              · have hkz : (k : Int) < z := by rw [HZ.out]; omega
                have hZ64 := HZ64.out
                have HK := Lib.hid hkZ
                have CAk := Lib.hid (fun w => refAdd_any S1 k w)
                have hA := md_in (S1 + k)
                have HH := hs_at G1.out k hkz
                obtain ⟨A, hAA⟩ : ∃ A : Nat, add S1 k = (A : Int) := ⟨(add S1 k).toNat, by unfold add; omega⟩
                rw [hAA] at CAk HH
                have hA4 : A < 4096 := by unfold add at hAA; omega
                have cA := (RV.out.nt A hA4).1
                rw [HH] at cA
                have hmin : min k 64 = k := by omega
                have hu : IntKind.u64.wrap (k : Int) = k := IntWalk.u64_in _ (by omega)
                have hk0 : (0 : Int) ≤ (k : Int) := by omega
                have hbt := bit1 M1 k HM1.out
                have hA0 : (0 : Int) ≤ (A : Int) := by omega
                have hA5 : (A : Int) < 4096 := by omega
                generalize M1.testBit k = b1 at *
                have hne : (b1 != b1) = false := by simp
                clear hk hkZ hA hAA HH
                go_wp2_with (go_at_call 23; refine (CAk.out _).mono ?_; rintro e w' ⟨rfl, rfl⟩)
                go_roundw
                case rel => exact ⟨k + 1, HK.out, by go_num, RV⟩
                case measure => have := HK.out; simp [intOf]; omega
              · have hkz : ¬ (k : Int) < z := by rw [HZ.out]; omega
                have HI := Lib.hid hin
                clear hk hkZ hin
                go_wp2
                go_roundw
                case rel => exact ⟨i + 1, S1, M1, by go_num, HI.out, G1, HM1, RV⟩
                case measure => have := HI.out; simp [intOf]; omega

theorem nat_u8m {a : Int} (h : (Lit.int .u8 a).wf = true) : ∃ k : Nat, a.tmod 64 = k ∧ k < 64 := by
  simp [Lit.wf, IntKind.min, IntKind.max, IntKind.signed, IntKind.bits] at h
  refine ⟨(a % 64).toNat, ?_, by omega⟩
  rw [Int.tmod_eq_emod_of_nonneg (by omega)]
  omega
theorem scoreReports_walk0 {W : World} (u : Int) (hu : (Lit.int .u16 u).wf = true) (v : Int) (hv : (Lit.int .u8 v).wf = true) (l : List Int) (sa : Option Addr) (c : Nat) (hS : Is_.Sl W sa l c) (_ : l.length ≤ maxLen) (hwf : ∀ x ∈ l, (Lit.int .i64 x).wf = true) :
    Calls Try.prog 6 #[.int .u16 u, .int .u8 v, .slice sa l.length c] W fun e w' => e = .returned (.bool true) ∧ Below W.heap.size W w' := by
  obtain ⟨s, hs, hs2, -⟩ := nat_u16 hu
  obtain ⟨j, hj, hj2⟩ := nat_u8m hv
  exact scoreReports_walk1 u v s j hs hs2 hj hj2 l sa c W hS hwf
end Go.Proofs.Ytjighkagmnoncaa
