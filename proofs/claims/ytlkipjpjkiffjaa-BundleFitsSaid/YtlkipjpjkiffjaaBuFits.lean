/-
  THE LAW BundleFits, walked (in work).
-/
import Derived.Test.YtlkipjpjkiffjaaBuFitA
namespace Go.Proofs.Ytlkipjpjkiffjaa
open Go.RowKit Go.Bu Go.Wr Go.Ad Pk_

theorem wf_small {n : Nat} (h : n ≤ 2048) : (Lit.int .i64 (n : Int)).wf = true := by
  simp [Lit.wf, IntKind.min, IntKind.max, IntKind.signed, IntKind.bits]; omega
theorem size_list {l : List Pk} (h0 : l.length = 0 ∨ encE l = 0) : (encS l).size = ln 0 l ∧ ln 0 l ≤ 2048 := by
  rcases h0 with h0 | h0
  · obtain rfl : l = [] := List.length_eq_zero_iff.1 h0
    exact ⟨rfl, Nat.zero_le _⟩
  · exact ⟨by rw [encS_size, if_pos h0], (encE_ok.1 h0).2.2⟩
theorem add_x (m : Nat) (hm : m ≤ 1024) (W : World) : (Op.stringOp .add (yz (zs m)) ⟨#[120]⟩).run Try.prog W = .ok (.string (yz (zs m ++ [120]))) W :=
  r10add_run (zs m) [120] (by rw [zs_len]; simp; omega) W

set_option maxRecDepth 100000 in
set_option maxHeartbeats 8000000 in
theorem fits_a (l : List Pk) (sa : Option Addr) (c : Nat) (W : World) (h : Sl W sa l c) (hl : l.length ≤ maxLen) (hw : ∀ p ∈ l, PkW p) (p : Pk) (hp : PkW p) (hf : fewB l = true) (h9 : l.length ≤ 9) (h0 : l.length = 0) (hk : 0 ≤ rm (ln 0 l) 2048) :
    Calls Try.prog 7 #[.slice sa l.length c, .agg #[.int .u64 p.to, .int .u64 p.fr, .string p.s]] W fun e w' => e = .returned (.bool true) ∧ Below W.heap.size W w' := by
  have AW := Lib.hid lives16_any
  obtain ⟨w1, hw1⟩ : ∃ w1, W.alloc (.cells #[.int .u64 p.to, .int .u64 p.fr, .string p.s] 30) = w1 := ⟨_, rfl⟩
  have O1 := Lib.hid (show Oc W W.heap.size p w1 by subst hw1; exact ⟨Box.new W p rfl, (Below.refl _ _).alloc (Nat.le_refl _) _⟩)
  have HS := Lib.hid (fun wi (hb : Below W.heap.size W wi) => h.below hb)
  have SM := Lib.hid (few16_any l sa c w1 (HS.out _ O1.out.bel).lies hl)
  obtain ⟨hz, h10⟩ := few_sz hf hw
  rw [hf] at SM
  have CE := Lib.hid (buEncode_any l sa c w1 (HS.out _ O1.out.bel).lies hz)
  obtain ⟨hn1, hn2⟩ := size_list (l := l) (.inl h0)
  have CR := Lib.hid fun w => buRoom_any (ln 0 l) 2048 w (wf_small hn2)
  have hsz : ((encS l).size : Int) = (ln 0 l : Nat) := by omega
  have hr := rm_le (ln 0 l) 2048
  obtain ⟨m, hm⟩ : ∃ m : Nat, max (rm (ln 0 l) 2048) 0 = (m : Int) := ⟨(max (rm (ln 0 l) 2048) 0).toNat, by omega⟩
  have hm1 : m ≤ 1024 := by omega
  have hDs : (yz (zs m)).size = m := by rw [yz_size, zs_len]
  have hDs2 : (yz (zs m ++ [120])).size = m + 1 := by rw [yz_size, List.length_append, zs_len]; rfl
  have MZ := Lib.hid fun w => mk_zeros w m hm1
  have ax := add_x m hm1
  have hz1 : sz (l ++ [⟨p.to, p.fr, yz (zs m)⟩]) := ⟨by simp; omega, fun x hx => by
    rcases List.mem_append.1 hx with hx | hx
    · exact hz.2 x hx
    · simp at hx; subst hx; exact ⟨by show (yz (zs m)).size ≤ 3000; omega, hp⟩⟩
  have hz2 : sz (l ++ [⟨p.to, p.fr, yz (zs m ++ [120])⟩]) := ⟨by simp; omega, fun x hx => by
    rcases List.mem_append.1 hx with hx | hx
    · exact hz.2 x hx
    · simp at hx; subst hx; exact ⟨by show (yz (zs m ++ [120])).size ≤ 3000; omega, hp⟩⟩
  have E1 := Lib.hid (enc_last ⟨p.to, p.fr, yz (zs m)⟩ hz1)
  have E2 := Lib.hid (enc_last ⟨p.to, p.fr, yz (zs m ++ [120])⟩ hz2)
  have CC : Hid (∀ w, Calls Try.prog 10 #[.agg #[.int .u64 p.to, .int .u64 p.fr, .string (yz (zs m))]] w fun e w' => e = .returned (.int .i64 (chk ⟨p.to, p.fr, yz (zs m)⟩)) ∧ Below w.heap.size w w') := fun w => buCheck_any ⟨p.to, p.fr, yz (zs m)⟩ w hp
  have FIT := Lib.hid (fun hq => rm_fit (l := l) (.inl h0) ⟨p.to, p.fr, yz (zs m)⟩ hq (by show ((yz (zs m)).size : Int) = _; rw [hDs, hm]))
  have FQ : Hid (chk ⟨p.to, p.fr, yz (zs m)⟩ = 0 → encE (l ++ [⟨p.to, p.fr, yz (zs m)⟩]) = 0 ∧ encE (l ++ [⟨p.to, p.fr, yz (zs m ++ [120])⟩]) = 2) := fun hq => by
    obtain ⟨a1, a2⟩ := (FIT.out hq).2 hk
    exact ⟨a1, a2 ⟨p.to, p.fr, yz (zs m ++ [120])⟩ (chk_ok.1 hq).1 (by show (yz (zs m ++ [120])).size = (yz (zs m)).size + 1; omega)⟩
  have h9' : decide ((9 : Int) < (l.length : Int)) = false := decide_eq_false (by omega)
  have hg1 : decide ((0 : Int) < (l.length : Int)) = false := decide_eq_false (by omega)
  have hg2 : decide (0 < l.length) = false := decide_eq_false (by omega)
  have hk1 : ¬ (1024 : Int) < rm (ln 0 l) 2048 := by omega
  unfold EncPost at CE
  generalize yz (zs m) = D at *
  generalize yz (zs m ++ [120]) = D2 at *
  generalize encS (l ++ [⟨p.to, p.fr, D⟩]) = s1 at *
  generalize encE (l ++ [⟨p.to, p.fr, D⟩]) = f1 at *
  generalize encS (l ++ [⟨p.to, p.fr, D2⟩]) = s2 at *
  generalize encE (l ++ [⟨p.to, p.fr, D2⟩]) = f2 at *
  generalize rm (ln 0 l) 2048 = k at *
  generalize chk ⟨p.to, p.fr, D⟩ = r at *
  generalize encS l = t at *
  generalize encE l = e0 at *
  generalize ln 0 l = n at *
  have HM := Lib.hid hm1
  have HL9 := Lib.hid h9
  have H0 := Lib.hid h0
  have HW1 := Lib.hid hw1
  clear FIT hz1 hz2 hDs hDs2 hn1 hn2 hr hz h10 hf hw hl hp h h0 h9
  by_cases hr0 : r = 0
  case neg =>
    have hr1 : (r != 0) = true := by rw [bne_iff_ne]; exact hr0
    have hk2 : decide (k ≤ 1024) = true := decide_eq_true (by omega)
    clear FQ E1 E2 hr0
    go_enter Try.func7, Try.ntmps7
    go_wp2_with (first
      | (go_at_call 8; refine SM.out.mono ?_; rintro e w' ⟨rfl, rfl⟩)
      | (go_at_call 12; refine CE.out.mono ?_; rintro e w2 ⟨rfl, hb⟩; have O2 := Lib.hid (O1.out.keep hb); clear hb; obtain ⟨wm, hmk, hcv, hgr⟩ := MZ.out w2; have Om := Lib.hid (O2.out.grown hgr (fun j e => by cases e)); have d2 := Om.out.box.cells; have fz := Om.out.box.frozen 2; have O3 := Lib.hid (show Oc W W.heap.size ⟨p.to, p.fr, D⟩ (wm.setCell ⟨W.heap.size, 2, none⟩ (.string D)) from ⟨Pq_.Box.set2 (x := p) Om.out.box D, Om.out.bel.setCell (p := ⟨W.heap.size, 2, none⟩) (Nat.le_refl _) _⟩); clear hgr; have l3 := O3.out.box.cells; have l4 := O3.out.box.load)
      | (go_at_call 17; refine (CR.out _).mono ?_; rintro e w' ⟨rfl, rfl⟩)
      | (go_at_call 10; refine (CC.out _).mono ?_; rintro e w5 ⟨rfl, hb⟩; have O5 := Lib.hid (O3.out.keep hb); clear hb)
      | (go_at_call 9; refine (AW.out _).mono ?_; rintro e w6 ⟨rfl, hb⟩; have B6 := Lib.hid (O5.out.bel.trans (hb.mono O5.out.bel.size)); clear hb))
    go_returns
    exact ⟨rfl, B6.out⟩
  obtain ⟨hf1, hf2⟩ := FQ.out hr0
  subst hr0
  subst hf1
  subst hf2
  have hkn : decide (k < 0) = false := decide_eq_false (by omega)
  have HI := Lib.hid (info_parts info)
  have HNN : Hid (sa = none → l.length = 0 ∧ c = 0) := fun e => by
    have h1 := (HS.out W (Below.refl _ _)).nil e
    have h2 := (HS.out W (Below.refl _ _)).le
    omega
  have HML : Hid (0 + l.length ≤ maxLen) := by show 0 + l.length ≤ maxLen; have := HL9.out; unfold maxLen; omega
  have HMB : Hid ((0 + l.length) * 32 ≤ 140737488355328) := by show (0 + l.length) * 32 ≤ 140737488355328; have := HL9.out; omega
  have HML1 : Hid (l.length + 1 ≤ maxLen) := by show l.length + 1 ≤ maxLen; have := HL9.out; unfold maxLen; omega
  have HMB1 : Hid ((l.length + 1) * 32 ≤ 140737488355328) := by show (l.length + 1) * 32 ≤ 140737488355328; have := HL9.out; omega
  clear FQ
  go_enter Try.func7, Try.ntmps7
  go_wp2_with (first
    | (go_at_call 8; refine SM.out.mono ?_; rintro e w' ⟨rfl, rfl⟩)
    | (go_at_call 12; refine CE.out.mono ?_; rintro e w2 ⟨rfl, hb⟩; have O2 := Lib.hid (O1.out.keep hb); clear hb; obtain ⟨wm, hmk, hcv, hgr⟩ := MZ.out w2; have Om := Lib.hid (O2.out.grown hgr (fun j e => by cases e)); have d2 := Om.out.box.cells; have fz := Om.out.box.frozen 2; have O3 := Lib.hid (show Oc W W.heap.size ⟨p.to, p.fr, D⟩ (wm.setCell ⟨W.heap.size, 2, none⟩ (.string D)) from ⟨Pq_.Box.set2 (x := p) Om.out.box D, Om.out.bel.setCell (p := ⟨W.heap.size, 2, none⟩) (Nat.le_refl _) _⟩); clear hgr; have l3 := O3.out.box.cells; have l4 := O3.out.box.load)
    | (go_at_call 17; refine (CR.out _).mono ?_; rintro e w' ⟨rfl, rfl⟩)
    | (go_at_call 10; refine (CC.out _).mono ?_; rintro e w5 ⟨rfl, hb⟩; have O5 := Lib.hid (O3.out.keep hb); clear hb))
  clear l3 l4 d2 fz hmk hcv
  have oC := Lib.hid (show (w5.alloc (.cells #[] 30)).drew.ownsRow w5.heap.size 30 3 (.slice (some ⟨w5.heap.size, 0, none⟩) 0 0) 0 [] from World.ownsRow_made w5 #[] 0 (Nat.le_refl _) (Nat.zero_le _) rfl)
  have oB := Lib.hid (show ((w5.alloc (.cells #[] 30)).alloc (.cells #[.int .u64 p.to, .int .u64 p.fr, .string D] 30)).drew.ownsRow w5.heap.size 30 3 (.slice (some ⟨w5.heap.size, 0, none⟩) 0 0) 0 [] from (World.ownsRow_made w5 #[] 0 (Nat.le_refl _) (Nat.zero_le _) rfl).alloc _)
  have oA := Lib.hid (show ((w5.alloc (.cells #[.int .u64 p.to, .int .u64 p.fr, .string D] 30)).alloc (.cells #[] 30)).drew.ownsRow w5.heap.size 30 3 (.slice (some ⟨w5.heap.size + 1, 0, none⟩) 0 0) 0 [] by
    have hs : (w5.alloc (.cells #[.int .u64 p.to, .int .u64 p.fr, .string D] 30)).heap.size = w5.heap.size + 1 := by simp
    have hx := World.ownsRow_made (base := w5.heap.size) (e := 30) (size := 3) (w5.alloc (.cells #[.int .u64 p.to, .int .u64 p.fr, .string D] 30)) #[] 0 (by omega) (Nat.zero_le _) rfl
    rw [hs] at hx
    exact hx)
  have lA := Lib.hid (show Box ((w5.alloc (.cells #[.int .u64 p.to, .int .u64 p.fr, .string D] 30)).alloc (.cells #[] 30)).drew w5.heap.size ⟨p.to, p.fr, D⟩ by
    have h1 : Box (w5.alloc (.cells #[.int .u64 p.to, .int .u64 p.fr, .string D] 30)) w5.heap.size ⟨p.to, p.fr, D⟩ := Box.new w5 ⟨p.to, p.fr, D⟩ rfl
    exact (h1.below ((Below.refl (w5.alloc (.cells #[.int .u64 p.to, .int .u64 p.fr, .string D] 30)).heap.size (w5.alloc (.cells #[.int .u64 p.to, .int .u64 p.fr, .string D] 30))).alloc (Nat.le_refl _) (.cells #[] 30)) h1.lt).drew)
  have lB := Lib.hid (show Box ((w5.alloc (.cells #[] 30)).alloc (.cells #[.int .u64 p.to, .int .u64 p.fr, .string D] 30)).drew (w5.heap.size + 1) ⟨p.to, p.fr, D⟩ from (Box.new (w5.alloc (.cells #[] 30)) ⟨p.to, p.fr, D⟩ (by simp)))
  have sA := Lib.hid (HS.out _ ((O5.out.alloc (.cells #[.int .u64 p.to, .int .u64 p.fr, .string D] 30)).alloc (.cells #[] 30)).drew.bel)
  have sB := Lib.hid (HS.out _ ((O5.out.alloc (.cells #[] 30)).alloc (.cells #[.int .u64 p.to, .int .u64 p.fr, .string D] 30)).drew.bel)
  have sC := Lib.hid (HS.out _ (O5.out.alloc (.cells #[] 30)).drew.bel)
  refine wp_region_held_drew (S := (fun w' => w'.cell? ⟨W.heap.size, 0, none⟩ = some (.int .u64 p.to) ∧ w'.cell? ⟨W.heap.size, 1, none⟩ = some (.int .u64 p.fr) ∧ w'.cell? ⟨W.heap.size, 2, none⟩ = some (.string D) ∧ Oc W W.heap.size ⟨p.to, p.fr, D⟩ w')) (by kernel_rfl) ?_ (fun hHeld => ?_)
  · exact O5.out.drew.lim
  refine wpAnyH_take (i := 1) (oi := { dst := some 54, op := Op.move (Operand.tmp 0), type := 22, pos := "law.go:99", after := #[], guard := none }) (v := ?v1) rfl (by kernel_rfl) (by kernel_rfl) (by kernel_rfl) (fun _ _ _ h => h) (Or.inl ⟨by rfl, ?y1⟩) hHeld ?r1
  case y1 => (intro w hSw; (try dsimp only at hSw); go_simp; try with_reducible rfl)
  try simp only [Act.put, List.setIfInBounds_toArray, List.set_cons_zero, List.set_cons_succ]
  refine wpAnyH_take (i := 3) (oi := { dst := some 56, op := Op.load 30 (Operand.tmp 3), type := 30, pos := "law.go:99", after := #[], guard := none }) (v := ?v2) rfl (by kernel_rfl) (by kernel_rfl) (by kernel_rfl) (fun _ _ _ h => h) (Or.inl ⟨by rfl, ?y2⟩) hHeld ?r2
  case y2 => (intro w hSw; (try dsimp only at hSw); go_simp; try with_reducible rfl)
  try simp only [Act.put, List.setIfInBounds_toArray, List.set_cons_zero, List.set_cons_succ]
  refine wpAnyH_ready (rs := [0, 4]) (by kernel_rfl) (by simp) ?_
  refine AllReadyH.cons (o := { dst := some 53, op := Op.buildSlice 22 0 #[], type := 22, pos := "law.go:99", after := #[], guard := none }) rfl (fun K hK => ?_) ?_
  · clear hHeld
    go_simp
    refine hK.out _ _ ?_ (fun hHeld => ?_)
    · first | exact O6.out.lim | exact O3x.out.lim | exact (O3x.out.alloc _).lim | exact O5.out.drew.lim | exact (O5.out.alloc _).drew.lim | exact ((O5.out.alloc _).alloc _).drew.lim
    clear hK K
    try simp only [Act.put, List.setIfInBounds_toArray, List.set_cons_zero, List.set_cons_succ]
    refine wpAnyH_ready (rs := [2, 4]) (by kernel_rfl) (by simp) ?_
    refine AllReadyH.cons (o := { dst := some 55, op := Op.call { callee := Callee.builtin Builtin.append, args := #[Operand.tmp 53, Operand.tmp 54], argTypes := #[22, 22] }, type := 22, pos := "law.go:99", after := #[{ on := 0, ground := Ground.data }, { on := 1, ground := Ground.data }], guard := none }) rfl (fun K hK => ?_) ?_
    · clear hHeld
      obtain ⟨i0, hi, hz0, hz1, hz2⟩ := HI.out
      first
        | (refine step_append_any16 _ rfl (.tmp 53) (.tmp 54) 22 rfl w5.heap.size 30 i0 (.agg #[.int .u64 0, .int .u64 0, .string ⟨#[]⟩]) 3 32 Try.underlying22 hi hz0 hz1 hz2 rfl (by decide) _ 0 [] (by simp [Act.eval]) oA.out sa l.length c (Pk_.flat l) (by simp [Act.eval]) (flat_len l) HNN.out sA.out.news (flat_ones l) HML.out HMB.out (by simp <;> omega) ?_; intro v3 w3 hown3 hgrow; clear hi hz0 hz1 hz2; have hown3x := Lib.hid (show w3.ownsRow w5.heap.size 30 3 v3 l.length (Pk_.flat l) by simpa using hown3); have O3x := Lib.hid (Oc.grown (w := W) (g := W.heap.size) (p := ⟨p.to, p.fr, D⟩) (((O5.out.alloc (.cells #[.int .u64 p.to, .int .u64 p.fr, .string D] 30)).alloc (.cells #[] 30)).drew) hgrow (fun j e => by have h1 := oA.out.lt j e; have h2 := O5.out.box.lt; omega)); have L3 := Lib.hid (show Box w3 w5.heap.size ⟨p.to, p.fr, D⟩ from (hgrow.block w5.heap.size lA.out.lt (fun e => absurd (Option.some.inj (show some w5.heap.size = some (w5.heap.size + 1) from e)) (by omega))).trans lA.out); have O35 := Lib.hid (show w5.heap.size ≤ w3.heap.size from Nat.le_trans (by simp; try omega) hgrow.size); clear hown3 hgrow; obtain ⟨v3a, c3, rfl⟩ := slice_form hown3x.out)
        | (refine step_append_any16 _ rfl (.tmp 53) (.tmp 54) 22 rfl w5.heap.size 30 i0 (.agg #[.int .u64 0, .int .u64 0, .string ⟨#[]⟩]) 3 32 Try.underlying22 hi hz0 hz1 hz2 rfl (by decide) _ 0 [] (by simp [Act.eval]) oB.out sa l.length c (Pk_.flat l) (by simp [Act.eval]) (flat_len l) HNN.out sB.out.news (flat_ones l) HML.out HMB.out (by simp <;> omega) ?_; intro v3 w3 hown3 hgrow; clear hi hz0 hz1 hz2; have hown3x := Lib.hid (show w3.ownsRow w5.heap.size 30 3 v3 l.length (Pk_.flat l) by simpa using hown3); have O3x := Lib.hid (Oc.grown (w := W) (g := W.heap.size) (p := ⟨p.to, p.fr, D⟩) (((O5.out.alloc (.cells #[] 30)).alloc (.cells #[.int .u64 p.to, .int .u64 p.fr, .string D] 30)).drew) hgrow (fun j e => by have h1 := oB.out.lt j e; have h2 := O5.out.box.lt; omega)); have L3 := Lib.hid (show Box w3 (w5.heap.size + 1) ⟨p.to, p.fr, D⟩ from (hgrow.block (w5.heap.size + 1) lB.out.lt (fun e => absurd (Option.some.inj (show some (w5.heap.size + 1) = some w5.heap.size from e)) (by omega))).trans lB.out); have O35 := Lib.hid (show w5.heap.size ≤ w3.heap.size from Nat.le_trans (by simp; try omega) hgrow.size); clear hown3 hgrow; obtain ⟨v3a, c3, rfl⟩ := slice_form hown3x.out)
        | (refine step_append_any16 _ rfl (.tmp 53) (.tmp 54) 22 rfl w5.heap.size 30 i0 (.agg #[.int .u64 0, .int .u64 0, .string ⟨#[]⟩]) 3 32 Try.underlying22 hi hz0 hz1 hz2 rfl (by decide) _ 0 [] (by simp [Act.eval]) oC.out sa l.length c (Pk_.flat l) (by simp [Act.eval]) (flat_len l) HNN.out sC.out.news (flat_ones l) HML.out HMB.out (by simp <;> omega) ?_; intro v3 w3 hown3 hgrow; clear hi hz0 hz1 hz2; have hown3x := Lib.hid (show w3.ownsRow w5.heap.size 30 3 v3 l.length (Pk_.flat l) by simpa using hown3); have O3x := Lib.hid (Oc.grown (w := W) (g := W.heap.size) (p := ⟨p.to, p.fr, D⟩) ((O5.out.alloc (.cells #[] 30)).drew) hgrow (fun j e => by have h1 := oC.out.lt j e; have h2 := O5.out.box.lt; omega)); have L3c := Lib.hid (show Box (w3.alloc (.cells #[.int .u64 p.to, .int .u64 p.fr, .string D] 30)) w3.heap.size ⟨p.to, p.fr, D⟩ from Box.new w3 ⟨p.to, p.fr, D⟩ rfl); have O35 := Lib.hid (show w5.heap.size ≤ w3.heap.size from Nat.le_trans (by simp; try omega) hgrow.size); clear hown3 hgrow; obtain ⟨v3a, c3, rfl⟩ := slice_form hown3x.out)
      refine hK.out _ _ ?_ (fun hHeld => ?_)
      · first | exact O6.out.lim | exact O3x.out.lim | exact (O3x.out.alloc _).lim | exact O5.out.drew.lim | exact (O5.out.alloc _).drew.lim | exact ((O5.out.alloc _).alloc _).drew.lim
      clear hK K
      try simp only [Act.put, List.setIfInBounds_toArray, List.set_cons_zero, List.set_cons_succ]
      refine wpAnyH_ready (rs := [4]) (by kernel_rfl) (by simp) ?_
      refine AllReadyH.cons (o := { dst := some 57, op := Op.buildSlice 22 1 #[(0, Operand.tmp 56)], type := 22, pos := "law.go:99", after := #[{ on := 3, ground := Ground.data }], guard := none }) rfl (fun K hK => ?_) ?_
      · clear hHeld
        go_simp
        refine hK.out _ _ ?_ (fun hHeld => ?_)
        · first | exact O6.out.lim | exact O3x.out.lim | exact (O3x.out.alloc _).lim | exact O5.out.drew.lim | exact (O5.out.alloc _).drew.lim | exact ((O5.out.alloc _).alloc _).drew.lim
        clear hK K
        try simp only [Act.put, List.setIfInBounds_toArray, List.set_cons_zero, List.set_cons_succ]
        refine wpAnyH_ready (rs := [5]) (by kernel_rfl) (by simp) ?_
        refine AllReadyH.cons (o := { dst := some 58, op := Op.call { callee := Callee.builtin Builtin.append, args := #[Operand.tmp 55, Operand.tmp 57], argTypes := #[22, 22] }, type := 22, pos := "law.go:99", after := #[{ on := 2, ground := Ground.data }, { on := 4, ground := Ground.data }, { on := 2, ground := Ground.chain }], guard := none }) rfl (fun K hK => ?_) ?_
        · clear hHeld
          obtain ⟨i0, hi, hz0, hz1, hz2⟩ := HI.out
          first
            | (refine step_append_any16 _ rfl (.tmp 55) (.tmp 57) 22 rfl w5.heap.size 30 i0 (.agg #[.int .u64 0, .int .u64 0, .string ⟨#[]⟩]) 3 32 Try.underlying22 hi hz0 hz1 hz2 rfl (by decide) _ l.length (Pk_.flat l) (by simp [Act.eval]) hown3x.out (some ⟨w5.heap.size, 0, none⟩) 1 1 [.int .u64 p.to, .int .u64 p.fr, .string D] (by simp [Act.eval]) rfl (fun e => by cases e) (fun ad e => by injection e with e; subst e; exact World.news_of_block L3.out) (flat_one ⟨p.to, p.fr, D⟩) HML1.out HMB1.out (Nat.le_trans O35.out (Nat.le_refl _)) ?_; intro v6 w6 hown6 hgrow6; clear hi hz0 hz1 hz2; have O6 := Lib.hid (Oc.grown (w := W) (g := W.heap.size) (p := ⟨p.to, p.fr, D⟩) (O3x.out) hgrow6 (fun j e => by have h1 := (hown3x.out).lt j e; have h2 := O5.out.box.lt; omega)); have hown6x := Lib.hid (show w6.ownsRow w5.heap.size 30 3 v6 (l.length + 1) (Pk_.flat (l ++ [⟨p.to, p.fr, D⟩])) by rw [flat_snoc]; exact hown6); clear hown6 hgrow6; obtain ⟨g6, c6, rfl, hg6⟩ := own_form hown6x.out; have HG6 := Lib.hid hg6; clear hg6)
            | (refine step_append_any16 _ rfl (.tmp 55) (.tmp 57) 22 rfl w5.heap.size 30 i0 (.agg #[.int .u64 0, .int .u64 0, .string ⟨#[]⟩]) 3 32 Try.underlying22 hi hz0 hz1 hz2 rfl (by decide) _ l.length (Pk_.flat l) (by simp [Act.eval]) hown3x.out (some ⟨(w5.heap.size + 1), 0, none⟩) 1 1 [.int .u64 p.to, .int .u64 p.fr, .string D] (by simp [Act.eval]) rfl (fun e => by cases e) (fun ad e => by injection e with e; subst e; exact World.news_of_block L3.out) (flat_one ⟨p.to, p.fr, D⟩) HML1.out HMB1.out (Nat.le_trans O35.out (Nat.le_refl _)) ?_; intro v6 w6 hown6 hgrow6; clear hi hz0 hz1 hz2; have O6 := Lib.hid (Oc.grown (w := W) (g := W.heap.size) (p := ⟨p.to, p.fr, D⟩) (O3x.out) hgrow6 (fun j e => by have h1 := (hown3x.out).lt j e; have h2 := O5.out.box.lt; omega)); have hown6x := Lib.hid (show w6.ownsRow w5.heap.size 30 3 v6 (l.length + 1) (Pk_.flat (l ++ [⟨p.to, p.fr, D⟩])) by rw [flat_snoc]; exact hown6); clear hown6 hgrow6; obtain ⟨g6, c6, rfl, hg6⟩ := own_form hown6x.out; have HG6 := Lib.hid hg6; clear hg6)
            | (refine step_append_any16 _ rfl (.tmp 55) (.tmp 57) 22 rfl w5.heap.size 30 i0 (.agg #[.int .u64 0, .int .u64 0, .string ⟨#[]⟩]) 3 32 Try.underlying22 hi hz0 hz1 hz2 rfl (by decide) _ l.length (Pk_.flat l) (by simp [Act.eval]) (hown3x.out.alloc (.cells #[.int .u64 p.to, .int .u64 p.fr, .string D] 30)) (some ⟨w3.heap.size, 0, none⟩) 1 1 [.int .u64 p.to, .int .u64 p.fr, .string D] (by simp [Act.eval]) rfl (fun e => by cases e) (fun ad e => by injection e with e; subst e; exact World.news_of_block L3c.out) (flat_one ⟨p.to, p.fr, D⟩) HML1.out HMB1.out (Nat.le_trans O35.out (by simp)) ?_; intro v6 w6 hown6 hgrow6; clear hi hz0 hz1 hz2; have O6 := Lib.hid (Oc.grown (w := W) (g := W.heap.size) (p := ⟨p.to, p.fr, D⟩) (O3x.out.alloc (.cells #[.int .u64 p.to, .int .u64 p.fr, .string D] 30)) hgrow6 (fun j e => by have h1 := ((hown3x.out.alloc (.cells #[.int .u64 p.to, .int .u64 p.fr, .string D] 30))).lt j e; have h2 := O5.out.box.lt; omega)); have hown6x := Lib.hid (show w6.ownsRow w5.heap.size 30 3 v6 (l.length + 1) (Pk_.flat (l ++ [⟨p.to, p.fr, D⟩])) by rw [flat_snoc]; exact hown6); clear hown6 hgrow6; obtain ⟨g6, c6, rfl, hg6⟩ := own_form hown6x.out; have HG6 := Lib.hid hg6; clear hg6)
          refine hK.out _ _ ?_ (fun hHeld => ?_)
          · first | exact O6.out.lim | exact O3x.out.lim | exact (O3x.out.alloc _).lim | exact O5.out.drew.lim | exact (O5.out.alloc _).drew.lim | exact ((O5.out.alloc _).alloc _).drew.lim
          clear hK K
          try simp only [Act.put, List.setIfInBounds_toArray, List.set_cons_zero, List.set_cons_succ]
          refine wpAnyH_take (i := 6) (oi := { dst := some 8, op := Op.assign (Operand.tmp 58), type := 22, pos := "law.go:99", after := #[{ on := 5, ground := Ground.data }, { on := 5, ground := Ground.chain }, { on := 0, ground := Ground.phase }, { on := 1, ground := Ground.phase }, { on := 2, ground := Ground.phase }, { on := 3, ground := Ground.phase }, { on := 4, ground := Ground.phase }, { on := 5, ground := Ground.phase }], guard := none }) (v := ?v3) rfl (by kernel_rfl) (by kernel_rfl) (by kernel_rfl) (fun _ _ _ h => h) (Or.inl ⟨by rfl, ?y3⟩) hHeld ?r3
          case y3 => (intro w hSw; (try dsimp only at hSw); go_simp; try with_reducible rfl)
          try simp only [Act.put, List.setIfInBounds_toArray, List.set_cons_zero, List.set_cons_succ]
          refine wpAnyH_done (by kernel_rfl) ?_ _
          go_wp2_with (first
            | (go_at_call 12; with_reducible refine (E2.out _ _ _ _ hown8.out).mono ?_; rintro e w9 ⟨rfl, hb⟩; have B9 := Lib.hid (B8.out.trans (hb.mono B8.out.size)); clear hb)
            | (go_at_call 12; refine (E1.out _ _ _ _ hown6x.out).mono ?_; rintro e w7 ⟨rfl, hb⟩; have O7 := Lib.hid (O6.out.keep hb); have hown7 := owns_below16 hown6x.out hb; clear hb; have d7 : w7.cell? ⟨W.heap.size, 2, none⟩ = some (.string D) := O7.out.box.cells.2.2; have lc1 : w7.cell? ⟨g6, l.length * 3 + 2, none⟩ = some (.string D) := (last_cell hown7).1; have lc2 := (last_cell hown7).2; have hown8 := Lib.hid (show (w7.setCell ⟨g6, l.length * 3 + 2, none⟩ (.string D2)).ownsRow w5.heap.size 30 3 (.slice (some ⟨g6, 0, none⟩) (l.length + 1) c6) (l.length + 1) (Pk_.flat (l ++ [⟨p.to, p.fr, D2⟩])) by have hx := (hown7.stored (l.length * 3 + 2) (.string D2)).1; rwa [flat_last] at hx); have B8 := Lib.hid (O7.out.bel.setCell (p := ⟨g6, l.length * 3 + 2, none⟩) (Nat.le_trans (Nat.le_of_lt O5.out.box.lt) HG6.out) (.string D2)); clear hown7)
            | (go_at_call 9; refine (AW.out _).mono ?_; rintro e w10 ⟨rfl, hb⟩; have B10 := Lib.hid (B9.out.trans (hb.mono B9.out.size)); clear hb))
          go_returns
          exact ⟨rfl, B10.out⟩
        exact AllReadyH.nil
      exact AllReadyH.nil
    refine AllReadyH.cons (o := { dst := some 57, op := Op.buildSlice 22 1 #[(0, Operand.tmp 56)], type := 22, pos := "law.go:99", after := #[{ on := 3, ground := Ground.data }], guard := none }) rfl (fun K hK => ?_) ?_
    · clear hHeld
      go_simp
      refine hK.out _ _ ?_ (fun hHeld => ?_)
      · first | exact O6.out.lim | exact O3x.out.lim | exact (O3x.out.alloc _).lim | exact O5.out.drew.lim | exact (O5.out.alloc _).drew.lim | exact ((O5.out.alloc _).alloc _).drew.lim
      clear hK K
      try simp only [Act.put, List.setIfInBounds_toArray, List.set_cons_zero, List.set_cons_succ]
      refine wpAnyH_ready (rs := [2]) (by kernel_rfl) (by simp) ?_
      refine AllReadyH.cons (o := { dst := some 55, op := Op.call { callee := Callee.builtin Builtin.append, args := #[Operand.tmp 53, Operand.tmp 54], argTypes := #[22, 22] }, type := 22, pos := "law.go:99", after := #[{ on := 0, ground := Ground.data }, { on := 1, ground := Ground.data }], guard := none }) rfl (fun K hK => ?_) ?_
      · clear hHeld
        obtain ⟨i0, hi, hz0, hz1, hz2⟩ := HI.out
        first
          | (refine step_append_any16 _ rfl (.tmp 53) (.tmp 54) 22 rfl w5.heap.size 30 i0 (.agg #[.int .u64 0, .int .u64 0, .string ⟨#[]⟩]) 3 32 Try.underlying22 hi hz0 hz1 hz2 rfl (by decide) _ 0 [] (by simp [Act.eval]) oA.out sa l.length c (Pk_.flat l) (by simp [Act.eval]) (flat_len l) HNN.out sA.out.news (flat_ones l) HML.out HMB.out (by simp <;> omega) ?_; intro v3 w3 hown3 hgrow; clear hi hz0 hz1 hz2; have hown3x := Lib.hid (show w3.ownsRow w5.heap.size 30 3 v3 l.length (Pk_.flat l) by simpa using hown3); have O3x := Lib.hid (Oc.grown (w := W) (g := W.heap.size) (p := ⟨p.to, p.fr, D⟩) (((O5.out.alloc (.cells #[.int .u64 p.to, .int .u64 p.fr, .string D] 30)).alloc (.cells #[] 30)).drew) hgrow (fun j e => by have h1 := oA.out.lt j e; have h2 := O5.out.box.lt; omega)); have L3 := Lib.hid (show Box w3 w5.heap.size ⟨p.to, p.fr, D⟩ from (hgrow.block w5.heap.size lA.out.lt (fun e => absurd (Option.some.inj (show some w5.heap.size = some (w5.heap.size + 1) from e)) (by omega))).trans lA.out); have O35 := Lib.hid (show w5.heap.size ≤ w3.heap.size from Nat.le_trans (by simp; try omega) hgrow.size); clear hown3 hgrow; obtain ⟨v3a, c3, rfl⟩ := slice_form hown3x.out)
          | (refine step_append_any16 _ rfl (.tmp 53) (.tmp 54) 22 rfl w5.heap.size 30 i0 (.agg #[.int .u64 0, .int .u64 0, .string ⟨#[]⟩]) 3 32 Try.underlying22 hi hz0 hz1 hz2 rfl (by decide) _ 0 [] (by simp [Act.eval]) oB.out sa l.length c (Pk_.flat l) (by simp [Act.eval]) (flat_len l) HNN.out sB.out.news (flat_ones l) HML.out HMB.out (by simp <;> omega) ?_; intro v3 w3 hown3 hgrow; clear hi hz0 hz1 hz2; have hown3x := Lib.hid (show w3.ownsRow w5.heap.size 30 3 v3 l.length (Pk_.flat l) by simpa using hown3); have O3x := Lib.hid (Oc.grown (w := W) (g := W.heap.size) (p := ⟨p.to, p.fr, D⟩) (((O5.out.alloc (.cells #[] 30)).alloc (.cells #[.int .u64 p.to, .int .u64 p.fr, .string D] 30)).drew) hgrow (fun j e => by have h1 := oB.out.lt j e; have h2 := O5.out.box.lt; omega)); have L3 := Lib.hid (show Box w3 (w5.heap.size + 1) ⟨p.to, p.fr, D⟩ from (hgrow.block (w5.heap.size + 1) lB.out.lt (fun e => absurd (Option.some.inj (show some (w5.heap.size + 1) = some w5.heap.size from e)) (by omega))).trans lB.out); have O35 := Lib.hid (show w5.heap.size ≤ w3.heap.size from Nat.le_trans (by simp; try omega) hgrow.size); clear hown3 hgrow; obtain ⟨v3a, c3, rfl⟩ := slice_form hown3x.out)
          | (refine step_append_any16 _ rfl (.tmp 53) (.tmp 54) 22 rfl w5.heap.size 30 i0 (.agg #[.int .u64 0, .int .u64 0, .string ⟨#[]⟩]) 3 32 Try.underlying22 hi hz0 hz1 hz2 rfl (by decide) _ 0 [] (by simp [Act.eval]) oC.out sa l.length c (Pk_.flat l) (by simp [Act.eval]) (flat_len l) HNN.out sC.out.news (flat_ones l) HML.out HMB.out (by simp <;> omega) ?_; intro v3 w3 hown3 hgrow; clear hi hz0 hz1 hz2; have hown3x := Lib.hid (show w3.ownsRow w5.heap.size 30 3 v3 l.length (Pk_.flat l) by simpa using hown3); have O3x := Lib.hid (Oc.grown (w := W) (g := W.heap.size) (p := ⟨p.to, p.fr, D⟩) ((O5.out.alloc (.cells #[] 30)).drew) hgrow (fun j e => by have h1 := oC.out.lt j e; have h2 := O5.out.box.lt; omega)); have L3c := Lib.hid (show Box (w3.alloc (.cells #[.int .u64 p.to, .int .u64 p.fr, .string D] 30)) w3.heap.size ⟨p.to, p.fr, D⟩ from Box.new w3 ⟨p.to, p.fr, D⟩ rfl); have O35 := Lib.hid (show w5.heap.size ≤ w3.heap.size from Nat.le_trans (by simp; try omega) hgrow.size); clear hown3 hgrow; obtain ⟨v3a, c3, rfl⟩ := slice_form hown3x.out)
        refine hK.out _ _ ?_ (fun hHeld => ?_)
        · first | exact O6.out.lim | exact O3x.out.lim | exact (O3x.out.alloc _).lim | exact O5.out.drew.lim | exact (O5.out.alloc _).drew.lim | exact ((O5.out.alloc _).alloc _).drew.lim
        clear hK K
        try simp only [Act.put, List.setIfInBounds_toArray, List.set_cons_zero, List.set_cons_succ]
        refine wpAnyH_ready (rs := [5]) (by kernel_rfl) (by simp) ?_
        refine AllReadyH.cons (o := { dst := some 58, op := Op.call { callee := Callee.builtin Builtin.append, args := #[Operand.tmp 55, Operand.tmp 57], argTypes := #[22, 22] }, type := 22, pos := "law.go:99", after := #[{ on := 2, ground := Ground.data }, { on := 4, ground := Ground.data }, { on := 2, ground := Ground.chain }], guard := none }) rfl (fun K hK => ?_) ?_
        · clear hHeld
          obtain ⟨i0, hi, hz0, hz1, hz2⟩ := HI.out
          first
            | (refine step_append_any16 _ rfl (.tmp 55) (.tmp 57) 22 rfl w5.heap.size 30 i0 (.agg #[.int .u64 0, .int .u64 0, .string ⟨#[]⟩]) 3 32 Try.underlying22 hi hz0 hz1 hz2 rfl (by decide) _ l.length (Pk_.flat l) (by simp [Act.eval]) hown3x.out (some ⟨w5.heap.size, 0, none⟩) 1 1 [.int .u64 p.to, .int .u64 p.fr, .string D] (by simp [Act.eval]) rfl (fun e => by cases e) (fun ad e => by injection e with e; subst e; exact World.news_of_block L3.out) (flat_one ⟨p.to, p.fr, D⟩) HML1.out HMB1.out (Nat.le_trans O35.out (Nat.le_refl _)) ?_; intro v6 w6 hown6 hgrow6; clear hi hz0 hz1 hz2; have O6 := Lib.hid (Oc.grown (w := W) (g := W.heap.size) (p := ⟨p.to, p.fr, D⟩) (O3x.out) hgrow6 (fun j e => by have h1 := (hown3x.out).lt j e; have h2 := O5.out.box.lt; omega)); have hown6x := Lib.hid (show w6.ownsRow w5.heap.size 30 3 v6 (l.length + 1) (Pk_.flat (l ++ [⟨p.to, p.fr, D⟩])) by rw [flat_snoc]; exact hown6); clear hown6 hgrow6; obtain ⟨g6, c6, rfl, hg6⟩ := own_form hown6x.out; have HG6 := Lib.hid hg6; clear hg6)
            | (refine step_append_any16 _ rfl (.tmp 55) (.tmp 57) 22 rfl w5.heap.size 30 i0 (.agg #[.int .u64 0, .int .u64 0, .string ⟨#[]⟩]) 3 32 Try.underlying22 hi hz0 hz1 hz2 rfl (by decide) _ l.length (Pk_.flat l) (by simp [Act.eval]) hown3x.out (some ⟨(w5.heap.size + 1), 0, none⟩) 1 1 [.int .u64 p.to, .int .u64 p.fr, .string D] (by simp [Act.eval]) rfl (fun e => by cases e) (fun ad e => by injection e with e; subst e; exact World.news_of_block L3.out) (flat_one ⟨p.to, p.fr, D⟩) HML1.out HMB1.out (Nat.le_trans O35.out (Nat.le_refl _)) ?_; intro v6 w6 hown6 hgrow6; clear hi hz0 hz1 hz2; have O6 := Lib.hid (Oc.grown (w := W) (g := W.heap.size) (p := ⟨p.to, p.fr, D⟩) (O3x.out) hgrow6 (fun j e => by have h1 := (hown3x.out).lt j e; have h2 := O5.out.box.lt; omega)); have hown6x := Lib.hid (show w6.ownsRow w5.heap.size 30 3 v6 (l.length + 1) (Pk_.flat (l ++ [⟨p.to, p.fr, D⟩])) by rw [flat_snoc]; exact hown6); clear hown6 hgrow6; obtain ⟨g6, c6, rfl, hg6⟩ := own_form hown6x.out; have HG6 := Lib.hid hg6; clear hg6)
            | (refine step_append_any16 _ rfl (.tmp 55) (.tmp 57) 22 rfl w5.heap.size 30 i0 (.agg #[.int .u64 0, .int .u64 0, .string ⟨#[]⟩]) 3 32 Try.underlying22 hi hz0 hz1 hz2 rfl (by decide) _ l.length (Pk_.flat l) (by simp [Act.eval]) (hown3x.out.alloc (.cells #[.int .u64 p.to, .int .u64 p.fr, .string D] 30)) (some ⟨w3.heap.size, 0, none⟩) 1 1 [.int .u64 p.to, .int .u64 p.fr, .string D] (by simp [Act.eval]) rfl (fun e => by cases e) (fun ad e => by injection e with e; subst e; exact World.news_of_block L3c.out) (flat_one ⟨p.to, p.fr, D⟩) HML1.out HMB1.out (Nat.le_trans O35.out (by simp)) ?_; intro v6 w6 hown6 hgrow6; clear hi hz0 hz1 hz2; have O6 := Lib.hid (Oc.grown (w := W) (g := W.heap.size) (p := ⟨p.to, p.fr, D⟩) (O3x.out.alloc (.cells #[.int .u64 p.to, .int .u64 p.fr, .string D] 30)) hgrow6 (fun j e => by have h1 := ((hown3x.out.alloc (.cells #[.int .u64 p.to, .int .u64 p.fr, .string D] 30))).lt j e; have h2 := O5.out.box.lt; omega)); have hown6x := Lib.hid (show w6.ownsRow w5.heap.size 30 3 v6 (l.length + 1) (Pk_.flat (l ++ [⟨p.to, p.fr, D⟩])) by rw [flat_snoc]; exact hown6); clear hown6 hgrow6; obtain ⟨g6, c6, rfl, hg6⟩ := own_form hown6x.out; have HG6 := Lib.hid hg6; clear hg6)
          refine hK.out _ _ ?_ (fun hHeld => ?_)
          · first | exact O6.out.lim | exact O3x.out.lim | exact (O3x.out.alloc _).lim | exact O5.out.drew.lim | exact (O5.out.alloc _).drew.lim | exact ((O5.out.alloc _).alloc _).drew.lim
          clear hK K
          try simp only [Act.put, List.setIfInBounds_toArray, List.set_cons_zero, List.set_cons_succ]
          refine wpAnyH_take (i := 6) (oi := { dst := some 8, op := Op.assign (Operand.tmp 58), type := 22, pos := "law.go:99", after := #[{ on := 5, ground := Ground.data }, { on := 5, ground := Ground.chain }, { on := 0, ground := Ground.phase }, { on := 1, ground := Ground.phase }, { on := 2, ground := Ground.phase }, { on := 3, ground := Ground.phase }, { on := 4, ground := Ground.phase }, { on := 5, ground := Ground.phase }], guard := none }) (v := ?v4) rfl (by kernel_rfl) (by kernel_rfl) (by kernel_rfl) (fun _ _ _ h => h) (Or.inl ⟨by rfl, ?y4⟩) hHeld ?r4
          case y4 => (intro w hSw; (try dsimp only at hSw); go_simp; try with_reducible rfl)
          try simp only [Act.put, List.setIfInBounds_toArray, List.set_cons_zero, List.set_cons_succ]
          refine wpAnyH_done (by kernel_rfl) ?_ _
          go_wp2_with (first
            | (go_at_call 12; with_reducible refine (E2.out _ _ _ _ hown8.out).mono ?_; rintro e w9 ⟨rfl, hb⟩; have B9 := Lib.hid (B8.out.trans (hb.mono B8.out.size)); clear hb)
            | (go_at_call 12; refine (E1.out _ _ _ _ hown6x.out).mono ?_; rintro e w7 ⟨rfl, hb⟩; have O7 := Lib.hid (O6.out.keep hb); have hown7 := owns_below16 hown6x.out hb; clear hb; have d7 : w7.cell? ⟨W.heap.size, 2, none⟩ = some (.string D) := O7.out.box.cells.2.2; have lc1 : w7.cell? ⟨g6, l.length * 3 + 2, none⟩ = some (.string D) := (last_cell hown7).1; have lc2 := (last_cell hown7).2; have hown8 := Lib.hid (show (w7.setCell ⟨g6, l.length * 3 + 2, none⟩ (.string D2)).ownsRow w5.heap.size 30 3 (.slice (some ⟨g6, 0, none⟩) (l.length + 1) c6) (l.length + 1) (Pk_.flat (l ++ [⟨p.to, p.fr, D2⟩])) by have hx := (hown7.stored (l.length * 3 + 2) (.string D2)).1; rwa [flat_last] at hx); have B8 := Lib.hid (O7.out.bel.setCell (p := ⟨g6, l.length * 3 + 2, none⟩) (Nat.le_trans (Nat.le_of_lt O5.out.box.lt) HG6.out) (.string D2)); clear hown7)
            | (go_at_call 9; refine (AW.out _).mono ?_; rintro e w10 ⟨rfl, hb⟩; have B10 := Lib.hid (B9.out.trans (hb.mono B9.out.size)); clear hb))
          go_returns
          exact ⟨rfl, B10.out⟩
        exact AllReadyH.nil
      exact AllReadyH.nil
    exact AllReadyH.nil
  refine AllReadyH.cons (o := { dst := some 57, op := Op.buildSlice 22 1 #[(0, Operand.tmp 56)], type := 22, pos := "law.go:99", after := #[{ on := 3, ground := Ground.data }], guard := none }) rfl (fun K hK => ?_) ?_
  · clear hHeld
    go_simp
    refine hK.out _ _ ?_ (fun hHeld => ?_)
    · first | exact O6.out.lim | exact O3x.out.lim | exact (O3x.out.alloc _).lim | exact O5.out.drew.lim | exact (O5.out.alloc _).drew.lim | exact ((O5.out.alloc _).alloc _).drew.lim
    clear hK K
    try simp only [Act.put, List.setIfInBounds_toArray, List.set_cons_zero, List.set_cons_succ]
    refine wpAnyH_ready (rs := [0]) (by kernel_rfl) (by simp) ?_
    refine AllReadyH.cons (o := { dst := some 53, op := Op.buildSlice 22 0 #[], type := 22, pos := "law.go:99", after := #[], guard := none }) rfl (fun K hK => ?_) ?_
    · clear hHeld
      go_simp
      refine hK.out _ _ ?_ (fun hHeld => ?_)
      · first | exact O6.out.lim | exact O3x.out.lim | exact (O3x.out.alloc _).lim | exact O5.out.drew.lim | exact (O5.out.alloc _).drew.lim | exact ((O5.out.alloc _).alloc _).drew.lim
      clear hK K
      try simp only [Act.put, List.setIfInBounds_toArray, List.set_cons_zero, List.set_cons_succ]
      refine wpAnyH_ready (rs := [2]) (by kernel_rfl) (by simp) ?_
      refine AllReadyH.cons (o := { dst := some 55, op := Op.call { callee := Callee.builtin Builtin.append, args := #[Operand.tmp 53, Operand.tmp 54], argTypes := #[22, 22] }, type := 22, pos := "law.go:99", after := #[{ on := 0, ground := Ground.data }, { on := 1, ground := Ground.data }], guard := none }) rfl (fun K hK => ?_) ?_
      · clear hHeld
        obtain ⟨i0, hi, hz0, hz1, hz2⟩ := HI.out
        first
          | (refine step_append_any16 _ rfl (.tmp 53) (.tmp 54) 22 rfl w5.heap.size 30 i0 (.agg #[.int .u64 0, .int .u64 0, .string ⟨#[]⟩]) 3 32 Try.underlying22 hi hz0 hz1 hz2 rfl (by decide) _ 0 [] (by simp [Act.eval]) oA.out sa l.length c (Pk_.flat l) (by simp [Act.eval]) (flat_len l) HNN.out sA.out.news (flat_ones l) HML.out HMB.out (by simp <;> omega) ?_; intro v3 w3 hown3 hgrow; clear hi hz0 hz1 hz2; have hown3x := Lib.hid (show w3.ownsRow w5.heap.size 30 3 v3 l.length (Pk_.flat l) by simpa using hown3); have O3x := Lib.hid (Oc.grown (w := W) (g := W.heap.size) (p := ⟨p.to, p.fr, D⟩) (((O5.out.alloc (.cells #[.int .u64 p.to, .int .u64 p.fr, .string D] 30)).alloc (.cells #[] 30)).drew) hgrow (fun j e => by have h1 := oA.out.lt j e; have h2 := O5.out.box.lt; omega)); have L3 := Lib.hid (show Box w3 w5.heap.size ⟨p.to, p.fr, D⟩ from (hgrow.block w5.heap.size lA.out.lt (fun e => absurd (Option.some.inj (show some w5.heap.size = some (w5.heap.size + 1) from e)) (by omega))).trans lA.out); have O35 := Lib.hid (show w5.heap.size ≤ w3.heap.size from Nat.le_trans (by simp; try omega) hgrow.size); clear hown3 hgrow; obtain ⟨v3a, c3, rfl⟩ := slice_form hown3x.out)
          | (refine step_append_any16 _ rfl (.tmp 53) (.tmp 54) 22 rfl w5.heap.size 30 i0 (.agg #[.int .u64 0, .int .u64 0, .string ⟨#[]⟩]) 3 32 Try.underlying22 hi hz0 hz1 hz2 rfl (by decide) _ 0 [] (by simp [Act.eval]) oB.out sa l.length c (Pk_.flat l) (by simp [Act.eval]) (flat_len l) HNN.out sB.out.news (flat_ones l) HML.out HMB.out (by simp <;> omega) ?_; intro v3 w3 hown3 hgrow; clear hi hz0 hz1 hz2; have hown3x := Lib.hid (show w3.ownsRow w5.heap.size 30 3 v3 l.length (Pk_.flat l) by simpa using hown3); have O3x := Lib.hid (Oc.grown (w := W) (g := W.heap.size) (p := ⟨p.to, p.fr, D⟩) (((O5.out.alloc (.cells #[] 30)).alloc (.cells #[.int .u64 p.to, .int .u64 p.fr, .string D] 30)).drew) hgrow (fun j e => by have h1 := oB.out.lt j e; have h2 := O5.out.box.lt; omega)); have L3 := Lib.hid (show Box w3 (w5.heap.size + 1) ⟨p.to, p.fr, D⟩ from (hgrow.block (w5.heap.size + 1) lB.out.lt (fun e => absurd (Option.some.inj (show some (w5.heap.size + 1) = some w5.heap.size from e)) (by omega))).trans lB.out); have O35 := Lib.hid (show w5.heap.size ≤ w3.heap.size from Nat.le_trans (by simp; try omega) hgrow.size); clear hown3 hgrow; obtain ⟨v3a, c3, rfl⟩ := slice_form hown3x.out)
          | (refine step_append_any16 _ rfl (.tmp 53) (.tmp 54) 22 rfl w5.heap.size 30 i0 (.agg #[.int .u64 0, .int .u64 0, .string ⟨#[]⟩]) 3 32 Try.underlying22 hi hz0 hz1 hz2 rfl (by decide) _ 0 [] (by simp [Act.eval]) oC.out sa l.length c (Pk_.flat l) (by simp [Act.eval]) (flat_len l) HNN.out sC.out.news (flat_ones l) HML.out HMB.out (by simp <;> omega) ?_; intro v3 w3 hown3 hgrow; clear hi hz0 hz1 hz2; have hown3x := Lib.hid (show w3.ownsRow w5.heap.size 30 3 v3 l.length (Pk_.flat l) by simpa using hown3); have O3x := Lib.hid (Oc.grown (w := W) (g := W.heap.size) (p := ⟨p.to, p.fr, D⟩) ((O5.out.alloc (.cells #[] 30)).drew) hgrow (fun j e => by have h1 := oC.out.lt j e; have h2 := O5.out.box.lt; omega)); have L3c := Lib.hid (show Box (w3.alloc (.cells #[.int .u64 p.to, .int .u64 p.fr, .string D] 30)) w3.heap.size ⟨p.to, p.fr, D⟩ from Box.new w3 ⟨p.to, p.fr, D⟩ rfl); have O35 := Lib.hid (show w5.heap.size ≤ w3.heap.size from Nat.le_trans (by simp; try omega) hgrow.size); clear hown3 hgrow; obtain ⟨v3a, c3, rfl⟩ := slice_form hown3x.out)
        refine hK.out _ _ ?_ (fun hHeld => ?_)
        · first | exact O6.out.lim | exact O3x.out.lim | exact (O3x.out.alloc _).lim | exact O5.out.drew.lim | exact (O5.out.alloc _).drew.lim | exact ((O5.out.alloc _).alloc _).drew.lim
        clear hK K
        try simp only [Act.put, List.setIfInBounds_toArray, List.set_cons_zero, List.set_cons_succ]
        refine wpAnyH_ready (rs := [5]) (by kernel_rfl) (by simp) ?_
        refine AllReadyH.cons (o := { dst := some 58, op := Op.call { callee := Callee.builtin Builtin.append, args := #[Operand.tmp 55, Operand.tmp 57], argTypes := #[22, 22] }, type := 22, pos := "law.go:99", after := #[{ on := 2, ground := Ground.data }, { on := 4, ground := Ground.data }, { on := 2, ground := Ground.chain }], guard := none }) rfl (fun K hK => ?_) ?_
        · clear hHeld
          obtain ⟨i0, hi, hz0, hz1, hz2⟩ := HI.out
          first
            | (refine step_append_any16 _ rfl (.tmp 55) (.tmp 57) 22 rfl w5.heap.size 30 i0 (.agg #[.int .u64 0, .int .u64 0, .string ⟨#[]⟩]) 3 32 Try.underlying22 hi hz0 hz1 hz2 rfl (by decide) _ l.length (Pk_.flat l) (by simp [Act.eval]) hown3x.out (some ⟨w5.heap.size, 0, none⟩) 1 1 [.int .u64 p.to, .int .u64 p.fr, .string D] (by simp [Act.eval]) rfl (fun e => by cases e) (fun ad e => by injection e with e; subst e; exact World.news_of_block L3.out) (flat_one ⟨p.to, p.fr, D⟩) HML1.out HMB1.out (Nat.le_trans O35.out (Nat.le_refl _)) ?_; intro v6 w6 hown6 hgrow6; clear hi hz0 hz1 hz2; have O6 := Lib.hid (Oc.grown (w := W) (g := W.heap.size) (p := ⟨p.to, p.fr, D⟩) (O3x.out) hgrow6 (fun j e => by have h1 := (hown3x.out).lt j e; have h2 := O5.out.box.lt; omega)); have hown6x := Lib.hid (show w6.ownsRow w5.heap.size 30 3 v6 (l.length + 1) (Pk_.flat (l ++ [⟨p.to, p.fr, D⟩])) by rw [flat_snoc]; exact hown6); clear hown6 hgrow6; obtain ⟨g6, c6, rfl, hg6⟩ := own_form hown6x.out; have HG6 := Lib.hid hg6; clear hg6)
            | (refine step_append_any16 _ rfl (.tmp 55) (.tmp 57) 22 rfl w5.heap.size 30 i0 (.agg #[.int .u64 0, .int .u64 0, .string ⟨#[]⟩]) 3 32 Try.underlying22 hi hz0 hz1 hz2 rfl (by decide) _ l.length (Pk_.flat l) (by simp [Act.eval]) hown3x.out (some ⟨(w5.heap.size + 1), 0, none⟩) 1 1 [.int .u64 p.to, .int .u64 p.fr, .string D] (by simp [Act.eval]) rfl (fun e => by cases e) (fun ad e => by injection e with e; subst e; exact World.news_of_block L3.out) (flat_one ⟨p.to, p.fr, D⟩) HML1.out HMB1.out (Nat.le_trans O35.out (Nat.le_refl _)) ?_; intro v6 w6 hown6 hgrow6; clear hi hz0 hz1 hz2; have O6 := Lib.hid (Oc.grown (w := W) (g := W.heap.size) (p := ⟨p.to, p.fr, D⟩) (O3x.out) hgrow6 (fun j e => by have h1 := (hown3x.out).lt j e; have h2 := O5.out.box.lt; omega)); have hown6x := Lib.hid (show w6.ownsRow w5.heap.size 30 3 v6 (l.length + 1) (Pk_.flat (l ++ [⟨p.to, p.fr, D⟩])) by rw [flat_snoc]; exact hown6); clear hown6 hgrow6; obtain ⟨g6, c6, rfl, hg6⟩ := own_form hown6x.out; have HG6 := Lib.hid hg6; clear hg6)
            | (refine step_append_any16 _ rfl (.tmp 55) (.tmp 57) 22 rfl w5.heap.size 30 i0 (.agg #[.int .u64 0, .int .u64 0, .string ⟨#[]⟩]) 3 32 Try.underlying22 hi hz0 hz1 hz2 rfl (by decide) _ l.length (Pk_.flat l) (by simp [Act.eval]) (hown3x.out.alloc (.cells #[.int .u64 p.to, .int .u64 p.fr, .string D] 30)) (some ⟨w3.heap.size, 0, none⟩) 1 1 [.int .u64 p.to, .int .u64 p.fr, .string D] (by simp [Act.eval]) rfl (fun e => by cases e) (fun ad e => by injection e with e; subst e; exact World.news_of_block L3c.out) (flat_one ⟨p.to, p.fr, D⟩) HML1.out HMB1.out (Nat.le_trans O35.out (by simp)) ?_; intro v6 w6 hown6 hgrow6; clear hi hz0 hz1 hz2; have O6 := Lib.hid (Oc.grown (w := W) (g := W.heap.size) (p := ⟨p.to, p.fr, D⟩) (O3x.out.alloc (.cells #[.int .u64 p.to, .int .u64 p.fr, .string D] 30)) hgrow6 (fun j e => by have h1 := ((hown3x.out.alloc (.cells #[.int .u64 p.to, .int .u64 p.fr, .string D] 30))).lt j e; have h2 := O5.out.box.lt; omega)); have hown6x := Lib.hid (show w6.ownsRow w5.heap.size 30 3 v6 (l.length + 1) (Pk_.flat (l ++ [⟨p.to, p.fr, D⟩])) by rw [flat_snoc]; exact hown6); clear hown6 hgrow6; obtain ⟨g6, c6, rfl, hg6⟩ := own_form hown6x.out; have HG6 := Lib.hid hg6; clear hg6)
          refine hK.out _ _ ?_ (fun hHeld => ?_)
          · first | exact O6.out.lim | exact O3x.out.lim | exact (O3x.out.alloc _).lim | exact O5.out.drew.lim | exact (O5.out.alloc _).drew.lim | exact ((O5.out.alloc _).alloc _).drew.lim
          clear hK K
          try simp only [Act.put, List.setIfInBounds_toArray, List.set_cons_zero, List.set_cons_succ]
          refine wpAnyH_take (i := 6) (oi := { dst := some 8, op := Op.assign (Operand.tmp 58), type := 22, pos := "law.go:99", after := #[{ on := 5, ground := Ground.data }, { on := 5, ground := Ground.chain }, { on := 0, ground := Ground.phase }, { on := 1, ground := Ground.phase }, { on := 2, ground := Ground.phase }, { on := 3, ground := Ground.phase }, { on := 4, ground := Ground.phase }, { on := 5, ground := Ground.phase }], guard := none }) (v := ?v5) rfl (by kernel_rfl) (by kernel_rfl) (by kernel_rfl) (fun _ _ _ h => h) (Or.inl ⟨by rfl, ?y5⟩) hHeld ?r5
          case y5 => (intro w hSw; (try dsimp only at hSw); go_simp; try with_reducible rfl)
          try simp only [Act.put, List.setIfInBounds_toArray, List.set_cons_zero, List.set_cons_succ]
          refine wpAnyH_done (by kernel_rfl) ?_ _
          go_wp2_with (first
            | (go_at_call 12; with_reducible refine (E2.out _ _ _ _ hown8.out).mono ?_; rintro e w9 ⟨rfl, hb⟩; have B9 := Lib.hid (B8.out.trans (hb.mono B8.out.size)); clear hb)
            | (go_at_call 12; refine (E1.out _ _ _ _ hown6x.out).mono ?_; rintro e w7 ⟨rfl, hb⟩; have O7 := Lib.hid (O6.out.keep hb); have hown7 := owns_below16 hown6x.out hb; clear hb; have d7 : w7.cell? ⟨W.heap.size, 2, none⟩ = some (.string D) := O7.out.box.cells.2.2; have lc1 : w7.cell? ⟨g6, l.length * 3 + 2, none⟩ = some (.string D) := (last_cell hown7).1; have lc2 := (last_cell hown7).2; have hown8 := Lib.hid (show (w7.setCell ⟨g6, l.length * 3 + 2, none⟩ (.string D2)).ownsRow w5.heap.size 30 3 (.slice (some ⟨g6, 0, none⟩) (l.length + 1) c6) (l.length + 1) (Pk_.flat (l ++ [⟨p.to, p.fr, D2⟩])) by have hx := (hown7.stored (l.length * 3 + 2) (.string D2)).1; rwa [flat_last] at hx); have B8 := Lib.hid (O7.out.bel.setCell (p := ⟨g6, l.length * 3 + 2, none⟩) (Nat.le_trans (Nat.le_of_lt O5.out.box.lt) HG6.out) (.string D2)); clear hown7)
            | (go_at_call 9; refine (AW.out _).mono ?_; rintro e w10 ⟨rfl, hb⟩; have B10 := Lib.hid (B9.out.trans (hb.mono B9.out.size)); clear hb))
          go_returns
          exact ⟨rfl, B10.out⟩
        exact AllReadyH.nil
      exact AllReadyH.nil
    exact AllReadyH.nil
  exact AllReadyH.nil
set_option maxRecDepth 100000 in
set_option maxHeartbeats 8000000 in
theorem fits_b (l : List Pk) (sa : Option Addr) (c : Nat) (W : World) (h : Sl W sa l c) (hl : l.length ≤ maxLen) (hw : ∀ p ∈ l, PkW p) (p : Pk) (hp : PkW p) (hf : fewB l = true) (h9 : l.length ≤ 9) (hpos : 0 < l.length) (h0 : encE l = 0) (hk : 0 ≤ rm (ln 0 l) 2048) :
    Calls Try.prog 7 #[.slice sa l.length c, .agg #[.int .u64 p.to, .int .u64 p.fr, .string p.s]] W fun e w' => e = .returned (.bool true) ∧ Below W.heap.size W w' := by
  have AW := Lib.hid lives16_any
  obtain ⟨w1, hw1⟩ : ∃ w1, W.alloc (.cells #[.int .u64 p.to, .int .u64 p.fr, .string p.s] 30) = w1 := ⟨_, rfl⟩
  have O1 := Lib.hid (show Oc W W.heap.size p w1 by subst hw1; exact ⟨Box.new W p rfl, (Below.refl _ _).alloc (Nat.le_refl _) _⟩)
  have HS := Lib.hid (fun wi (hb : Below W.heap.size W wi) => h.below hb)
  have SM := Lib.hid (few16_any l sa c w1 (HS.out _ O1.out.bel).lies hl)
  obtain ⟨hz, h10⟩ := few_sz hf hw
  rw [hf] at SM
  have CE := Lib.hid (buEncode_any l sa c w1 (HS.out _ O1.out.bel).lies hz)
  obtain ⟨hn1, hn2⟩ := size_list (l := l) (.inr h0)
  have CR := Lib.hid fun w => buRoom_any (ln 0 l) 2048 w (wf_small hn2)
  have hsz : ((encS l).size : Int) = (ln 0 l : Nat) := by omega
  have hr := rm_le (ln 0 l) 2048
  obtain ⟨m, hm⟩ : ∃ m : Nat, max (rm (ln 0 l) 2048) 0 = (m : Int) := ⟨(max (rm (ln 0 l) 2048) 0).toNat, by omega⟩
  have hm1 : m ≤ 1024 := by omega
  have hDs : (yz (zs m)).size = m := by rw [yz_size, zs_len]
  have hDs2 : (yz (zs m ++ [120])).size = m + 1 := by rw [yz_size, List.length_append, zs_len]; rfl
  have MZ := Lib.hid fun w => mk_zeros w m hm1
  have ax := add_x m hm1
  have hz1 : sz (l ++ [⟨p.to, p.fr, yz (zs m)⟩]) := ⟨by simp; omega, fun x hx => by
    rcases List.mem_append.1 hx with hx | hx
    · exact hz.2 x hx
    · simp at hx; subst hx; exact ⟨by show (yz (zs m)).size ≤ 3000; omega, hp⟩⟩
  have hz2 : sz (l ++ [⟨p.to, p.fr, yz (zs m ++ [120])⟩]) := ⟨by simp; omega, fun x hx => by
    rcases List.mem_append.1 hx with hx | hx
    · exact hz.2 x hx
    · simp at hx; subst hx; exact ⟨by show (yz (zs m ++ [120])).size ≤ 3000; omega, hp⟩⟩
  have E1 := Lib.hid (enc_last ⟨p.to, p.fr, yz (zs m)⟩ hz1)
  have E2 := Lib.hid (enc_last ⟨p.to, p.fr, yz (zs m ++ [120])⟩ hz2)
  have CC : Hid (∀ w, Calls Try.prog 10 #[.agg #[.int .u64 p.to, .int .u64 p.fr, .string (yz (zs m))]] w fun e w' => e = .returned (.int .i64 (chk ⟨p.to, p.fr, yz (zs m)⟩)) ∧ Below w.heap.size w w') := fun w => buCheck_any ⟨p.to, p.fr, yz (zs m)⟩ w hp
  have FIT := Lib.hid (fun hq => rm_fit (l := l) (.inr h0) ⟨p.to, p.fr, yz (zs m)⟩ hq (by show ((yz (zs m)).size : Int) = _; rw [hDs, hm]))
  have FQ : Hid (chk ⟨p.to, p.fr, yz (zs m)⟩ = 0 → encE (l ++ [⟨p.to, p.fr, yz (zs m)⟩]) = 0 ∧ encE (l ++ [⟨p.to, p.fr, yz (zs m ++ [120])⟩]) = 2) := fun hq => by
    obtain ⟨a1, a2⟩ := (FIT.out hq).2 hk
    exact ⟨a1, a2 ⟨p.to, p.fr, yz (zs m ++ [120])⟩ (chk_ok.1 hq).1 (by show (yz (zs m ++ [120])).size = (yz (zs m)).size + 1; omega)⟩
  have h9' : decide ((9 : Int) < (l.length : Int)) = false := decide_eq_false (by omega)
  have hg1 : decide ((0 : Int) < (l.length : Int)) = true := decide_eq_true (by omega)
  have hg2 : decide (0 < l.length) = true := decide_eq_true (by omega)
  have hk1 : ¬ (1024 : Int) < rm (ln 0 l) 2048 := by omega
  unfold EncPost at CE
  rw [h0] at CE
  generalize yz (zs m) = D at *
  generalize yz (zs m ++ [120]) = D2 at *
  generalize encS (l ++ [⟨p.to, p.fr, D⟩]) = s1 at *
  generalize encE (l ++ [⟨p.to, p.fr, D⟩]) = f1 at *
  generalize encS (l ++ [⟨p.to, p.fr, D2⟩]) = s2 at *
  generalize encE (l ++ [⟨p.to, p.fr, D2⟩]) = f2 at *
  generalize rm (ln 0 l) 2048 = k at *
  generalize chk ⟨p.to, p.fr, D⟩ = r at *
  generalize encS l = t at *
  generalize ln 0 l = n at *
  have HM := Lib.hid hm1
  have HL9 := Lib.hid h9
  have HW1 := Lib.hid hw1
  clear FIT hz1 hz2 hDs hDs2 hn1 hn2 hr hz h10 hf hw hl hp h h0 h9
  by_cases hr0 : r = 0
  case neg =>
    have hr1 : (r != 0) = true := by rw [bne_iff_ne]; exact hr0
    have hk2 : decide (k ≤ 1024) = true := decide_eq_true (by omega)
    clear FQ E1 E2 hr0
    go_enter Try.func7, Try.ntmps7
    go_wp2_with (first
      | (go_at_call 8; refine SM.out.mono ?_; rintro e w' ⟨rfl, rfl⟩)
      | (go_at_call 12; refine CE.out.mono ?_; rintro e w2 ⟨rfl, hb⟩; have O2 := Lib.hid (O1.out.keep hb); clear hb; obtain ⟨wm, hmk, hcv, hgr⟩ := MZ.out w2; have Om := Lib.hid (O2.out.grown hgr (fun j e => by cases e)); have d2 := Om.out.box.cells; have fz := Om.out.box.frozen 2; have O3 := Lib.hid (show Oc W W.heap.size ⟨p.to, p.fr, D⟩ (wm.setCell ⟨W.heap.size, 2, none⟩ (.string D)) from ⟨Pq_.Box.set2 (x := p) Om.out.box D, Om.out.bel.setCell (p := ⟨W.heap.size, 2, none⟩) (Nat.le_refl _) _⟩); clear hgr; have l3 := O3.out.box.cells; have l4 := O3.out.box.load)
      | (go_at_call 17; refine (CR.out _).mono ?_; rintro e w' ⟨rfl, rfl⟩)
      | (go_at_call 10; refine (CC.out _).mono ?_; rintro e w5 ⟨rfl, hb⟩; have O5 := Lib.hid (O3.out.keep hb); clear hb)
      | (go_at_call 9; refine (AW.out _).mono ?_; rintro e w6 ⟨rfl, hb⟩; have B6 := Lib.hid (O5.out.bel.trans (hb.mono O5.out.bel.size)); clear hb))
    go_returns
    exact ⟨rfl, B6.out⟩
  obtain ⟨hf1, hf2⟩ := FQ.out hr0
  subst hr0
  subst hf1
  subst hf2
  have hkn : decide (k < 0) = false := decide_eq_false (by omega)
  have HI := Lib.hid (info_parts info)
  have HNN : Hid (sa = none → l.length = 0 ∧ c = 0) := fun e => by
    have h1 := (HS.out W (Below.refl _ _)).nil e
    have h2 := (HS.out W (Below.refl _ _)).le
    omega
  have HML : Hid (0 + l.length ≤ maxLen) := by show 0 + l.length ≤ maxLen; have := HL9.out; unfold maxLen; omega
  have HMB : Hid ((0 + l.length) * 32 ≤ 140737488355328) := by show (0 + l.length) * 32 ≤ 140737488355328; have := HL9.out; omega
  have HML1 : Hid (l.length + 1 ≤ maxLen) := by show l.length + 1 ≤ maxLen; have := HL9.out; unfold maxLen; omega
  have HMB1 : Hid ((l.length + 1) * 32 ≤ 140737488355328) := by show (l.length + 1) * 32 ≤ 140737488355328; have := HL9.out; omega
  clear FQ
  go_enter Try.func7, Try.ntmps7
  go_wp2_with (first
    | (go_at_call 8; refine SM.out.mono ?_; rintro e w' ⟨rfl, rfl⟩)
    | (go_at_call 12; refine CE.out.mono ?_; rintro e w2 ⟨rfl, hb⟩; have O2 := Lib.hid (O1.out.keep hb); clear hb; obtain ⟨wm, hmk, hcv, hgr⟩ := MZ.out w2; have Om := Lib.hid (O2.out.grown hgr (fun j e => by cases e)); have d2 := Om.out.box.cells; have fz := Om.out.box.frozen 2; have O3 := Lib.hid (show Oc W W.heap.size ⟨p.to, p.fr, D⟩ (wm.setCell ⟨W.heap.size, 2, none⟩ (.string D)) from ⟨Pq_.Box.set2 (x := p) Om.out.box D, Om.out.bel.setCell (p := ⟨W.heap.size, 2, none⟩) (Nat.le_refl _) _⟩); clear hgr; have l3 := O3.out.box.cells; have l4 := O3.out.box.load)
    | (go_at_call 17; refine (CR.out _).mono ?_; rintro e w' ⟨rfl, rfl⟩)
    | (go_at_call 10; refine (CC.out _).mono ?_; rintro e w5 ⟨rfl, hb⟩; have O5 := Lib.hid (O3.out.keep hb); clear hb))
  clear l3 l4 d2 fz hmk hcv
  have oC := Lib.hid (show (w5.alloc (.cells #[] 30)).drew.ownsRow w5.heap.size 30 3 (.slice (some ⟨w5.heap.size, 0, none⟩) 0 0) 0 [] from World.ownsRow_made w5 #[] 0 (Nat.le_refl _) (Nat.zero_le _) rfl)
  have oB := Lib.hid (show ((w5.alloc (.cells #[] 30)).alloc (.cells #[.int .u64 p.to, .int .u64 p.fr, .string D] 30)).drew.ownsRow w5.heap.size 30 3 (.slice (some ⟨w5.heap.size, 0, none⟩) 0 0) 0 [] from (World.ownsRow_made w5 #[] 0 (Nat.le_refl _) (Nat.zero_le _) rfl).alloc _)
  have oA := Lib.hid (show ((w5.alloc (.cells #[.int .u64 p.to, .int .u64 p.fr, .string D] 30)).alloc (.cells #[] 30)).drew.ownsRow w5.heap.size 30 3 (.slice (some ⟨w5.heap.size + 1, 0, none⟩) 0 0) 0 [] by
    have hs : (w5.alloc (.cells #[.int .u64 p.to, .int .u64 p.fr, .string D] 30)).heap.size = w5.heap.size + 1 := by simp
    have hx := World.ownsRow_made (base := w5.heap.size) (e := 30) (size := 3) (w5.alloc (.cells #[.int .u64 p.to, .int .u64 p.fr, .string D] 30)) #[] 0 (by omega) (Nat.zero_le _) rfl
    rw [hs] at hx
    exact hx)
  have lA := Lib.hid (show Box ((w5.alloc (.cells #[.int .u64 p.to, .int .u64 p.fr, .string D] 30)).alloc (.cells #[] 30)).drew w5.heap.size ⟨p.to, p.fr, D⟩ by
    have h1 : Box (w5.alloc (.cells #[.int .u64 p.to, .int .u64 p.fr, .string D] 30)) w5.heap.size ⟨p.to, p.fr, D⟩ := Box.new w5 ⟨p.to, p.fr, D⟩ rfl
    exact (h1.below ((Below.refl (w5.alloc (.cells #[.int .u64 p.to, .int .u64 p.fr, .string D] 30)).heap.size (w5.alloc (.cells #[.int .u64 p.to, .int .u64 p.fr, .string D] 30))).alloc (Nat.le_refl _) (.cells #[] 30)) h1.lt).drew)
  have lB := Lib.hid (show Box ((w5.alloc (.cells #[] 30)).alloc (.cells #[.int .u64 p.to, .int .u64 p.fr, .string D] 30)).drew (w5.heap.size + 1) ⟨p.to, p.fr, D⟩ from (Box.new (w5.alloc (.cells #[] 30)) ⟨p.to, p.fr, D⟩ (by simp)))
  have sA := Lib.hid (HS.out _ ((O5.out.alloc (.cells #[.int .u64 p.to, .int .u64 p.fr, .string D] 30)).alloc (.cells #[] 30)).drew.bel)
  have sB := Lib.hid (HS.out _ ((O5.out.alloc (.cells #[] 30)).alloc (.cells #[.int .u64 p.to, .int .u64 p.fr, .string D] 30)).drew.bel)
  have sC := Lib.hid (HS.out _ (O5.out.alloc (.cells #[] 30)).drew.bel)
  refine wp_region_held_drew (S := (fun w' => w'.cell? ⟨W.heap.size, 0, none⟩ = some (.int .u64 p.to) ∧ w'.cell? ⟨W.heap.size, 1, none⟩ = some (.int .u64 p.fr) ∧ w'.cell? ⟨W.heap.size, 2, none⟩ = some (.string D) ∧ Oc W W.heap.size ⟨p.to, p.fr, D⟩ w')) (by kernel_rfl) ?_ (fun hHeld => ?_)
  · exact O5.out.drew.lim
  refine wpAnyH_take (i := 1) (oi := { dst := some 54, op := Op.move (Operand.tmp 0), type := 22, pos := "law.go:99", after := #[], guard := none }) (v := ?v1) rfl (by kernel_rfl) (by kernel_rfl) (by kernel_rfl) (fun _ _ _ h => h) (Or.inl ⟨by rfl, ?y1⟩) hHeld ?r1
  case y1 => (intro w hSw; (try dsimp only at hSw); go_simp; try with_reducible rfl)
  try simp only [Act.put, List.setIfInBounds_toArray, List.set_cons_zero, List.set_cons_succ]
  refine wpAnyH_take (i := 3) (oi := { dst := some 56, op := Op.load 30 (Operand.tmp 3), type := 30, pos := "law.go:99", after := #[], guard := none }) (v := ?v2) rfl (by kernel_rfl) (by kernel_rfl) (by kernel_rfl) (fun _ _ _ h => h) (Or.inl ⟨by rfl, ?y2⟩) hHeld ?r2
  case y2 => (intro w hSw; (try dsimp only at hSw); go_simp; try with_reducible rfl)
  try simp only [Act.put, List.setIfInBounds_toArray, List.set_cons_zero, List.set_cons_succ]
  refine wpAnyH_ready (rs := [0, 4]) (by kernel_rfl) (by simp) ?_
  refine AllReadyH.cons (o := { dst := some 53, op := Op.buildSlice 22 0 #[], type := 22, pos := "law.go:99", after := #[], guard := none }) rfl (fun K hK => ?_) ?_
  · clear hHeld
    go_simp
    refine hK.out _ _ ?_ (fun hHeld => ?_)
    · first | exact O6.out.lim | exact O3x.out.lim | exact (O3x.out.alloc _).lim | exact O5.out.drew.lim | exact (O5.out.alloc _).drew.lim | exact ((O5.out.alloc _).alloc _).drew.lim
    clear hK K
    try simp only [Act.put, List.setIfInBounds_toArray, List.set_cons_zero, List.set_cons_succ]
    refine wpAnyH_ready (rs := [2, 4]) (by kernel_rfl) (by simp) ?_
    refine AllReadyH.cons (o := { dst := some 55, op := Op.call { callee := Callee.builtin Builtin.append, args := #[Operand.tmp 53, Operand.tmp 54], argTypes := #[22, 22] }, type := 22, pos := "law.go:99", after := #[{ on := 0, ground := Ground.data }, { on := 1, ground := Ground.data }], guard := none }) rfl (fun K hK => ?_) ?_
    · clear hHeld
      obtain ⟨i0, hi, hz0, hz1, hz2⟩ := HI.out
      first
        | (refine step_append_any16 _ rfl (.tmp 53) (.tmp 54) 22 rfl w5.heap.size 30 i0 (.agg #[.int .u64 0, .int .u64 0, .string ⟨#[]⟩]) 3 32 Try.underlying22 hi hz0 hz1 hz2 rfl (by decide) _ 0 [] (by simp [Act.eval]) oA.out sa l.length c (Pk_.flat l) (by simp [Act.eval]) (flat_len l) HNN.out sA.out.news (flat_ones l) HML.out HMB.out (by simp <;> omega) ?_; intro v3 w3 hown3 hgrow; clear hi hz0 hz1 hz2; have hown3x := Lib.hid (show w3.ownsRow w5.heap.size 30 3 v3 l.length (Pk_.flat l) by simpa using hown3); have O3x := Lib.hid (Oc.grown (w := W) (g := W.heap.size) (p := ⟨p.to, p.fr, D⟩) (((O5.out.alloc (.cells #[.int .u64 p.to, .int .u64 p.fr, .string D] 30)).alloc (.cells #[] 30)).drew) hgrow (fun j e => by have h1 := oA.out.lt j e; have h2 := O5.out.box.lt; omega)); have L3 := Lib.hid (show Box w3 w5.heap.size ⟨p.to, p.fr, D⟩ from (hgrow.block w5.heap.size lA.out.lt (fun e => absurd (Option.some.inj (show some w5.heap.size = some (w5.heap.size + 1) from e)) (by omega))).trans lA.out); have O35 := Lib.hid (show w5.heap.size ≤ w3.heap.size from Nat.le_trans (by simp; try omega) hgrow.size); clear hown3 hgrow; obtain ⟨v3a, c3, rfl⟩ := slice_form hown3x.out)
        | (refine step_append_any16 _ rfl (.tmp 53) (.tmp 54) 22 rfl w5.heap.size 30 i0 (.agg #[.int .u64 0, .int .u64 0, .string ⟨#[]⟩]) 3 32 Try.underlying22 hi hz0 hz1 hz2 rfl (by decide) _ 0 [] (by simp [Act.eval]) oB.out sa l.length c (Pk_.flat l) (by simp [Act.eval]) (flat_len l) HNN.out sB.out.news (flat_ones l) HML.out HMB.out (by simp <;> omega) ?_; intro v3 w3 hown3 hgrow; clear hi hz0 hz1 hz2; have hown3x := Lib.hid (show w3.ownsRow w5.heap.size 30 3 v3 l.length (Pk_.flat l) by simpa using hown3); have O3x := Lib.hid (Oc.grown (w := W) (g := W.heap.size) (p := ⟨p.to, p.fr, D⟩) (((O5.out.alloc (.cells #[] 30)).alloc (.cells #[.int .u64 p.to, .int .u64 p.fr, .string D] 30)).drew) hgrow (fun j e => by have h1 := oB.out.lt j e; have h2 := O5.out.box.lt; omega)); have L3 := Lib.hid (show Box w3 (w5.heap.size + 1) ⟨p.to, p.fr, D⟩ from (hgrow.block (w5.heap.size + 1) lB.out.lt (fun e => absurd (Option.some.inj (show some (w5.heap.size + 1) = some w5.heap.size from e)) (by omega))).trans lB.out); have O35 := Lib.hid (show w5.heap.size ≤ w3.heap.size from Nat.le_trans (by simp; try omega) hgrow.size); clear hown3 hgrow; obtain ⟨v3a, c3, rfl⟩ := slice_form hown3x.out)
        | (refine step_append_any16 _ rfl (.tmp 53) (.tmp 54) 22 rfl w5.heap.size 30 i0 (.agg #[.int .u64 0, .int .u64 0, .string ⟨#[]⟩]) 3 32 Try.underlying22 hi hz0 hz1 hz2 rfl (by decide) _ 0 [] (by simp [Act.eval]) oC.out sa l.length c (Pk_.flat l) (by simp [Act.eval]) (flat_len l) HNN.out sC.out.news (flat_ones l) HML.out HMB.out (by simp <;> omega) ?_; intro v3 w3 hown3 hgrow; clear hi hz0 hz1 hz2; have hown3x := Lib.hid (show w3.ownsRow w5.heap.size 30 3 v3 l.length (Pk_.flat l) by simpa using hown3); have O3x := Lib.hid (Oc.grown (w := W) (g := W.heap.size) (p := ⟨p.to, p.fr, D⟩) ((O5.out.alloc (.cells #[] 30)).drew) hgrow (fun j e => by have h1 := oC.out.lt j e; have h2 := O5.out.box.lt; omega)); have L3c := Lib.hid (show Box (w3.alloc (.cells #[.int .u64 p.to, .int .u64 p.fr, .string D] 30)) w3.heap.size ⟨p.to, p.fr, D⟩ from Box.new w3 ⟨p.to, p.fr, D⟩ rfl); have O35 := Lib.hid (show w5.heap.size ≤ w3.heap.size from Nat.le_trans (by simp; try omega) hgrow.size); clear hown3 hgrow; obtain ⟨v3a, c3, rfl⟩ := slice_form hown3x.out)
      refine hK.out _ _ ?_ (fun hHeld => ?_)
      · first | exact O6.out.lim | exact O3x.out.lim | exact (O3x.out.alloc _).lim | exact O5.out.drew.lim | exact (O5.out.alloc _).drew.lim | exact ((O5.out.alloc _).alloc _).drew.lim
      clear hK K
      try simp only [Act.put, List.setIfInBounds_toArray, List.set_cons_zero, List.set_cons_succ]
      refine wpAnyH_ready (rs := [4]) (by kernel_rfl) (by simp) ?_
      refine AllReadyH.cons (o := { dst := some 57, op := Op.buildSlice 22 1 #[(0, Operand.tmp 56)], type := 22, pos := "law.go:99", after := #[{ on := 3, ground := Ground.data }], guard := none }) rfl (fun K hK => ?_) ?_
      · clear hHeld
        go_simp
        refine hK.out _ _ ?_ (fun hHeld => ?_)
        · first | exact O6.out.lim | exact O3x.out.lim | exact (O3x.out.alloc _).lim | exact O5.out.drew.lim | exact (O5.out.alloc _).drew.lim | exact ((O5.out.alloc _).alloc _).drew.lim
        clear hK K
        try simp only [Act.put, List.setIfInBounds_toArray, List.set_cons_zero, List.set_cons_succ]
        refine wpAnyH_ready (rs := [5]) (by kernel_rfl) (by simp) ?_
        refine AllReadyH.cons (o := { dst := some 58, op := Op.call { callee := Callee.builtin Builtin.append, args := #[Operand.tmp 55, Operand.tmp 57], argTypes := #[22, 22] }, type := 22, pos := "law.go:99", after := #[{ on := 2, ground := Ground.data }, { on := 4, ground := Ground.data }, { on := 2, ground := Ground.chain }], guard := none }) rfl (fun K hK => ?_) ?_
        · clear hHeld
          obtain ⟨i0, hi, hz0, hz1, hz2⟩ := HI.out
          first
            | (refine step_append_any16 _ rfl (.tmp 55) (.tmp 57) 22 rfl w5.heap.size 30 i0 (.agg #[.int .u64 0, .int .u64 0, .string ⟨#[]⟩]) 3 32 Try.underlying22 hi hz0 hz1 hz2 rfl (by decide) _ l.length (Pk_.flat l) (by simp [Act.eval]) hown3x.out (some ⟨w5.heap.size, 0, none⟩) 1 1 [.int .u64 p.to, .int .u64 p.fr, .string D] (by simp [Act.eval]) rfl (fun e => by cases e) (fun ad e => by injection e with e; subst e; exact World.news_of_block L3.out) (flat_one ⟨p.to, p.fr, D⟩) HML1.out HMB1.out (Nat.le_trans O35.out (Nat.le_refl _)) ?_; intro v6 w6 hown6 hgrow6; clear hi hz0 hz1 hz2; have O6 := Lib.hid (Oc.grown (w := W) (g := W.heap.size) (p := ⟨p.to, p.fr, D⟩) (O3x.out) hgrow6 (fun j e => by have h1 := (hown3x.out).lt j e; have h2 := O5.out.box.lt; omega)); have hown6x := Lib.hid (show w6.ownsRow w5.heap.size 30 3 v6 (l.length + 1) (Pk_.flat (l ++ [⟨p.to, p.fr, D⟩])) by rw [flat_snoc]; exact hown6); clear hown6 hgrow6; obtain ⟨g6, c6, rfl, hg6⟩ := own_form hown6x.out; have HG6 := Lib.hid hg6; clear hg6)
            | (refine step_append_any16 _ rfl (.tmp 55) (.tmp 57) 22 rfl w5.heap.size 30 i0 (.agg #[.int .u64 0, .int .u64 0, .string ⟨#[]⟩]) 3 32 Try.underlying22 hi hz0 hz1 hz2 rfl (by decide) _ l.length (Pk_.flat l) (by simp [Act.eval]) hown3x.out (some ⟨(w5.heap.size + 1), 0, none⟩) 1 1 [.int .u64 p.to, .int .u64 p.fr, .string D] (by simp [Act.eval]) rfl (fun e => by cases e) (fun ad e => by injection e with e; subst e; exact World.news_of_block L3.out) (flat_one ⟨p.to, p.fr, D⟩) HML1.out HMB1.out (Nat.le_trans O35.out (Nat.le_refl _)) ?_; intro v6 w6 hown6 hgrow6; clear hi hz0 hz1 hz2; have O6 := Lib.hid (Oc.grown (w := W) (g := W.heap.size) (p := ⟨p.to, p.fr, D⟩) (O3x.out) hgrow6 (fun j e => by have h1 := (hown3x.out).lt j e; have h2 := O5.out.box.lt; omega)); have hown6x := Lib.hid (show w6.ownsRow w5.heap.size 30 3 v6 (l.length + 1) (Pk_.flat (l ++ [⟨p.to, p.fr, D⟩])) by rw [flat_snoc]; exact hown6); clear hown6 hgrow6; obtain ⟨g6, c6, rfl, hg6⟩ := own_form hown6x.out; have HG6 := Lib.hid hg6; clear hg6)
            | (refine step_append_any16 _ rfl (.tmp 55) (.tmp 57) 22 rfl w5.heap.size 30 i0 (.agg #[.int .u64 0, .int .u64 0, .string ⟨#[]⟩]) 3 32 Try.underlying22 hi hz0 hz1 hz2 rfl (by decide) _ l.length (Pk_.flat l) (by simp [Act.eval]) (hown3x.out.alloc (.cells #[.int .u64 p.to, .int .u64 p.fr, .string D] 30)) (some ⟨w3.heap.size, 0, none⟩) 1 1 [.int .u64 p.to, .int .u64 p.fr, .string D] (by simp [Act.eval]) rfl (fun e => by cases e) (fun ad e => by injection e with e; subst e; exact World.news_of_block L3c.out) (flat_one ⟨p.to, p.fr, D⟩) HML1.out HMB1.out (Nat.le_trans O35.out (by simp)) ?_; intro v6 w6 hown6 hgrow6; clear hi hz0 hz1 hz2; have O6 := Lib.hid (Oc.grown (w := W) (g := W.heap.size) (p := ⟨p.to, p.fr, D⟩) (O3x.out.alloc (.cells #[.int .u64 p.to, .int .u64 p.fr, .string D] 30)) hgrow6 (fun j e => by have h1 := ((hown3x.out.alloc (.cells #[.int .u64 p.to, .int .u64 p.fr, .string D] 30))).lt j e; have h2 := O5.out.box.lt; omega)); have hown6x := Lib.hid (show w6.ownsRow w5.heap.size 30 3 v6 (l.length + 1) (Pk_.flat (l ++ [⟨p.to, p.fr, D⟩])) by rw [flat_snoc]; exact hown6); clear hown6 hgrow6; obtain ⟨g6, c6, rfl, hg6⟩ := own_form hown6x.out; have HG6 := Lib.hid hg6; clear hg6)
          refine hK.out _ _ ?_ (fun hHeld => ?_)
          · first | exact O6.out.lim | exact O3x.out.lim | exact (O3x.out.alloc _).lim | exact O5.out.drew.lim | exact (O5.out.alloc _).drew.lim | exact ((O5.out.alloc _).alloc _).drew.lim
          clear hK K
          try simp only [Act.put, List.setIfInBounds_toArray, List.set_cons_zero, List.set_cons_succ]
          refine wpAnyH_take (i := 6) (oi := { dst := some 8, op := Op.assign (Operand.tmp 58), type := 22, pos := "law.go:99", after := #[{ on := 5, ground := Ground.data }, { on := 5, ground := Ground.chain }, { on := 0, ground := Ground.phase }, { on := 1, ground := Ground.phase }, { on := 2, ground := Ground.phase }, { on := 3, ground := Ground.phase }, { on := 4, ground := Ground.phase }, { on := 5, ground := Ground.phase }], guard := none }) (v := ?v3) rfl (by kernel_rfl) (by kernel_rfl) (by kernel_rfl) (fun _ _ _ h => h) (Or.inl ⟨by rfl, ?y3⟩) hHeld ?r3
          case y3 => (intro w hSw; (try dsimp only at hSw); go_simp; try with_reducible rfl)
          try simp only [Act.put, List.setIfInBounds_toArray, List.set_cons_zero, List.set_cons_succ]
          refine wpAnyH_done (by kernel_rfl) ?_ _
          go_wp2_with (first
            | (go_at_call 12; with_reducible refine (E2.out _ _ _ _ hown8.out).mono ?_; rintro e w9 ⟨rfl, hb⟩; have B9 := Lib.hid (B8.out.trans (hb.mono B8.out.size)); clear hb)
            | (go_at_call 12; refine (E1.out _ _ _ _ hown6x.out).mono ?_; rintro e w7 ⟨rfl, hb⟩; have O7 := Lib.hid (O6.out.keep hb); have hown7 := owns_below16 hown6x.out hb; clear hb; have d7 : w7.cell? ⟨W.heap.size, 2, none⟩ = some (.string D) := O7.out.box.cells.2.2; have lc1 : w7.cell? ⟨g6, l.length * 3 + 2, none⟩ = some (.string D) := (last_cell hown7).1; have lc2 := (last_cell hown7).2; have hown8 := Lib.hid (show (w7.setCell ⟨g6, l.length * 3 + 2, none⟩ (.string D2)).ownsRow w5.heap.size 30 3 (.slice (some ⟨g6, 0, none⟩) (l.length + 1) c6) (l.length + 1) (Pk_.flat (l ++ [⟨p.to, p.fr, D2⟩])) by have hx := (hown7.stored (l.length * 3 + 2) (.string D2)).1; rwa [flat_last] at hx); have B8 := Lib.hid (O7.out.bel.setCell (p := ⟨g6, l.length * 3 + 2, none⟩) (Nat.le_trans (Nat.le_of_lt O5.out.box.lt) HG6.out) (.string D2)); clear hown7)
            | (go_at_call 9; refine (AW.out _).mono ?_; rintro e w10 ⟨rfl, hb⟩; have B10 := Lib.hid (B9.out.trans (hb.mono B9.out.size)); clear hb))
          go_returns
          exact ⟨rfl, B10.out⟩
        exact AllReadyH.nil
      exact AllReadyH.nil
    refine AllReadyH.cons (o := { dst := some 57, op := Op.buildSlice 22 1 #[(0, Operand.tmp 56)], type := 22, pos := "law.go:99", after := #[{ on := 3, ground := Ground.data }], guard := none }) rfl (fun K hK => ?_) ?_
    · clear hHeld
      go_simp
      refine hK.out _ _ ?_ (fun hHeld => ?_)
      · first | exact O6.out.lim | exact O3x.out.lim | exact (O3x.out.alloc _).lim | exact O5.out.drew.lim | exact (O5.out.alloc _).drew.lim | exact ((O5.out.alloc _).alloc _).drew.lim
      clear hK K
      try simp only [Act.put, List.setIfInBounds_toArray, List.set_cons_zero, List.set_cons_succ]
      refine wpAnyH_ready (rs := [2]) (by kernel_rfl) (by simp) ?_
      refine AllReadyH.cons (o := { dst := some 55, op := Op.call { callee := Callee.builtin Builtin.append, args := #[Operand.tmp 53, Operand.tmp 54], argTypes := #[22, 22] }, type := 22, pos := "law.go:99", after := #[{ on := 0, ground := Ground.data }, { on := 1, ground := Ground.data }], guard := none }) rfl (fun K hK => ?_) ?_
      · clear hHeld
        obtain ⟨i0, hi, hz0, hz1, hz2⟩ := HI.out
        first
          | (refine step_append_any16 _ rfl (.tmp 53) (.tmp 54) 22 rfl w5.heap.size 30 i0 (.agg #[.int .u64 0, .int .u64 0, .string ⟨#[]⟩]) 3 32 Try.underlying22 hi hz0 hz1 hz2 rfl (by decide) _ 0 [] (by simp [Act.eval]) oA.out sa l.length c (Pk_.flat l) (by simp [Act.eval]) (flat_len l) HNN.out sA.out.news (flat_ones l) HML.out HMB.out (by simp <;> omega) ?_; intro v3 w3 hown3 hgrow; clear hi hz0 hz1 hz2; have hown3x := Lib.hid (show w3.ownsRow w5.heap.size 30 3 v3 l.length (Pk_.flat l) by simpa using hown3); have O3x := Lib.hid (Oc.grown (w := W) (g := W.heap.size) (p := ⟨p.to, p.fr, D⟩) (((O5.out.alloc (.cells #[.int .u64 p.to, .int .u64 p.fr, .string D] 30)).alloc (.cells #[] 30)).drew) hgrow (fun j e => by have h1 := oA.out.lt j e; have h2 := O5.out.box.lt; omega)); have L3 := Lib.hid (show Box w3 w5.heap.size ⟨p.to, p.fr, D⟩ from (hgrow.block w5.heap.size lA.out.lt (fun e => absurd (Option.some.inj (show some w5.heap.size = some (w5.heap.size + 1) from e)) (by omega))).trans lA.out); have O35 := Lib.hid (show w5.heap.size ≤ w3.heap.size from Nat.le_trans (by simp; try omega) hgrow.size); clear hown3 hgrow; obtain ⟨v3a, c3, rfl⟩ := slice_form hown3x.out)
          | (refine step_append_any16 _ rfl (.tmp 53) (.tmp 54) 22 rfl w5.heap.size 30 i0 (.agg #[.int .u64 0, .int .u64 0, .string ⟨#[]⟩]) 3 32 Try.underlying22 hi hz0 hz1 hz2 rfl (by decide) _ 0 [] (by simp [Act.eval]) oB.out sa l.length c (Pk_.flat l) (by simp [Act.eval]) (flat_len l) HNN.out sB.out.news (flat_ones l) HML.out HMB.out (by simp <;> omega) ?_; intro v3 w3 hown3 hgrow; clear hi hz0 hz1 hz2; have hown3x := Lib.hid (show w3.ownsRow w5.heap.size 30 3 v3 l.length (Pk_.flat l) by simpa using hown3); have O3x := Lib.hid (Oc.grown (w := W) (g := W.heap.size) (p := ⟨p.to, p.fr, D⟩) (((O5.out.alloc (.cells #[] 30)).alloc (.cells #[.int .u64 p.to, .int .u64 p.fr, .string D] 30)).drew) hgrow (fun j e => by have h1 := oB.out.lt j e; have h2 := O5.out.box.lt; omega)); have L3 := Lib.hid (show Box w3 (w5.heap.size + 1) ⟨p.to, p.fr, D⟩ from (hgrow.block (w5.heap.size + 1) lB.out.lt (fun e => absurd (Option.some.inj (show some (w5.heap.size + 1) = some w5.heap.size from e)) (by omega))).trans lB.out); have O35 := Lib.hid (show w5.heap.size ≤ w3.heap.size from Nat.le_trans (by simp; try omega) hgrow.size); clear hown3 hgrow; obtain ⟨v3a, c3, rfl⟩ := slice_form hown3x.out)
          | (refine step_append_any16 _ rfl (.tmp 53) (.tmp 54) 22 rfl w5.heap.size 30 i0 (.agg #[.int .u64 0, .int .u64 0, .string ⟨#[]⟩]) 3 32 Try.underlying22 hi hz0 hz1 hz2 rfl (by decide) _ 0 [] (by simp [Act.eval]) oC.out sa l.length c (Pk_.flat l) (by simp [Act.eval]) (flat_len l) HNN.out sC.out.news (flat_ones l) HML.out HMB.out (by simp <;> omega) ?_; intro v3 w3 hown3 hgrow; clear hi hz0 hz1 hz2; have hown3x := Lib.hid (show w3.ownsRow w5.heap.size 30 3 v3 l.length (Pk_.flat l) by simpa using hown3); have O3x := Lib.hid (Oc.grown (w := W) (g := W.heap.size) (p := ⟨p.to, p.fr, D⟩) ((O5.out.alloc (.cells #[] 30)).drew) hgrow (fun j e => by have h1 := oC.out.lt j e; have h2 := O5.out.box.lt; omega)); have L3c := Lib.hid (show Box (w3.alloc (.cells #[.int .u64 p.to, .int .u64 p.fr, .string D] 30)) w3.heap.size ⟨p.to, p.fr, D⟩ from Box.new w3 ⟨p.to, p.fr, D⟩ rfl); have O35 := Lib.hid (show w5.heap.size ≤ w3.heap.size from Nat.le_trans (by simp; try omega) hgrow.size); clear hown3 hgrow; obtain ⟨v3a, c3, rfl⟩ := slice_form hown3x.out)
        refine hK.out _ _ ?_ (fun hHeld => ?_)
        · first | exact O6.out.lim | exact O3x.out.lim | exact (O3x.out.alloc _).lim | exact O5.out.drew.lim | exact (O5.out.alloc _).drew.lim | exact ((O5.out.alloc _).alloc _).drew.lim
        clear hK K
        try simp only [Act.put, List.setIfInBounds_toArray, List.set_cons_zero, List.set_cons_succ]
        refine wpAnyH_ready (rs := [5]) (by kernel_rfl) (by simp) ?_
        refine AllReadyH.cons (o := { dst := some 58, op := Op.call { callee := Callee.builtin Builtin.append, args := #[Operand.tmp 55, Operand.tmp 57], argTypes := #[22, 22] }, type := 22, pos := "law.go:99", after := #[{ on := 2, ground := Ground.data }, { on := 4, ground := Ground.data }, { on := 2, ground := Ground.chain }], guard := none }) rfl (fun K hK => ?_) ?_
        · clear hHeld
          obtain ⟨i0, hi, hz0, hz1, hz2⟩ := HI.out
          first
            | (refine step_append_any16 _ rfl (.tmp 55) (.tmp 57) 22 rfl w5.heap.size 30 i0 (.agg #[.int .u64 0, .int .u64 0, .string ⟨#[]⟩]) 3 32 Try.underlying22 hi hz0 hz1 hz2 rfl (by decide) _ l.length (Pk_.flat l) (by simp [Act.eval]) hown3x.out (some ⟨w5.heap.size, 0, none⟩) 1 1 [.int .u64 p.to, .int .u64 p.fr, .string D] (by simp [Act.eval]) rfl (fun e => by cases e) (fun ad e => by injection e with e; subst e; exact World.news_of_block L3.out) (flat_one ⟨p.to, p.fr, D⟩) HML1.out HMB1.out (Nat.le_trans O35.out (Nat.le_refl _)) ?_; intro v6 w6 hown6 hgrow6; clear hi hz0 hz1 hz2; have O6 := Lib.hid (Oc.grown (w := W) (g := W.heap.size) (p := ⟨p.to, p.fr, D⟩) (O3x.out) hgrow6 (fun j e => by have h1 := (hown3x.out).lt j e; have h2 := O5.out.box.lt; omega)); have hown6x := Lib.hid (show w6.ownsRow w5.heap.size 30 3 v6 (l.length + 1) (Pk_.flat (l ++ [⟨p.to, p.fr, D⟩])) by rw [flat_snoc]; exact hown6); clear hown6 hgrow6; obtain ⟨g6, c6, rfl, hg6⟩ := own_form hown6x.out; have HG6 := Lib.hid hg6; clear hg6)
            | (refine step_append_any16 _ rfl (.tmp 55) (.tmp 57) 22 rfl w5.heap.size 30 i0 (.agg #[.int .u64 0, .int .u64 0, .string ⟨#[]⟩]) 3 32 Try.underlying22 hi hz0 hz1 hz2 rfl (by decide) _ l.length (Pk_.flat l) (by simp [Act.eval]) hown3x.out (some ⟨(w5.heap.size + 1), 0, none⟩) 1 1 [.int .u64 p.to, .int .u64 p.fr, .string D] (by simp [Act.eval]) rfl (fun e => by cases e) (fun ad e => by injection e with e; subst e; exact World.news_of_block L3.out) (flat_one ⟨p.to, p.fr, D⟩) HML1.out HMB1.out (Nat.le_trans O35.out (Nat.le_refl _)) ?_; intro v6 w6 hown6 hgrow6; clear hi hz0 hz1 hz2; have O6 := Lib.hid (Oc.grown (w := W) (g := W.heap.size) (p := ⟨p.to, p.fr, D⟩) (O3x.out) hgrow6 (fun j e => by have h1 := (hown3x.out).lt j e; have h2 := O5.out.box.lt; omega)); have hown6x := Lib.hid (show w6.ownsRow w5.heap.size 30 3 v6 (l.length + 1) (Pk_.flat (l ++ [⟨p.to, p.fr, D⟩])) by rw [flat_snoc]; exact hown6); clear hown6 hgrow6; obtain ⟨g6, c6, rfl, hg6⟩ := own_form hown6x.out; have HG6 := Lib.hid hg6; clear hg6)
            | (refine step_append_any16 _ rfl (.tmp 55) (.tmp 57) 22 rfl w5.heap.size 30 i0 (.agg #[.int .u64 0, .int .u64 0, .string ⟨#[]⟩]) 3 32 Try.underlying22 hi hz0 hz1 hz2 rfl (by decide) _ l.length (Pk_.flat l) (by simp [Act.eval]) (hown3x.out.alloc (.cells #[.int .u64 p.to, .int .u64 p.fr, .string D] 30)) (some ⟨w3.heap.size, 0, none⟩) 1 1 [.int .u64 p.to, .int .u64 p.fr, .string D] (by simp [Act.eval]) rfl (fun e => by cases e) (fun ad e => by injection e with e; subst e; exact World.news_of_block L3c.out) (flat_one ⟨p.to, p.fr, D⟩) HML1.out HMB1.out (Nat.le_trans O35.out (by simp)) ?_; intro v6 w6 hown6 hgrow6; clear hi hz0 hz1 hz2; have O6 := Lib.hid (Oc.grown (w := W) (g := W.heap.size) (p := ⟨p.to, p.fr, D⟩) (O3x.out.alloc (.cells #[.int .u64 p.to, .int .u64 p.fr, .string D] 30)) hgrow6 (fun j e => by have h1 := ((hown3x.out.alloc (.cells #[.int .u64 p.to, .int .u64 p.fr, .string D] 30))).lt j e; have h2 := O5.out.box.lt; omega)); have hown6x := Lib.hid (show w6.ownsRow w5.heap.size 30 3 v6 (l.length + 1) (Pk_.flat (l ++ [⟨p.to, p.fr, D⟩])) by rw [flat_snoc]; exact hown6); clear hown6 hgrow6; obtain ⟨g6, c6, rfl, hg6⟩ := own_form hown6x.out; have HG6 := Lib.hid hg6; clear hg6)
          refine hK.out _ _ ?_ (fun hHeld => ?_)
          · first | exact O6.out.lim | exact O3x.out.lim | exact (O3x.out.alloc _).lim | exact O5.out.drew.lim | exact (O5.out.alloc _).drew.lim | exact ((O5.out.alloc _).alloc _).drew.lim
          clear hK K
          try simp only [Act.put, List.setIfInBounds_toArray, List.set_cons_zero, List.set_cons_succ]
          refine wpAnyH_take (i := 6) (oi := { dst := some 8, op := Op.assign (Operand.tmp 58), type := 22, pos := "law.go:99", after := #[{ on := 5, ground := Ground.data }, { on := 5, ground := Ground.chain }, { on := 0, ground := Ground.phase }, { on := 1, ground := Ground.phase }, { on := 2, ground := Ground.phase }, { on := 3, ground := Ground.phase }, { on := 4, ground := Ground.phase }, { on := 5, ground := Ground.phase }], guard := none }) (v := ?v4) rfl (by kernel_rfl) (by kernel_rfl) (by kernel_rfl) (fun _ _ _ h => h) (Or.inl ⟨by rfl, ?y4⟩) hHeld ?r4
          case y4 => (intro w hSw; (try dsimp only at hSw); go_simp; try with_reducible rfl)
          try simp only [Act.put, List.setIfInBounds_toArray, List.set_cons_zero, List.set_cons_succ]
          refine wpAnyH_done (by kernel_rfl) ?_ _
          go_wp2_with (first
            | (go_at_call 12; with_reducible refine (E2.out _ _ _ _ hown8.out).mono ?_; rintro e w9 ⟨rfl, hb⟩; have B9 := Lib.hid (B8.out.trans (hb.mono B8.out.size)); clear hb)
            | (go_at_call 12; refine (E1.out _ _ _ _ hown6x.out).mono ?_; rintro e w7 ⟨rfl, hb⟩; have O7 := Lib.hid (O6.out.keep hb); have hown7 := owns_below16 hown6x.out hb; clear hb; have d7 : w7.cell? ⟨W.heap.size, 2, none⟩ = some (.string D) := O7.out.box.cells.2.2; have lc1 : w7.cell? ⟨g6, l.length * 3 + 2, none⟩ = some (.string D) := (last_cell hown7).1; have lc2 := (last_cell hown7).2; have hown8 := Lib.hid (show (w7.setCell ⟨g6, l.length * 3 + 2, none⟩ (.string D2)).ownsRow w5.heap.size 30 3 (.slice (some ⟨g6, 0, none⟩) (l.length + 1) c6) (l.length + 1) (Pk_.flat (l ++ [⟨p.to, p.fr, D2⟩])) by have hx := (hown7.stored (l.length * 3 + 2) (.string D2)).1; rwa [flat_last] at hx); have B8 := Lib.hid (O7.out.bel.setCell (p := ⟨g6, l.length * 3 + 2, none⟩) (Nat.le_trans (Nat.le_of_lt O5.out.box.lt) HG6.out) (.string D2)); clear hown7)
            | (go_at_call 9; refine (AW.out _).mono ?_; rintro e w10 ⟨rfl, hb⟩; have B10 := Lib.hid (B9.out.trans (hb.mono B9.out.size)); clear hb))
          go_returns
          exact ⟨rfl, B10.out⟩
        exact AllReadyH.nil
      exact AllReadyH.nil
    exact AllReadyH.nil
  refine AllReadyH.cons (o := { dst := some 57, op := Op.buildSlice 22 1 #[(0, Operand.tmp 56)], type := 22, pos := "law.go:99", after := #[{ on := 3, ground := Ground.data }], guard := none }) rfl (fun K hK => ?_) ?_
  · clear hHeld
    go_simp
    refine hK.out _ _ ?_ (fun hHeld => ?_)
    · first | exact O6.out.lim | exact O3x.out.lim | exact (O3x.out.alloc _).lim | exact O5.out.drew.lim | exact (O5.out.alloc _).drew.lim | exact ((O5.out.alloc _).alloc _).drew.lim
    clear hK K
    try simp only [Act.put, List.setIfInBounds_toArray, List.set_cons_zero, List.set_cons_succ]
    refine wpAnyH_ready (rs := [0]) (by kernel_rfl) (by simp) ?_
    refine AllReadyH.cons (o := { dst := some 53, op := Op.buildSlice 22 0 #[], type := 22, pos := "law.go:99", after := #[], guard := none }) rfl (fun K hK => ?_) ?_
    · clear hHeld
      go_simp
      refine hK.out _ _ ?_ (fun hHeld => ?_)
      · first | exact O6.out.lim | exact O3x.out.lim | exact (O3x.out.alloc _).lim | exact O5.out.drew.lim | exact (O5.out.alloc _).drew.lim | exact ((O5.out.alloc _).alloc _).drew.lim
      clear hK K
      try simp only [Act.put, List.setIfInBounds_toArray, List.set_cons_zero, List.set_cons_succ]
      refine wpAnyH_ready (rs := [2]) (by kernel_rfl) (by simp) ?_
      refine AllReadyH.cons (o := { dst := some 55, op := Op.call { callee := Callee.builtin Builtin.append, args := #[Operand.tmp 53, Operand.tmp 54], argTypes := #[22, 22] }, type := 22, pos := "law.go:99", after := #[{ on := 0, ground := Ground.data }, { on := 1, ground := Ground.data }], guard := none }) rfl (fun K hK => ?_) ?_
      · clear hHeld
        obtain ⟨i0, hi, hz0, hz1, hz2⟩ := HI.out
        first
          | (refine step_append_any16 _ rfl (.tmp 53) (.tmp 54) 22 rfl w5.heap.size 30 i0 (.agg #[.int .u64 0, .int .u64 0, .string ⟨#[]⟩]) 3 32 Try.underlying22 hi hz0 hz1 hz2 rfl (by decide) _ 0 [] (by simp [Act.eval]) oA.out sa l.length c (Pk_.flat l) (by simp [Act.eval]) (flat_len l) HNN.out sA.out.news (flat_ones l) HML.out HMB.out (by simp <;> omega) ?_; intro v3 w3 hown3 hgrow; clear hi hz0 hz1 hz2; have hown3x := Lib.hid (show w3.ownsRow w5.heap.size 30 3 v3 l.length (Pk_.flat l) by simpa using hown3); have O3x := Lib.hid (Oc.grown (w := W) (g := W.heap.size) (p := ⟨p.to, p.fr, D⟩) (((O5.out.alloc (.cells #[.int .u64 p.to, .int .u64 p.fr, .string D] 30)).alloc (.cells #[] 30)).drew) hgrow (fun j e => by have h1 := oA.out.lt j e; have h2 := O5.out.box.lt; omega)); have L3 := Lib.hid (show Box w3 w5.heap.size ⟨p.to, p.fr, D⟩ from (hgrow.block w5.heap.size lA.out.lt (fun e => absurd (Option.some.inj (show some w5.heap.size = some (w5.heap.size + 1) from e)) (by omega))).trans lA.out); have O35 := Lib.hid (show w5.heap.size ≤ w3.heap.size from Nat.le_trans (by simp; try omega) hgrow.size); clear hown3 hgrow; obtain ⟨v3a, c3, rfl⟩ := slice_form hown3x.out)
          | (refine step_append_any16 _ rfl (.tmp 53) (.tmp 54) 22 rfl w5.heap.size 30 i0 (.agg #[.int .u64 0, .int .u64 0, .string ⟨#[]⟩]) 3 32 Try.underlying22 hi hz0 hz1 hz2 rfl (by decide) _ 0 [] (by simp [Act.eval]) oB.out sa l.length c (Pk_.flat l) (by simp [Act.eval]) (flat_len l) HNN.out sB.out.news (flat_ones l) HML.out HMB.out (by simp <;> omega) ?_; intro v3 w3 hown3 hgrow; clear hi hz0 hz1 hz2; have hown3x := Lib.hid (show w3.ownsRow w5.heap.size 30 3 v3 l.length (Pk_.flat l) by simpa using hown3); have O3x := Lib.hid (Oc.grown (w := W) (g := W.heap.size) (p := ⟨p.to, p.fr, D⟩) (((O5.out.alloc (.cells #[] 30)).alloc (.cells #[.int .u64 p.to, .int .u64 p.fr, .string D] 30)).drew) hgrow (fun j e => by have h1 := oB.out.lt j e; have h2 := O5.out.box.lt; omega)); have L3 := Lib.hid (show Box w3 (w5.heap.size + 1) ⟨p.to, p.fr, D⟩ from (hgrow.block (w5.heap.size + 1) lB.out.lt (fun e => absurd (Option.some.inj (show some (w5.heap.size + 1) = some w5.heap.size from e)) (by omega))).trans lB.out); have O35 := Lib.hid (show w5.heap.size ≤ w3.heap.size from Nat.le_trans (by simp; try omega) hgrow.size); clear hown3 hgrow; obtain ⟨v3a, c3, rfl⟩ := slice_form hown3x.out)
          | (refine step_append_any16 _ rfl (.tmp 53) (.tmp 54) 22 rfl w5.heap.size 30 i0 (.agg #[.int .u64 0, .int .u64 0, .string ⟨#[]⟩]) 3 32 Try.underlying22 hi hz0 hz1 hz2 rfl (by decide) _ 0 [] (by simp [Act.eval]) oC.out sa l.length c (Pk_.flat l) (by simp [Act.eval]) (flat_len l) HNN.out sC.out.news (flat_ones l) HML.out HMB.out (by simp <;> omega) ?_; intro v3 w3 hown3 hgrow; clear hi hz0 hz1 hz2; have hown3x := Lib.hid (show w3.ownsRow w5.heap.size 30 3 v3 l.length (Pk_.flat l) by simpa using hown3); have O3x := Lib.hid (Oc.grown (w := W) (g := W.heap.size) (p := ⟨p.to, p.fr, D⟩) ((O5.out.alloc (.cells #[] 30)).drew) hgrow (fun j e => by have h1 := oC.out.lt j e; have h2 := O5.out.box.lt; omega)); have L3c := Lib.hid (show Box (w3.alloc (.cells #[.int .u64 p.to, .int .u64 p.fr, .string D] 30)) w3.heap.size ⟨p.to, p.fr, D⟩ from Box.new w3 ⟨p.to, p.fr, D⟩ rfl); have O35 := Lib.hid (show w5.heap.size ≤ w3.heap.size from Nat.le_trans (by simp; try omega) hgrow.size); clear hown3 hgrow; obtain ⟨v3a, c3, rfl⟩ := slice_form hown3x.out)
        refine hK.out _ _ ?_ (fun hHeld => ?_)
        · first | exact O6.out.lim | exact O3x.out.lim | exact (O3x.out.alloc _).lim | exact O5.out.drew.lim | exact (O5.out.alloc _).drew.lim | exact ((O5.out.alloc _).alloc _).drew.lim
        clear hK K
        try simp only [Act.put, List.setIfInBounds_toArray, List.set_cons_zero, List.set_cons_succ]
        refine wpAnyH_ready (rs := [5]) (by kernel_rfl) (by simp) ?_
        refine AllReadyH.cons (o := { dst := some 58, op := Op.call { callee := Callee.builtin Builtin.append, args := #[Operand.tmp 55, Operand.tmp 57], argTypes := #[22, 22] }, type := 22, pos := "law.go:99", after := #[{ on := 2, ground := Ground.data }, { on := 4, ground := Ground.data }, { on := 2, ground := Ground.chain }], guard := none }) rfl (fun K hK => ?_) ?_
        · clear hHeld
          obtain ⟨i0, hi, hz0, hz1, hz2⟩ := HI.out
          first
            | (refine step_append_any16 _ rfl (.tmp 55) (.tmp 57) 22 rfl w5.heap.size 30 i0 (.agg #[.int .u64 0, .int .u64 0, .string ⟨#[]⟩]) 3 32 Try.underlying22 hi hz0 hz1 hz2 rfl (by decide) _ l.length (Pk_.flat l) (by simp [Act.eval]) hown3x.out (some ⟨w5.heap.size, 0, none⟩) 1 1 [.int .u64 p.to, .int .u64 p.fr, .string D] (by simp [Act.eval]) rfl (fun e => by cases e) (fun ad e => by injection e with e; subst e; exact World.news_of_block L3.out) (flat_one ⟨p.to, p.fr, D⟩) HML1.out HMB1.out (Nat.le_trans O35.out (Nat.le_refl _)) ?_; intro v6 w6 hown6 hgrow6; clear hi hz0 hz1 hz2; have O6 := Lib.hid (Oc.grown (w := W) (g := W.heap.size) (p := ⟨p.to, p.fr, D⟩) (O3x.out) hgrow6 (fun j e => by have h1 := (hown3x.out).lt j e; have h2 := O5.out.box.lt; omega)); have hown6x := Lib.hid (show w6.ownsRow w5.heap.size 30 3 v6 (l.length + 1) (Pk_.flat (l ++ [⟨p.to, p.fr, D⟩])) by rw [flat_snoc]; exact hown6); clear hown6 hgrow6; obtain ⟨g6, c6, rfl, hg6⟩ := own_form hown6x.out; have HG6 := Lib.hid hg6; clear hg6)
            | (refine step_append_any16 _ rfl (.tmp 55) (.tmp 57) 22 rfl w5.heap.size 30 i0 (.agg #[.int .u64 0, .int .u64 0, .string ⟨#[]⟩]) 3 32 Try.underlying22 hi hz0 hz1 hz2 rfl (by decide) _ l.length (Pk_.flat l) (by simp [Act.eval]) hown3x.out (some ⟨(w5.heap.size + 1), 0, none⟩) 1 1 [.int .u64 p.to, .int .u64 p.fr, .string D] (by simp [Act.eval]) rfl (fun e => by cases e) (fun ad e => by injection e with e; subst e; exact World.news_of_block L3.out) (flat_one ⟨p.to, p.fr, D⟩) HML1.out HMB1.out (Nat.le_trans O35.out (Nat.le_refl _)) ?_; intro v6 w6 hown6 hgrow6; clear hi hz0 hz1 hz2; have O6 := Lib.hid (Oc.grown (w := W) (g := W.heap.size) (p := ⟨p.to, p.fr, D⟩) (O3x.out) hgrow6 (fun j e => by have h1 := (hown3x.out).lt j e; have h2 := O5.out.box.lt; omega)); have hown6x := Lib.hid (show w6.ownsRow w5.heap.size 30 3 v6 (l.length + 1) (Pk_.flat (l ++ [⟨p.to, p.fr, D⟩])) by rw [flat_snoc]; exact hown6); clear hown6 hgrow6; obtain ⟨g6, c6, rfl, hg6⟩ := own_form hown6x.out; have HG6 := Lib.hid hg6; clear hg6)
            | (refine step_append_any16 _ rfl (.tmp 55) (.tmp 57) 22 rfl w5.heap.size 30 i0 (.agg #[.int .u64 0, .int .u64 0, .string ⟨#[]⟩]) 3 32 Try.underlying22 hi hz0 hz1 hz2 rfl (by decide) _ l.length (Pk_.flat l) (by simp [Act.eval]) (hown3x.out.alloc (.cells #[.int .u64 p.to, .int .u64 p.fr, .string D] 30)) (some ⟨w3.heap.size, 0, none⟩) 1 1 [.int .u64 p.to, .int .u64 p.fr, .string D] (by simp [Act.eval]) rfl (fun e => by cases e) (fun ad e => by injection e with e; subst e; exact World.news_of_block L3c.out) (flat_one ⟨p.to, p.fr, D⟩) HML1.out HMB1.out (Nat.le_trans O35.out (by simp)) ?_; intro v6 w6 hown6 hgrow6; clear hi hz0 hz1 hz2; have O6 := Lib.hid (Oc.grown (w := W) (g := W.heap.size) (p := ⟨p.to, p.fr, D⟩) (O3x.out.alloc (.cells #[.int .u64 p.to, .int .u64 p.fr, .string D] 30)) hgrow6 (fun j e => by have h1 := ((hown3x.out.alloc (.cells #[.int .u64 p.to, .int .u64 p.fr, .string D] 30))).lt j e; have h2 := O5.out.box.lt; omega)); have hown6x := Lib.hid (show w6.ownsRow w5.heap.size 30 3 v6 (l.length + 1) (Pk_.flat (l ++ [⟨p.to, p.fr, D⟩])) by rw [flat_snoc]; exact hown6); clear hown6 hgrow6; obtain ⟨g6, c6, rfl, hg6⟩ := own_form hown6x.out; have HG6 := Lib.hid hg6; clear hg6)
          refine hK.out _ _ ?_ (fun hHeld => ?_)
          · first | exact O6.out.lim | exact O3x.out.lim | exact (O3x.out.alloc _).lim | exact O5.out.drew.lim | exact (O5.out.alloc _).drew.lim | exact ((O5.out.alloc _).alloc _).drew.lim
          clear hK K
          try simp only [Act.put, List.setIfInBounds_toArray, List.set_cons_zero, List.set_cons_succ]
          refine wpAnyH_take (i := 6) (oi := { dst := some 8, op := Op.assign (Operand.tmp 58), type := 22, pos := "law.go:99", after := #[{ on := 5, ground := Ground.data }, { on := 5, ground := Ground.chain }, { on := 0, ground := Ground.phase }, { on := 1, ground := Ground.phase }, { on := 2, ground := Ground.phase }, { on := 3, ground := Ground.phase }, { on := 4, ground := Ground.phase }, { on := 5, ground := Ground.phase }], guard := none }) (v := ?v5) rfl (by kernel_rfl) (by kernel_rfl) (by kernel_rfl) (fun _ _ _ h => h) (Or.inl ⟨by rfl, ?y5⟩) hHeld ?r5
          case y5 => (intro w hSw; (try dsimp only at hSw); go_simp; try with_reducible rfl)
          try simp only [Act.put, List.setIfInBounds_toArray, List.set_cons_zero, List.set_cons_succ]
          refine wpAnyH_done (by kernel_rfl) ?_ _
          go_wp2_with (first
            | (go_at_call 12; with_reducible refine (E2.out _ _ _ _ hown8.out).mono ?_; rintro e w9 ⟨rfl, hb⟩; have B9 := Lib.hid (B8.out.trans (hb.mono B8.out.size)); clear hb)
            | (go_at_call 12; refine (E1.out _ _ _ _ hown6x.out).mono ?_; rintro e w7 ⟨rfl, hb⟩; have O7 := Lib.hid (O6.out.keep hb); have hown7 := owns_below16 hown6x.out hb; clear hb; have d7 : w7.cell? ⟨W.heap.size, 2, none⟩ = some (.string D) := O7.out.box.cells.2.2; have lc1 : w7.cell? ⟨g6, l.length * 3 + 2, none⟩ = some (.string D) := (last_cell hown7).1; have lc2 := (last_cell hown7).2; have hown8 := Lib.hid (show (w7.setCell ⟨g6, l.length * 3 + 2, none⟩ (.string D2)).ownsRow w5.heap.size 30 3 (.slice (some ⟨g6, 0, none⟩) (l.length + 1) c6) (l.length + 1) (Pk_.flat (l ++ [⟨p.to, p.fr, D2⟩])) by have hx := (hown7.stored (l.length * 3 + 2) (.string D2)).1; rwa [flat_last] at hx); have B8 := Lib.hid (O7.out.bel.setCell (p := ⟨g6, l.length * 3 + 2, none⟩) (Nat.le_trans (Nat.le_of_lt O5.out.box.lt) HG6.out) (.string D2)); clear hown7)
            | (go_at_call 9; refine (AW.out _).mono ?_; rintro e w10 ⟨rfl, hb⟩; have B10 := Lib.hid (B9.out.trans (hb.mono B9.out.size)); clear hb))
          go_returns
          exact ⟨rfl, B10.out⟩
        exact AllReadyH.nil
      exact AllReadyH.nil
    exact AllReadyH.nil
  exact AllReadyH.nil
set_option maxRecDepth 100000 in
set_option maxHeartbeats 8000000 in
theorem fits_c (l : List Pk) (sa : Option Addr) (c : Nat) (W : World) (h : Sl W sa l c) (hl : l.length ≤ maxLen) (hw : ∀ p ∈ l, PkW p) (p : Pk) (hp : PkW p) (hf : fewB l = true) (h9 : l.length ≤ 9) (hpos : 0 < l.length) (h0 : encE l = 0) (hk : rm (ln 0 l) 2048 < 0) :
    Calls Try.prog 7 #[.slice sa l.length c, .agg #[.int .u64 p.to, .int .u64 p.fr, .string p.s]] W fun e w' => e = .returned (.bool true) ∧ Below W.heap.size W w' := by
  have AW := Lib.hid lives16_any
  obtain ⟨w1, hw1⟩ : ∃ w1, W.alloc (.cells #[.int .u64 p.to, .int .u64 p.fr, .string p.s] 30) = w1 := ⟨_, rfl⟩
  have O1 := Lib.hid (show Oc W W.heap.size p w1 by subst hw1; exact ⟨Box.new W p rfl, (Below.refl _ _).alloc (Nat.le_refl _) _⟩)
  have HS := Lib.hid (fun wi (hb : Below W.heap.size W wi) => h.below hb)
  have SM := Lib.hid (few16_any l sa c w1 (HS.out _ O1.out.bel).lies hl)
  obtain ⟨hz, h10⟩ := few_sz hf hw
  rw [hf] at SM
  have CE := Lib.hid (buEncode_any l sa c w1 (HS.out _ O1.out.bel).lies hz)
  obtain ⟨hn1, hn2⟩ := size_list (l := l) (.inr h0)
  have CR := Lib.hid fun w => buRoom_any (ln 0 l) 2048 w (wf_small hn2)
  have hsz : ((encS l).size : Int) = (ln 0 l : Nat) := by omega
  have hr := rm_le (ln 0 l) 2048
  obtain ⟨m, hm⟩ : ∃ m : Nat, max (rm (ln 0 l) 2048) 0 = (m : Int) := ⟨(max (rm (ln 0 l) 2048) 0).toNat, by omega⟩
  have hm1 : m ≤ 1024 := by omega
  have hDs : (yz (zs m)).size = m := by rw [yz_size, zs_len]
  have hDs2 : (yz (zs m ++ [120])).size = m + 1 := by rw [yz_size, List.length_append, zs_len]; rfl
  have MZ := Lib.hid fun w => mk_zeros w m hm1
  have ax := add_x m hm1
  have hz1 : sz (l ++ [⟨p.to, p.fr, yz (zs m)⟩]) := ⟨by simp; omega, fun x hx => by
    rcases List.mem_append.1 hx with hx | hx
    · exact hz.2 x hx
    · simp at hx; subst hx; exact ⟨by show (yz (zs m)).size ≤ 3000; omega, hp⟩⟩
  have hz2 : sz (l ++ [⟨p.to, p.fr, yz (zs m ++ [120])⟩]) := ⟨by simp; omega, fun x hx => by
    rcases List.mem_append.1 hx with hx | hx
    · exact hz.2 x hx
    · simp at hx; subst hx; exact ⟨by show (yz (zs m ++ [120])).size ≤ 3000; omega, hp⟩⟩
  have E1 := Lib.hid (enc_last ⟨p.to, p.fr, yz (zs m)⟩ hz1)
  have E2 := Lib.hid (enc_last ⟨p.to, p.fr, yz (zs m ++ [120])⟩ hz2)
  have CC : Hid (∀ w, Calls Try.prog 10 #[.agg #[.int .u64 p.to, .int .u64 p.fr, .string (yz (zs m))]] w fun e w' => e = .returned (.int .i64 (chk ⟨p.to, p.fr, yz (zs m)⟩)) ∧ Below w.heap.size w w') := fun w => buCheck_any ⟨p.to, p.fr, yz (zs m)⟩ w hp
  have FIT := Lib.hid (fun hq => rm_fit (l := l) (.inr h0) ⟨p.to, p.fr, yz (zs m)⟩ hq (by show ((yz (zs m)).size : Int) = _; rw [hDs, hm]))
  have FQ : Hid (chk ⟨p.to, p.fr, yz (zs m)⟩ = 0 → encE (l ++ [⟨p.to, p.fr, yz (zs m)⟩]) = 2) := fun hq => (FIT.out hq).1 hk
  have h9' : decide ((9 : Int) < (l.length : Int)) = false := decide_eq_false (by omega)
  have hg1 : decide ((0 : Int) < (l.length : Int)) = true := decide_eq_true (by omega)
  have hg2 : decide (0 < l.length) = true := decide_eq_true (by omega)
  have hk1 : ¬ (1024 : Int) < rm (ln 0 l) 2048 := by omega
  unfold EncPost at CE
  rw [h0] at CE
  generalize yz (zs m) = D at *
  generalize yz (zs m ++ [120]) = D2 at *
  generalize encS (l ++ [⟨p.to, p.fr, D⟩]) = s1 at *
  generalize encE (l ++ [⟨p.to, p.fr, D⟩]) = f1 at *
  generalize encS (l ++ [⟨p.to, p.fr, D2⟩]) = s2 at *
  generalize encE (l ++ [⟨p.to, p.fr, D2⟩]) = f2 at *
  generalize rm (ln 0 l) 2048 = k at *
  generalize chk ⟨p.to, p.fr, D⟩ = r at *
  generalize encS l = t at *
  generalize ln 0 l = n at *
  have HM := Lib.hid hm1
  have HL9 := Lib.hid h9
  have HW1 := Lib.hid hw1
  clear FIT hz1 hz2 hDs hDs2 hn1 hn2 hr hz h10 hf hw hl hp h h0 h9
  by_cases hr0 : r = 0
  case neg =>
    have hr1 : (r != 0) = true := by rw [bne_iff_ne]; exact hr0
    have hk2 : decide (k ≤ 1024) = true := decide_eq_true (by omega)
    clear FQ E1 E2 hr0
    go_enter Try.func7, Try.ntmps7
    go_wp2_with (first
      | (go_at_call 8; refine SM.out.mono ?_; rintro e w' ⟨rfl, rfl⟩)
      | (go_at_call 12; refine CE.out.mono ?_; rintro e w2 ⟨rfl, hb⟩; have O2 := Lib.hid (O1.out.keep hb); clear hb; obtain ⟨wm, hmk, hcv, hgr⟩ := MZ.out w2; have Om := Lib.hid (O2.out.grown hgr (fun j e => by cases e)); have d2 := Om.out.box.cells; have fz := Om.out.box.frozen 2; have O3 := Lib.hid (show Oc W W.heap.size ⟨p.to, p.fr, D⟩ (wm.setCell ⟨W.heap.size, 2, none⟩ (.string D)) from ⟨Pq_.Box.set2 (x := p) Om.out.box D, Om.out.bel.setCell (p := ⟨W.heap.size, 2, none⟩) (Nat.le_refl _) _⟩); clear hgr; have l3 := O3.out.box.cells; have l4 := O3.out.box.load)
      | (go_at_call 17; refine (CR.out _).mono ?_; rintro e w' ⟨rfl, rfl⟩)
      | (go_at_call 10; refine (CC.out _).mono ?_; rintro e w5 ⟨rfl, hb⟩; have O5 := Lib.hid (O3.out.keep hb); clear hb)
      | (go_at_call 9; refine (AW.out _).mono ?_; rintro e w6 ⟨rfl, hb⟩; have B6 := Lib.hid (O5.out.bel.trans (hb.mono O5.out.bel.size)); clear hb))
    go_returns
    exact ⟨rfl, B6.out⟩
  have hf1 := FQ.out hr0
  subst hr0
  subst hf1
  have hkn : decide (k < 0) = true := decide_eq_true (by omega)
  have HI := Lib.hid (info_parts info)
  have HNN : Hid (sa = none → l.length = 0 ∧ c = 0) := fun e => by
    have h1 := (HS.out W (Below.refl _ _)).nil e
    have h2 := (HS.out W (Below.refl _ _)).le
    omega
  have HML : Hid (0 + l.length ≤ maxLen) := by show 0 + l.length ≤ maxLen; have := HL9.out; unfold maxLen; omega
  have HMB : Hid ((0 + l.length) * 32 ≤ 140737488355328) := by show (0 + l.length) * 32 ≤ 140737488355328; have := HL9.out; omega
  have HML1 : Hid (l.length + 1 ≤ maxLen) := by show l.length + 1 ≤ maxLen; have := HL9.out; unfold maxLen; omega
  have HMB1 : Hid ((l.length + 1) * 32 ≤ 140737488355328) := by show (l.length + 1) * 32 ≤ 140737488355328; have := HL9.out; omega
  clear FQ
  go_enter Try.func7, Try.ntmps7
  go_wp2_with (first
    | (go_at_call 8; refine SM.out.mono ?_; rintro e w' ⟨rfl, rfl⟩)
    | (go_at_call 12; refine CE.out.mono ?_; rintro e w2 ⟨rfl, hb⟩; have O2 := Lib.hid (O1.out.keep hb); clear hb; obtain ⟨wm, hmk, hcv, hgr⟩ := MZ.out w2; have Om := Lib.hid (O2.out.grown hgr (fun j e => by cases e)); have d2 := Om.out.box.cells; have fz := Om.out.box.frozen 2; have O3 := Lib.hid (show Oc W W.heap.size ⟨p.to, p.fr, D⟩ (wm.setCell ⟨W.heap.size, 2, none⟩ (.string D)) from ⟨Pq_.Box.set2 (x := p) Om.out.box D, Om.out.bel.setCell (p := ⟨W.heap.size, 2, none⟩) (Nat.le_refl _) _⟩); clear hgr; have l3 := O3.out.box.cells; have l4 := O3.out.box.load)
    | (go_at_call 17; refine (CR.out _).mono ?_; rintro e w' ⟨rfl, rfl⟩)
    | (go_at_call 10; refine (CC.out _).mono ?_; rintro e w5 ⟨rfl, hb⟩; have O5 := Lib.hid (O3.out.keep hb); clear hb))
  clear l3 l4 d2 fz hmk hcv
  have oC := Lib.hid (show (w5.alloc (.cells #[] 30)).drew.ownsRow w5.heap.size 30 3 (.slice (some ⟨w5.heap.size, 0, none⟩) 0 0) 0 [] from World.ownsRow_made w5 #[] 0 (Nat.le_refl _) (Nat.zero_le _) rfl)
  have oB := Lib.hid (show ((w5.alloc (.cells #[] 30)).alloc (.cells #[.int .u64 p.to, .int .u64 p.fr, .string D] 30)).drew.ownsRow w5.heap.size 30 3 (.slice (some ⟨w5.heap.size, 0, none⟩) 0 0) 0 [] from (World.ownsRow_made w5 #[] 0 (Nat.le_refl _) (Nat.zero_le _) rfl).alloc _)
  have oA := Lib.hid (show ((w5.alloc (.cells #[.int .u64 p.to, .int .u64 p.fr, .string D] 30)).alloc (.cells #[] 30)).drew.ownsRow w5.heap.size 30 3 (.slice (some ⟨w5.heap.size + 1, 0, none⟩) 0 0) 0 [] by
    have hs : (w5.alloc (.cells #[.int .u64 p.to, .int .u64 p.fr, .string D] 30)).heap.size = w5.heap.size + 1 := by simp
    have hx := World.ownsRow_made (base := w5.heap.size) (e := 30) (size := 3) (w5.alloc (.cells #[.int .u64 p.to, .int .u64 p.fr, .string D] 30)) #[] 0 (by omega) (Nat.zero_le _) rfl
    rw [hs] at hx
    exact hx)
  have lA := Lib.hid (show Box ((w5.alloc (.cells #[.int .u64 p.to, .int .u64 p.fr, .string D] 30)).alloc (.cells #[] 30)).drew w5.heap.size ⟨p.to, p.fr, D⟩ by
    have h1 : Box (w5.alloc (.cells #[.int .u64 p.to, .int .u64 p.fr, .string D] 30)) w5.heap.size ⟨p.to, p.fr, D⟩ := Box.new w5 ⟨p.to, p.fr, D⟩ rfl
    exact (h1.below ((Below.refl (w5.alloc (.cells #[.int .u64 p.to, .int .u64 p.fr, .string D] 30)).heap.size (w5.alloc (.cells #[.int .u64 p.to, .int .u64 p.fr, .string D] 30))).alloc (Nat.le_refl _) (.cells #[] 30)) h1.lt).drew)
  have lB := Lib.hid (show Box ((w5.alloc (.cells #[] 30)).alloc (.cells #[.int .u64 p.to, .int .u64 p.fr, .string D] 30)).drew (w5.heap.size + 1) ⟨p.to, p.fr, D⟩ from (Box.new (w5.alloc (.cells #[] 30)) ⟨p.to, p.fr, D⟩ (by simp)))
  have sA := Lib.hid (HS.out _ ((O5.out.alloc (.cells #[.int .u64 p.to, .int .u64 p.fr, .string D] 30)).alloc (.cells #[] 30)).drew.bel)
  have sB := Lib.hid (HS.out _ ((O5.out.alloc (.cells #[] 30)).alloc (.cells #[.int .u64 p.to, .int .u64 p.fr, .string D] 30)).drew.bel)
  have sC := Lib.hid (HS.out _ (O5.out.alloc (.cells #[] 30)).drew.bel)
  refine wp_region_held_drew (S := (fun w' => w'.cell? ⟨W.heap.size, 0, none⟩ = some (.int .u64 p.to) ∧ w'.cell? ⟨W.heap.size, 1, none⟩ = some (.int .u64 p.fr) ∧ w'.cell? ⟨W.heap.size, 2, none⟩ = some (.string D) ∧ Oc W W.heap.size ⟨p.to, p.fr, D⟩ w')) (by kernel_rfl) ?_ (fun hHeld => ?_)
  · exact O5.out.drew.lim
  refine wpAnyH_take (i := 1) (oi := { dst := some 54, op := Op.move (Operand.tmp 0), type := 22, pos := "law.go:99", after := #[], guard := none }) (v := ?v1) rfl (by kernel_rfl) (by kernel_rfl) (by kernel_rfl) (fun _ _ _ h => h) (Or.inl ⟨by rfl, ?y1⟩) hHeld ?r1
  case y1 => (intro w hSw; (try dsimp only at hSw); go_simp; try with_reducible rfl)
  try simp only [Act.put, List.setIfInBounds_toArray, List.set_cons_zero, List.set_cons_succ]
  refine wpAnyH_take (i := 3) (oi := { dst := some 56, op := Op.load 30 (Operand.tmp 3), type := 30, pos := "law.go:99", after := #[], guard := none }) (v := ?v2) rfl (by kernel_rfl) (by kernel_rfl) (by kernel_rfl) (fun _ _ _ h => h) (Or.inl ⟨by rfl, ?y2⟩) hHeld ?r2
  case y2 => (intro w hSw; (try dsimp only at hSw); go_simp; try with_reducible rfl)
  try simp only [Act.put, List.setIfInBounds_toArray, List.set_cons_zero, List.set_cons_succ]
  refine wpAnyH_ready (rs := [0, 4]) (by kernel_rfl) (by simp) ?_
  refine AllReadyH.cons (o := { dst := some 53, op := Op.buildSlice 22 0 #[], type := 22, pos := "law.go:99", after := #[], guard := none }) rfl (fun K hK => ?_) ?_
  · clear hHeld
    go_simp
    refine hK.out _ _ ?_ (fun hHeld => ?_)
    · first | exact O6.out.lim | exact O3x.out.lim | exact (O3x.out.alloc _).lim | exact O5.out.drew.lim | exact (O5.out.alloc _).drew.lim | exact ((O5.out.alloc _).alloc _).drew.lim
    clear hK K
    try simp only [Act.put, List.setIfInBounds_toArray, List.set_cons_zero, List.set_cons_succ]
    refine wpAnyH_ready (rs := [2, 4]) (by kernel_rfl) (by simp) ?_
    refine AllReadyH.cons (o := { dst := some 55, op := Op.call { callee := Callee.builtin Builtin.append, args := #[Operand.tmp 53, Operand.tmp 54], argTypes := #[22, 22] }, type := 22, pos := "law.go:99", after := #[{ on := 0, ground := Ground.data }, { on := 1, ground := Ground.data }], guard := none }) rfl (fun K hK => ?_) ?_
    · clear hHeld
      obtain ⟨i0, hi, hz0, hz1, hz2⟩ := HI.out
      first
        | (refine step_append_any16 _ rfl (.tmp 53) (.tmp 54) 22 rfl w5.heap.size 30 i0 (.agg #[.int .u64 0, .int .u64 0, .string ⟨#[]⟩]) 3 32 Try.underlying22 hi hz0 hz1 hz2 rfl (by decide) _ 0 [] (by simp [Act.eval]) oA.out sa l.length c (Pk_.flat l) (by simp [Act.eval]) (flat_len l) HNN.out sA.out.news (flat_ones l) HML.out HMB.out (by simp <;> omega) ?_; intro v3 w3 hown3 hgrow; clear hi hz0 hz1 hz2; have hown3x := Lib.hid (show w3.ownsRow w5.heap.size 30 3 v3 l.length (Pk_.flat l) by simpa using hown3); have O3x := Lib.hid (Oc.grown (w := W) (g := W.heap.size) (p := ⟨p.to, p.fr, D⟩) (((O5.out.alloc (.cells #[.int .u64 p.to, .int .u64 p.fr, .string D] 30)).alloc (.cells #[] 30)).drew) hgrow (fun j e => by have h1 := oA.out.lt j e; have h2 := O5.out.box.lt; omega)); have L3 := Lib.hid (show Box w3 w5.heap.size ⟨p.to, p.fr, D⟩ from (hgrow.block w5.heap.size lA.out.lt (fun e => absurd (Option.some.inj (show some w5.heap.size = some (w5.heap.size + 1) from e)) (by omega))).trans lA.out); have O35 := Lib.hid (show w5.heap.size ≤ w3.heap.size from Nat.le_trans (by simp; try omega) hgrow.size); clear hown3 hgrow; obtain ⟨v3a, c3, rfl⟩ := slice_form hown3x.out)
        | (refine step_append_any16 _ rfl (.tmp 53) (.tmp 54) 22 rfl w5.heap.size 30 i0 (.agg #[.int .u64 0, .int .u64 0, .string ⟨#[]⟩]) 3 32 Try.underlying22 hi hz0 hz1 hz2 rfl (by decide) _ 0 [] (by simp [Act.eval]) oB.out sa l.length c (Pk_.flat l) (by simp [Act.eval]) (flat_len l) HNN.out sB.out.news (flat_ones l) HML.out HMB.out (by simp <;> omega) ?_; intro v3 w3 hown3 hgrow; clear hi hz0 hz1 hz2; have hown3x := Lib.hid (show w3.ownsRow w5.heap.size 30 3 v3 l.length (Pk_.flat l) by simpa using hown3); have O3x := Lib.hid (Oc.grown (w := W) (g := W.heap.size) (p := ⟨p.to, p.fr, D⟩) (((O5.out.alloc (.cells #[] 30)).alloc (.cells #[.int .u64 p.to, .int .u64 p.fr, .string D] 30)).drew) hgrow (fun j e => by have h1 := oB.out.lt j e; have h2 := O5.out.box.lt; omega)); have L3 := Lib.hid (show Box w3 (w5.heap.size + 1) ⟨p.to, p.fr, D⟩ from (hgrow.block (w5.heap.size + 1) lB.out.lt (fun e => absurd (Option.some.inj (show some (w5.heap.size + 1) = some w5.heap.size from e)) (by omega))).trans lB.out); have O35 := Lib.hid (show w5.heap.size ≤ w3.heap.size from Nat.le_trans (by simp; try omega) hgrow.size); clear hown3 hgrow; obtain ⟨v3a, c3, rfl⟩ := slice_form hown3x.out)
        | (refine step_append_any16 _ rfl (.tmp 53) (.tmp 54) 22 rfl w5.heap.size 30 i0 (.agg #[.int .u64 0, .int .u64 0, .string ⟨#[]⟩]) 3 32 Try.underlying22 hi hz0 hz1 hz2 rfl (by decide) _ 0 [] (by simp [Act.eval]) oC.out sa l.length c (Pk_.flat l) (by simp [Act.eval]) (flat_len l) HNN.out sC.out.news (flat_ones l) HML.out HMB.out (by simp <;> omega) ?_; intro v3 w3 hown3 hgrow; clear hi hz0 hz1 hz2; have hown3x := Lib.hid (show w3.ownsRow w5.heap.size 30 3 v3 l.length (Pk_.flat l) by simpa using hown3); have O3x := Lib.hid (Oc.grown (w := W) (g := W.heap.size) (p := ⟨p.to, p.fr, D⟩) ((O5.out.alloc (.cells #[] 30)).drew) hgrow (fun j e => by have h1 := oC.out.lt j e; have h2 := O5.out.box.lt; omega)); have L3c := Lib.hid (show Box (w3.alloc (.cells #[.int .u64 p.to, .int .u64 p.fr, .string D] 30)) w3.heap.size ⟨p.to, p.fr, D⟩ from Box.new w3 ⟨p.to, p.fr, D⟩ rfl); have O35 := Lib.hid (show w5.heap.size ≤ w3.heap.size from Nat.le_trans (by simp; try omega) hgrow.size); clear hown3 hgrow; obtain ⟨v3a, c3, rfl⟩ := slice_form hown3x.out)
      refine hK.out _ _ ?_ (fun hHeld => ?_)
      · first | exact O6.out.lim | exact O3x.out.lim | exact (O3x.out.alloc _).lim | exact O5.out.drew.lim | exact (O5.out.alloc _).drew.lim | exact ((O5.out.alloc _).alloc _).drew.lim
      clear hK K
      try simp only [Act.put, List.setIfInBounds_toArray, List.set_cons_zero, List.set_cons_succ]
      refine wpAnyH_ready (rs := [4]) (by kernel_rfl) (by simp) ?_
      refine AllReadyH.cons (o := { dst := some 57, op := Op.buildSlice 22 1 #[(0, Operand.tmp 56)], type := 22, pos := "law.go:99", after := #[{ on := 3, ground := Ground.data }], guard := none }) rfl (fun K hK => ?_) ?_
      · clear hHeld
        go_simp
        refine hK.out _ _ ?_ (fun hHeld => ?_)
        · first | exact O6.out.lim | exact O3x.out.lim | exact (O3x.out.alloc _).lim | exact O5.out.drew.lim | exact (O5.out.alloc _).drew.lim | exact ((O5.out.alloc _).alloc _).drew.lim
        clear hK K
        try simp only [Act.put, List.setIfInBounds_toArray, List.set_cons_zero, List.set_cons_succ]
        refine wpAnyH_ready (rs := [5]) (by kernel_rfl) (by simp) ?_
        refine AllReadyH.cons (o := { dst := some 58, op := Op.call { callee := Callee.builtin Builtin.append, args := #[Operand.tmp 55, Operand.tmp 57], argTypes := #[22, 22] }, type := 22, pos := "law.go:99", after := #[{ on := 2, ground := Ground.data }, { on := 4, ground := Ground.data }, { on := 2, ground := Ground.chain }], guard := none }) rfl (fun K hK => ?_) ?_
        · clear hHeld
          obtain ⟨i0, hi, hz0, hz1, hz2⟩ := HI.out
          first
            | (refine step_append_any16 _ rfl (.tmp 55) (.tmp 57) 22 rfl w5.heap.size 30 i0 (.agg #[.int .u64 0, .int .u64 0, .string ⟨#[]⟩]) 3 32 Try.underlying22 hi hz0 hz1 hz2 rfl (by decide) _ l.length (Pk_.flat l) (by simp [Act.eval]) hown3x.out (some ⟨w5.heap.size, 0, none⟩) 1 1 [.int .u64 p.to, .int .u64 p.fr, .string D] (by simp [Act.eval]) rfl (fun e => by cases e) (fun ad e => by injection e with e; subst e; exact World.news_of_block L3.out) (flat_one ⟨p.to, p.fr, D⟩) HML1.out HMB1.out (Nat.le_trans O35.out (Nat.le_refl _)) ?_; intro v6 w6 hown6 hgrow6; clear hi hz0 hz1 hz2; have O6 := Lib.hid (Oc.grown (w := W) (g := W.heap.size) (p := ⟨p.to, p.fr, D⟩) (O3x.out) hgrow6 (fun j e => by have h1 := (hown3x.out).lt j e; have h2 := O5.out.box.lt; omega)); have hown6x := Lib.hid (show w6.ownsRow w5.heap.size 30 3 v6 (l.length + 1) (Pk_.flat (l ++ [⟨p.to, p.fr, D⟩])) by rw [flat_snoc]; exact hown6); clear hown6 hgrow6; obtain ⟨g6, c6, rfl, hg6⟩ := own_form hown6x.out; have HG6 := Lib.hid hg6; clear hg6)
            | (refine step_append_any16 _ rfl (.tmp 55) (.tmp 57) 22 rfl w5.heap.size 30 i0 (.agg #[.int .u64 0, .int .u64 0, .string ⟨#[]⟩]) 3 32 Try.underlying22 hi hz0 hz1 hz2 rfl (by decide) _ l.length (Pk_.flat l) (by simp [Act.eval]) hown3x.out (some ⟨(w5.heap.size + 1), 0, none⟩) 1 1 [.int .u64 p.to, .int .u64 p.fr, .string D] (by simp [Act.eval]) rfl (fun e => by cases e) (fun ad e => by injection e with e; subst e; exact World.news_of_block L3.out) (flat_one ⟨p.to, p.fr, D⟩) HML1.out HMB1.out (Nat.le_trans O35.out (Nat.le_refl _)) ?_; intro v6 w6 hown6 hgrow6; clear hi hz0 hz1 hz2; have O6 := Lib.hid (Oc.grown (w := W) (g := W.heap.size) (p := ⟨p.to, p.fr, D⟩) (O3x.out) hgrow6 (fun j e => by have h1 := (hown3x.out).lt j e; have h2 := O5.out.box.lt; omega)); have hown6x := Lib.hid (show w6.ownsRow w5.heap.size 30 3 v6 (l.length + 1) (Pk_.flat (l ++ [⟨p.to, p.fr, D⟩])) by rw [flat_snoc]; exact hown6); clear hown6 hgrow6; obtain ⟨g6, c6, rfl, hg6⟩ := own_form hown6x.out; have HG6 := Lib.hid hg6; clear hg6)
            | (refine step_append_any16 _ rfl (.tmp 55) (.tmp 57) 22 rfl w5.heap.size 30 i0 (.agg #[.int .u64 0, .int .u64 0, .string ⟨#[]⟩]) 3 32 Try.underlying22 hi hz0 hz1 hz2 rfl (by decide) _ l.length (Pk_.flat l) (by simp [Act.eval]) (hown3x.out.alloc (.cells #[.int .u64 p.to, .int .u64 p.fr, .string D] 30)) (some ⟨w3.heap.size, 0, none⟩) 1 1 [.int .u64 p.to, .int .u64 p.fr, .string D] (by simp [Act.eval]) rfl (fun e => by cases e) (fun ad e => by injection e with e; subst e; exact World.news_of_block L3c.out) (flat_one ⟨p.to, p.fr, D⟩) HML1.out HMB1.out (Nat.le_trans O35.out (by simp)) ?_; intro v6 w6 hown6 hgrow6; clear hi hz0 hz1 hz2; have O6 := Lib.hid (Oc.grown (w := W) (g := W.heap.size) (p := ⟨p.to, p.fr, D⟩) (O3x.out.alloc (.cells #[.int .u64 p.to, .int .u64 p.fr, .string D] 30)) hgrow6 (fun j e => by have h1 := ((hown3x.out.alloc (.cells #[.int .u64 p.to, .int .u64 p.fr, .string D] 30))).lt j e; have h2 := O5.out.box.lt; omega)); have hown6x := Lib.hid (show w6.ownsRow w5.heap.size 30 3 v6 (l.length + 1) (Pk_.flat (l ++ [⟨p.to, p.fr, D⟩])) by rw [flat_snoc]; exact hown6); clear hown6 hgrow6; obtain ⟨g6, c6, rfl, hg6⟩ := own_form hown6x.out; have HG6 := Lib.hid hg6; clear hg6)
          refine hK.out _ _ ?_ (fun hHeld => ?_)
          · first | exact O6.out.lim | exact O3x.out.lim | exact (O3x.out.alloc _).lim | exact O5.out.drew.lim | exact (O5.out.alloc _).drew.lim | exact ((O5.out.alloc _).alloc _).drew.lim
          clear hK K
          try simp only [Act.put, List.setIfInBounds_toArray, List.set_cons_zero, List.set_cons_succ]
          refine wpAnyH_take (i := 6) (oi := { dst := some 8, op := Op.assign (Operand.tmp 58), type := 22, pos := "law.go:99", after := #[{ on := 5, ground := Ground.data }, { on := 5, ground := Ground.chain }, { on := 0, ground := Ground.phase }, { on := 1, ground := Ground.phase }, { on := 2, ground := Ground.phase }, { on := 3, ground := Ground.phase }, { on := 4, ground := Ground.phase }, { on := 5, ground := Ground.phase }], guard := none }) (v := ?v3) rfl (by kernel_rfl) (by kernel_rfl) (by kernel_rfl) (fun _ _ _ h => h) (Or.inl ⟨by rfl, ?y3⟩) hHeld ?r3
          case y3 => (intro w hSw; (try dsimp only at hSw); go_simp; try with_reducible rfl)
          try simp only [Act.put, List.setIfInBounds_toArray, List.set_cons_zero, List.set_cons_succ]
          refine wpAnyH_done (by kernel_rfl) ?_ _
          go_wp2_with (first
            | (go_at_call 12; with_reducible refine (E2.out _ _ _ _ hown8.out).mono ?_; rintro e w9 ⟨rfl, hb⟩; have B9 := Lib.hid (B8.out.trans (hb.mono B8.out.size)); clear hb)
            | (go_at_call 12; refine (E1.out _ _ _ _ hown6x.out).mono ?_; rintro e w7 ⟨rfl, hb⟩; have O7 := Lib.hid (O6.out.keep hb); have hown7 := owns_below16 hown6x.out hb; clear hb; have d7 : w7.cell? ⟨W.heap.size, 2, none⟩ = some (.string D) := O7.out.box.cells.2.2; have lc1 : w7.cell? ⟨g6, l.length * 3 + 2, none⟩ = some (.string D) := (last_cell hown7).1; have lc2 := (last_cell hown7).2; have hown8 := Lib.hid (show (w7.setCell ⟨g6, l.length * 3 + 2, none⟩ (.string D2)).ownsRow w5.heap.size 30 3 (.slice (some ⟨g6, 0, none⟩) (l.length + 1) c6) (l.length + 1) (Pk_.flat (l ++ [⟨p.to, p.fr, D2⟩])) by have hx := (hown7.stored (l.length * 3 + 2) (.string D2)).1; rwa [flat_last] at hx); have B8 := Lib.hid (O7.out.bel.setCell (p := ⟨g6, l.length * 3 + 2, none⟩) (Nat.le_trans (Nat.le_of_lt O5.out.box.lt) HG6.out) (.string D2)); clear hown7)
            | (go_at_call 9; refine (AW.out _).mono ?_; rintro e w10 ⟨rfl, hb⟩; have B10 := Lib.hid (B9.out.trans (hb.mono B9.out.size)); clear hb))
          go_returns
          exact ⟨rfl, B10.out⟩
        exact AllReadyH.nil
      exact AllReadyH.nil
    refine AllReadyH.cons (o := { dst := some 57, op := Op.buildSlice 22 1 #[(0, Operand.tmp 56)], type := 22, pos := "law.go:99", after := #[{ on := 3, ground := Ground.data }], guard := none }) rfl (fun K hK => ?_) ?_
    · clear hHeld
      go_simp
      refine hK.out _ _ ?_ (fun hHeld => ?_)
      · first | exact O6.out.lim | exact O3x.out.lim | exact (O3x.out.alloc _).lim | exact O5.out.drew.lim | exact (O5.out.alloc _).drew.lim | exact ((O5.out.alloc _).alloc _).drew.lim
      clear hK K
      try simp only [Act.put, List.setIfInBounds_toArray, List.set_cons_zero, List.set_cons_succ]
      refine wpAnyH_ready (rs := [2]) (by kernel_rfl) (by simp) ?_
      refine AllReadyH.cons (o := { dst := some 55, op := Op.call { callee := Callee.builtin Builtin.append, args := #[Operand.tmp 53, Operand.tmp 54], argTypes := #[22, 22] }, type := 22, pos := "law.go:99", after := #[{ on := 0, ground := Ground.data }, { on := 1, ground := Ground.data }], guard := none }) rfl (fun K hK => ?_) ?_
      · clear hHeld
        obtain ⟨i0, hi, hz0, hz1, hz2⟩ := HI.out
        first
          | (refine step_append_any16 _ rfl (.tmp 53) (.tmp 54) 22 rfl w5.heap.size 30 i0 (.agg #[.int .u64 0, .int .u64 0, .string ⟨#[]⟩]) 3 32 Try.underlying22 hi hz0 hz1 hz2 rfl (by decide) _ 0 [] (by simp [Act.eval]) oA.out sa l.length c (Pk_.flat l) (by simp [Act.eval]) (flat_len l) HNN.out sA.out.news (flat_ones l) HML.out HMB.out (by simp <;> omega) ?_; intro v3 w3 hown3 hgrow; clear hi hz0 hz1 hz2; have hown3x := Lib.hid (show w3.ownsRow w5.heap.size 30 3 v3 l.length (Pk_.flat l) by simpa using hown3); have O3x := Lib.hid (Oc.grown (w := W) (g := W.heap.size) (p := ⟨p.to, p.fr, D⟩) (((O5.out.alloc (.cells #[.int .u64 p.to, .int .u64 p.fr, .string D] 30)).alloc (.cells #[] 30)).drew) hgrow (fun j e => by have h1 := oA.out.lt j e; have h2 := O5.out.box.lt; omega)); have L3 := Lib.hid (show Box w3 w5.heap.size ⟨p.to, p.fr, D⟩ from (hgrow.block w5.heap.size lA.out.lt (fun e => absurd (Option.some.inj (show some w5.heap.size = some (w5.heap.size + 1) from e)) (by omega))).trans lA.out); have O35 := Lib.hid (show w5.heap.size ≤ w3.heap.size from Nat.le_trans (by simp; try omega) hgrow.size); clear hown3 hgrow; obtain ⟨v3a, c3, rfl⟩ := slice_form hown3x.out)
          | (refine step_append_any16 _ rfl (.tmp 53) (.tmp 54) 22 rfl w5.heap.size 30 i0 (.agg #[.int .u64 0, .int .u64 0, .string ⟨#[]⟩]) 3 32 Try.underlying22 hi hz0 hz1 hz2 rfl (by decide) _ 0 [] (by simp [Act.eval]) oB.out sa l.length c (Pk_.flat l) (by simp [Act.eval]) (flat_len l) HNN.out sB.out.news (flat_ones l) HML.out HMB.out (by simp <;> omega) ?_; intro v3 w3 hown3 hgrow; clear hi hz0 hz1 hz2; have hown3x := Lib.hid (show w3.ownsRow w5.heap.size 30 3 v3 l.length (Pk_.flat l) by simpa using hown3); have O3x := Lib.hid (Oc.grown (w := W) (g := W.heap.size) (p := ⟨p.to, p.fr, D⟩) (((O5.out.alloc (.cells #[] 30)).alloc (.cells #[.int .u64 p.to, .int .u64 p.fr, .string D] 30)).drew) hgrow (fun j e => by have h1 := oB.out.lt j e; have h2 := O5.out.box.lt; omega)); have L3 := Lib.hid (show Box w3 (w5.heap.size + 1) ⟨p.to, p.fr, D⟩ from (hgrow.block (w5.heap.size + 1) lB.out.lt (fun e => absurd (Option.some.inj (show some (w5.heap.size + 1) = some w5.heap.size from e)) (by omega))).trans lB.out); have O35 := Lib.hid (show w5.heap.size ≤ w3.heap.size from Nat.le_trans (by simp; try omega) hgrow.size); clear hown3 hgrow; obtain ⟨v3a, c3, rfl⟩ := slice_form hown3x.out)
          | (refine step_append_any16 _ rfl (.tmp 53) (.tmp 54) 22 rfl w5.heap.size 30 i0 (.agg #[.int .u64 0, .int .u64 0, .string ⟨#[]⟩]) 3 32 Try.underlying22 hi hz0 hz1 hz2 rfl (by decide) _ 0 [] (by simp [Act.eval]) oC.out sa l.length c (Pk_.flat l) (by simp [Act.eval]) (flat_len l) HNN.out sC.out.news (flat_ones l) HML.out HMB.out (by simp <;> omega) ?_; intro v3 w3 hown3 hgrow; clear hi hz0 hz1 hz2; have hown3x := Lib.hid (show w3.ownsRow w5.heap.size 30 3 v3 l.length (Pk_.flat l) by simpa using hown3); have O3x := Lib.hid (Oc.grown (w := W) (g := W.heap.size) (p := ⟨p.to, p.fr, D⟩) ((O5.out.alloc (.cells #[] 30)).drew) hgrow (fun j e => by have h1 := oC.out.lt j e; have h2 := O5.out.box.lt; omega)); have L3c := Lib.hid (show Box (w3.alloc (.cells #[.int .u64 p.to, .int .u64 p.fr, .string D] 30)) w3.heap.size ⟨p.to, p.fr, D⟩ from Box.new w3 ⟨p.to, p.fr, D⟩ rfl); have O35 := Lib.hid (show w5.heap.size ≤ w3.heap.size from Nat.le_trans (by simp; try omega) hgrow.size); clear hown3 hgrow; obtain ⟨v3a, c3, rfl⟩ := slice_form hown3x.out)
        refine hK.out _ _ ?_ (fun hHeld => ?_)
        · first | exact O6.out.lim | exact O3x.out.lim | exact (O3x.out.alloc _).lim | exact O5.out.drew.lim | exact (O5.out.alloc _).drew.lim | exact ((O5.out.alloc _).alloc _).drew.lim
        clear hK K
        try simp only [Act.put, List.setIfInBounds_toArray, List.set_cons_zero, List.set_cons_succ]
        refine wpAnyH_ready (rs := [5]) (by kernel_rfl) (by simp) ?_
        refine AllReadyH.cons (o := { dst := some 58, op := Op.call { callee := Callee.builtin Builtin.append, args := #[Operand.tmp 55, Operand.tmp 57], argTypes := #[22, 22] }, type := 22, pos := "law.go:99", after := #[{ on := 2, ground := Ground.data }, { on := 4, ground := Ground.data }, { on := 2, ground := Ground.chain }], guard := none }) rfl (fun K hK => ?_) ?_
        · clear hHeld
          obtain ⟨i0, hi, hz0, hz1, hz2⟩ := HI.out
          first
            | (refine step_append_any16 _ rfl (.tmp 55) (.tmp 57) 22 rfl w5.heap.size 30 i0 (.agg #[.int .u64 0, .int .u64 0, .string ⟨#[]⟩]) 3 32 Try.underlying22 hi hz0 hz1 hz2 rfl (by decide) _ l.length (Pk_.flat l) (by simp [Act.eval]) hown3x.out (some ⟨w5.heap.size, 0, none⟩) 1 1 [.int .u64 p.to, .int .u64 p.fr, .string D] (by simp [Act.eval]) rfl (fun e => by cases e) (fun ad e => by injection e with e; subst e; exact World.news_of_block L3.out) (flat_one ⟨p.to, p.fr, D⟩) HML1.out HMB1.out (Nat.le_trans O35.out (Nat.le_refl _)) ?_; intro v6 w6 hown6 hgrow6; clear hi hz0 hz1 hz2; have O6 := Lib.hid (Oc.grown (w := W) (g := W.heap.size) (p := ⟨p.to, p.fr, D⟩) (O3x.out) hgrow6 (fun j e => by have h1 := (hown3x.out).lt j e; have h2 := O5.out.box.lt; omega)); have hown6x := Lib.hid (show w6.ownsRow w5.heap.size 30 3 v6 (l.length + 1) (Pk_.flat (l ++ [⟨p.to, p.fr, D⟩])) by rw [flat_snoc]; exact hown6); clear hown6 hgrow6; obtain ⟨g6, c6, rfl, hg6⟩ := own_form hown6x.out; have HG6 := Lib.hid hg6; clear hg6)
            | (refine step_append_any16 _ rfl (.tmp 55) (.tmp 57) 22 rfl w5.heap.size 30 i0 (.agg #[.int .u64 0, .int .u64 0, .string ⟨#[]⟩]) 3 32 Try.underlying22 hi hz0 hz1 hz2 rfl (by decide) _ l.length (Pk_.flat l) (by simp [Act.eval]) hown3x.out (some ⟨(w5.heap.size + 1), 0, none⟩) 1 1 [.int .u64 p.to, .int .u64 p.fr, .string D] (by simp [Act.eval]) rfl (fun e => by cases e) (fun ad e => by injection e with e; subst e; exact World.news_of_block L3.out) (flat_one ⟨p.to, p.fr, D⟩) HML1.out HMB1.out (Nat.le_trans O35.out (Nat.le_refl _)) ?_; intro v6 w6 hown6 hgrow6; clear hi hz0 hz1 hz2; have O6 := Lib.hid (Oc.grown (w := W) (g := W.heap.size) (p := ⟨p.to, p.fr, D⟩) (O3x.out) hgrow6 (fun j e => by have h1 := (hown3x.out).lt j e; have h2 := O5.out.box.lt; omega)); have hown6x := Lib.hid (show w6.ownsRow w5.heap.size 30 3 v6 (l.length + 1) (Pk_.flat (l ++ [⟨p.to, p.fr, D⟩])) by rw [flat_snoc]; exact hown6); clear hown6 hgrow6; obtain ⟨g6, c6, rfl, hg6⟩ := own_form hown6x.out; have HG6 := Lib.hid hg6; clear hg6)
            | (refine step_append_any16 _ rfl (.tmp 55) (.tmp 57) 22 rfl w5.heap.size 30 i0 (.agg #[.int .u64 0, .int .u64 0, .string ⟨#[]⟩]) 3 32 Try.underlying22 hi hz0 hz1 hz2 rfl (by decide) _ l.length (Pk_.flat l) (by simp [Act.eval]) (hown3x.out.alloc (.cells #[.int .u64 p.to, .int .u64 p.fr, .string D] 30)) (some ⟨w3.heap.size, 0, none⟩) 1 1 [.int .u64 p.to, .int .u64 p.fr, .string D] (by simp [Act.eval]) rfl (fun e => by cases e) (fun ad e => by injection e with e; subst e; exact World.news_of_block L3c.out) (flat_one ⟨p.to, p.fr, D⟩) HML1.out HMB1.out (Nat.le_trans O35.out (by simp)) ?_; intro v6 w6 hown6 hgrow6; clear hi hz0 hz1 hz2; have O6 := Lib.hid (Oc.grown (w := W) (g := W.heap.size) (p := ⟨p.to, p.fr, D⟩) (O3x.out.alloc (.cells #[.int .u64 p.to, .int .u64 p.fr, .string D] 30)) hgrow6 (fun j e => by have h1 := ((hown3x.out.alloc (.cells #[.int .u64 p.to, .int .u64 p.fr, .string D] 30))).lt j e; have h2 := O5.out.box.lt; omega)); have hown6x := Lib.hid (show w6.ownsRow w5.heap.size 30 3 v6 (l.length + 1) (Pk_.flat (l ++ [⟨p.to, p.fr, D⟩])) by rw [flat_snoc]; exact hown6); clear hown6 hgrow6; obtain ⟨g6, c6, rfl, hg6⟩ := own_form hown6x.out; have HG6 := Lib.hid hg6; clear hg6)
          refine hK.out _ _ ?_ (fun hHeld => ?_)
          · first | exact O6.out.lim | exact O3x.out.lim | exact (O3x.out.alloc _).lim | exact O5.out.drew.lim | exact (O5.out.alloc _).drew.lim | exact ((O5.out.alloc _).alloc _).drew.lim
          clear hK K
          try simp only [Act.put, List.setIfInBounds_toArray, List.set_cons_zero, List.set_cons_succ]
          refine wpAnyH_take (i := 6) (oi := { dst := some 8, op := Op.assign (Operand.tmp 58), type := 22, pos := "law.go:99", after := #[{ on := 5, ground := Ground.data }, { on := 5, ground := Ground.chain }, { on := 0, ground := Ground.phase }, { on := 1, ground := Ground.phase }, { on := 2, ground := Ground.phase }, { on := 3, ground := Ground.phase }, { on := 4, ground := Ground.phase }, { on := 5, ground := Ground.phase }], guard := none }) (v := ?v4) rfl (by kernel_rfl) (by kernel_rfl) (by kernel_rfl) (fun _ _ _ h => h) (Or.inl ⟨by rfl, ?y4⟩) hHeld ?r4
          case y4 => (intro w hSw; (try dsimp only at hSw); go_simp; try with_reducible rfl)
          try simp only [Act.put, List.setIfInBounds_toArray, List.set_cons_zero, List.set_cons_succ]
          refine wpAnyH_done (by kernel_rfl) ?_ _
          go_wp2_with (first
            | (go_at_call 12; with_reducible refine (E2.out _ _ _ _ hown8.out).mono ?_; rintro e w9 ⟨rfl, hb⟩; have B9 := Lib.hid (B8.out.trans (hb.mono B8.out.size)); clear hb)
            | (go_at_call 12; refine (E1.out _ _ _ _ hown6x.out).mono ?_; rintro e w7 ⟨rfl, hb⟩; have O7 := Lib.hid (O6.out.keep hb); have hown7 := owns_below16 hown6x.out hb; clear hb; have d7 : w7.cell? ⟨W.heap.size, 2, none⟩ = some (.string D) := O7.out.box.cells.2.2; have lc1 : w7.cell? ⟨g6, l.length * 3 + 2, none⟩ = some (.string D) := (last_cell hown7).1; have lc2 := (last_cell hown7).2; have hown8 := Lib.hid (show (w7.setCell ⟨g6, l.length * 3 + 2, none⟩ (.string D2)).ownsRow w5.heap.size 30 3 (.slice (some ⟨g6, 0, none⟩) (l.length + 1) c6) (l.length + 1) (Pk_.flat (l ++ [⟨p.to, p.fr, D2⟩])) by have hx := (hown7.stored (l.length * 3 + 2) (.string D2)).1; rwa [flat_last] at hx); have B8 := Lib.hid (O7.out.bel.setCell (p := ⟨g6, l.length * 3 + 2, none⟩) (Nat.le_trans (Nat.le_of_lt O5.out.box.lt) HG6.out) (.string D2)); clear hown7)
            | (go_at_call 9; refine (AW.out _).mono ?_; rintro e w10 ⟨rfl, hb⟩; have B10 := Lib.hid (B9.out.trans (hb.mono B9.out.size)); clear hb))
          go_returns
          exact ⟨rfl, B10.out⟩
        exact AllReadyH.nil
      exact AllReadyH.nil
    exact AllReadyH.nil
  refine AllReadyH.cons (o := { dst := some 57, op := Op.buildSlice 22 1 #[(0, Operand.tmp 56)], type := 22, pos := "law.go:99", after := #[{ on := 3, ground := Ground.data }], guard := none }) rfl (fun K hK => ?_) ?_
  · clear hHeld
    go_simp
    refine hK.out _ _ ?_ (fun hHeld => ?_)
    · first | exact O6.out.lim | exact O3x.out.lim | exact (O3x.out.alloc _).lim | exact O5.out.drew.lim | exact (O5.out.alloc _).drew.lim | exact ((O5.out.alloc _).alloc _).drew.lim
    clear hK K
    try simp only [Act.put, List.setIfInBounds_toArray, List.set_cons_zero, List.set_cons_succ]
    refine wpAnyH_ready (rs := [0]) (by kernel_rfl) (by simp) ?_
    refine AllReadyH.cons (o := { dst := some 53, op := Op.buildSlice 22 0 #[], type := 22, pos := "law.go:99", after := #[], guard := none }) rfl (fun K hK => ?_) ?_
    · clear hHeld
      go_simp
      refine hK.out _ _ ?_ (fun hHeld => ?_)
      · first | exact O6.out.lim | exact O3x.out.lim | exact (O3x.out.alloc _).lim | exact O5.out.drew.lim | exact (O5.out.alloc _).drew.lim | exact ((O5.out.alloc _).alloc _).drew.lim
      clear hK K
      try simp only [Act.put, List.setIfInBounds_toArray, List.set_cons_zero, List.set_cons_succ]
      refine wpAnyH_ready (rs := [2]) (by kernel_rfl) (by simp) ?_
      refine AllReadyH.cons (o := { dst := some 55, op := Op.call { callee := Callee.builtin Builtin.append, args := #[Operand.tmp 53, Operand.tmp 54], argTypes := #[22, 22] }, type := 22, pos := "law.go:99", after := #[{ on := 0, ground := Ground.data }, { on := 1, ground := Ground.data }], guard := none }) rfl (fun K hK => ?_) ?_
      · clear hHeld
        obtain ⟨i0, hi, hz0, hz1, hz2⟩ := HI.out
        first
          | (refine step_append_any16 _ rfl (.tmp 53) (.tmp 54) 22 rfl w5.heap.size 30 i0 (.agg #[.int .u64 0, .int .u64 0, .string ⟨#[]⟩]) 3 32 Try.underlying22 hi hz0 hz1 hz2 rfl (by decide) _ 0 [] (by simp [Act.eval]) oA.out sa l.length c (Pk_.flat l) (by simp [Act.eval]) (flat_len l) HNN.out sA.out.news (flat_ones l) HML.out HMB.out (by simp <;> omega) ?_; intro v3 w3 hown3 hgrow; clear hi hz0 hz1 hz2; have hown3x := Lib.hid (show w3.ownsRow w5.heap.size 30 3 v3 l.length (Pk_.flat l) by simpa using hown3); have O3x := Lib.hid (Oc.grown (w := W) (g := W.heap.size) (p := ⟨p.to, p.fr, D⟩) (((O5.out.alloc (.cells #[.int .u64 p.to, .int .u64 p.fr, .string D] 30)).alloc (.cells #[] 30)).drew) hgrow (fun j e => by have h1 := oA.out.lt j e; have h2 := O5.out.box.lt; omega)); have L3 := Lib.hid (show Box w3 w5.heap.size ⟨p.to, p.fr, D⟩ from (hgrow.block w5.heap.size lA.out.lt (fun e => absurd (Option.some.inj (show some w5.heap.size = some (w5.heap.size + 1) from e)) (by omega))).trans lA.out); have O35 := Lib.hid (show w5.heap.size ≤ w3.heap.size from Nat.le_trans (by simp; try omega) hgrow.size); clear hown3 hgrow; obtain ⟨v3a, c3, rfl⟩ := slice_form hown3x.out)
          | (refine step_append_any16 _ rfl (.tmp 53) (.tmp 54) 22 rfl w5.heap.size 30 i0 (.agg #[.int .u64 0, .int .u64 0, .string ⟨#[]⟩]) 3 32 Try.underlying22 hi hz0 hz1 hz2 rfl (by decide) _ 0 [] (by simp [Act.eval]) oB.out sa l.length c (Pk_.flat l) (by simp [Act.eval]) (flat_len l) HNN.out sB.out.news (flat_ones l) HML.out HMB.out (by simp <;> omega) ?_; intro v3 w3 hown3 hgrow; clear hi hz0 hz1 hz2; have hown3x := Lib.hid (show w3.ownsRow w5.heap.size 30 3 v3 l.length (Pk_.flat l) by simpa using hown3); have O3x := Lib.hid (Oc.grown (w := W) (g := W.heap.size) (p := ⟨p.to, p.fr, D⟩) (((O5.out.alloc (.cells #[] 30)).alloc (.cells #[.int .u64 p.to, .int .u64 p.fr, .string D] 30)).drew) hgrow (fun j e => by have h1 := oB.out.lt j e; have h2 := O5.out.box.lt; omega)); have L3 := Lib.hid (show Box w3 (w5.heap.size + 1) ⟨p.to, p.fr, D⟩ from (hgrow.block (w5.heap.size + 1) lB.out.lt (fun e => absurd (Option.some.inj (show some (w5.heap.size + 1) = some w5.heap.size from e)) (by omega))).trans lB.out); have O35 := Lib.hid (show w5.heap.size ≤ w3.heap.size from Nat.le_trans (by simp; try omega) hgrow.size); clear hown3 hgrow; obtain ⟨v3a, c3, rfl⟩ := slice_form hown3x.out)
          | (refine step_append_any16 _ rfl (.tmp 53) (.tmp 54) 22 rfl w5.heap.size 30 i0 (.agg #[.int .u64 0, .int .u64 0, .string ⟨#[]⟩]) 3 32 Try.underlying22 hi hz0 hz1 hz2 rfl (by decide) _ 0 [] (by simp [Act.eval]) oC.out sa l.length c (Pk_.flat l) (by simp [Act.eval]) (flat_len l) HNN.out sC.out.news (flat_ones l) HML.out HMB.out (by simp <;> omega) ?_; intro v3 w3 hown3 hgrow; clear hi hz0 hz1 hz2; have hown3x := Lib.hid (show w3.ownsRow w5.heap.size 30 3 v3 l.length (Pk_.flat l) by simpa using hown3); have O3x := Lib.hid (Oc.grown (w := W) (g := W.heap.size) (p := ⟨p.to, p.fr, D⟩) ((O5.out.alloc (.cells #[] 30)).drew) hgrow (fun j e => by have h1 := oC.out.lt j e; have h2 := O5.out.box.lt; omega)); have L3c := Lib.hid (show Box (w3.alloc (.cells #[.int .u64 p.to, .int .u64 p.fr, .string D] 30)) w3.heap.size ⟨p.to, p.fr, D⟩ from Box.new w3 ⟨p.to, p.fr, D⟩ rfl); have O35 := Lib.hid (show w5.heap.size ≤ w3.heap.size from Nat.le_trans (by simp; try omega) hgrow.size); clear hown3 hgrow; obtain ⟨v3a, c3, rfl⟩ := slice_form hown3x.out)
        refine hK.out _ _ ?_ (fun hHeld => ?_)
        · first | exact O6.out.lim | exact O3x.out.lim | exact (O3x.out.alloc _).lim | exact O5.out.drew.lim | exact (O5.out.alloc _).drew.lim | exact ((O5.out.alloc _).alloc _).drew.lim
        clear hK K
        try simp only [Act.put, List.setIfInBounds_toArray, List.set_cons_zero, List.set_cons_succ]
        refine wpAnyH_ready (rs := [5]) (by kernel_rfl) (by simp) ?_
        refine AllReadyH.cons (o := { dst := some 58, op := Op.call { callee := Callee.builtin Builtin.append, args := #[Operand.tmp 55, Operand.tmp 57], argTypes := #[22, 22] }, type := 22, pos := "law.go:99", after := #[{ on := 2, ground := Ground.data }, { on := 4, ground := Ground.data }, { on := 2, ground := Ground.chain }], guard := none }) rfl (fun K hK => ?_) ?_
        · clear hHeld
          obtain ⟨i0, hi, hz0, hz1, hz2⟩ := HI.out
          first
            | (refine step_append_any16 _ rfl (.tmp 55) (.tmp 57) 22 rfl w5.heap.size 30 i0 (.agg #[.int .u64 0, .int .u64 0, .string ⟨#[]⟩]) 3 32 Try.underlying22 hi hz0 hz1 hz2 rfl (by decide) _ l.length (Pk_.flat l) (by simp [Act.eval]) hown3x.out (some ⟨w5.heap.size, 0, none⟩) 1 1 [.int .u64 p.to, .int .u64 p.fr, .string D] (by simp [Act.eval]) rfl (fun e => by cases e) (fun ad e => by injection e with e; subst e; exact World.news_of_block L3.out) (flat_one ⟨p.to, p.fr, D⟩) HML1.out HMB1.out (Nat.le_trans O35.out (Nat.le_refl _)) ?_; intro v6 w6 hown6 hgrow6; clear hi hz0 hz1 hz2; have O6 := Lib.hid (Oc.grown (w := W) (g := W.heap.size) (p := ⟨p.to, p.fr, D⟩) (O3x.out) hgrow6 (fun j e => by have h1 := (hown3x.out).lt j e; have h2 := O5.out.box.lt; omega)); have hown6x := Lib.hid (show w6.ownsRow w5.heap.size 30 3 v6 (l.length + 1) (Pk_.flat (l ++ [⟨p.to, p.fr, D⟩])) by rw [flat_snoc]; exact hown6); clear hown6 hgrow6; obtain ⟨g6, c6, rfl, hg6⟩ := own_form hown6x.out; have HG6 := Lib.hid hg6; clear hg6)
            | (refine step_append_any16 _ rfl (.tmp 55) (.tmp 57) 22 rfl w5.heap.size 30 i0 (.agg #[.int .u64 0, .int .u64 0, .string ⟨#[]⟩]) 3 32 Try.underlying22 hi hz0 hz1 hz2 rfl (by decide) _ l.length (Pk_.flat l) (by simp [Act.eval]) hown3x.out (some ⟨(w5.heap.size + 1), 0, none⟩) 1 1 [.int .u64 p.to, .int .u64 p.fr, .string D] (by simp [Act.eval]) rfl (fun e => by cases e) (fun ad e => by injection e with e; subst e; exact World.news_of_block L3.out) (flat_one ⟨p.to, p.fr, D⟩) HML1.out HMB1.out (Nat.le_trans O35.out (Nat.le_refl _)) ?_; intro v6 w6 hown6 hgrow6; clear hi hz0 hz1 hz2; have O6 := Lib.hid (Oc.grown (w := W) (g := W.heap.size) (p := ⟨p.to, p.fr, D⟩) (O3x.out) hgrow6 (fun j e => by have h1 := (hown3x.out).lt j e; have h2 := O5.out.box.lt; omega)); have hown6x := Lib.hid (show w6.ownsRow w5.heap.size 30 3 v6 (l.length + 1) (Pk_.flat (l ++ [⟨p.to, p.fr, D⟩])) by rw [flat_snoc]; exact hown6); clear hown6 hgrow6; obtain ⟨g6, c6, rfl, hg6⟩ := own_form hown6x.out; have HG6 := Lib.hid hg6; clear hg6)
            | (refine step_append_any16 _ rfl (.tmp 55) (.tmp 57) 22 rfl w5.heap.size 30 i0 (.agg #[.int .u64 0, .int .u64 0, .string ⟨#[]⟩]) 3 32 Try.underlying22 hi hz0 hz1 hz2 rfl (by decide) _ l.length (Pk_.flat l) (by simp [Act.eval]) (hown3x.out.alloc (.cells #[.int .u64 p.to, .int .u64 p.fr, .string D] 30)) (some ⟨w3.heap.size, 0, none⟩) 1 1 [.int .u64 p.to, .int .u64 p.fr, .string D] (by simp [Act.eval]) rfl (fun e => by cases e) (fun ad e => by injection e with e; subst e; exact World.news_of_block L3c.out) (flat_one ⟨p.to, p.fr, D⟩) HML1.out HMB1.out (Nat.le_trans O35.out (by simp)) ?_; intro v6 w6 hown6 hgrow6; clear hi hz0 hz1 hz2; have O6 := Lib.hid (Oc.grown (w := W) (g := W.heap.size) (p := ⟨p.to, p.fr, D⟩) (O3x.out.alloc (.cells #[.int .u64 p.to, .int .u64 p.fr, .string D] 30)) hgrow6 (fun j e => by have h1 := ((hown3x.out.alloc (.cells #[.int .u64 p.to, .int .u64 p.fr, .string D] 30))).lt j e; have h2 := O5.out.box.lt; omega)); have hown6x := Lib.hid (show w6.ownsRow w5.heap.size 30 3 v6 (l.length + 1) (Pk_.flat (l ++ [⟨p.to, p.fr, D⟩])) by rw [flat_snoc]; exact hown6); clear hown6 hgrow6; obtain ⟨g6, c6, rfl, hg6⟩ := own_form hown6x.out; have HG6 := Lib.hid hg6; clear hg6)
          refine hK.out _ _ ?_ (fun hHeld => ?_)
          · first | exact O6.out.lim | exact O3x.out.lim | exact (O3x.out.alloc _).lim | exact O5.out.drew.lim | exact (O5.out.alloc _).drew.lim | exact ((O5.out.alloc _).alloc _).drew.lim
          clear hK K
          try simp only [Act.put, List.setIfInBounds_toArray, List.set_cons_zero, List.set_cons_succ]
          refine wpAnyH_take (i := 6) (oi := { dst := some 8, op := Op.assign (Operand.tmp 58), type := 22, pos := "law.go:99", after := #[{ on := 5, ground := Ground.data }, { on := 5, ground := Ground.chain }, { on := 0, ground := Ground.phase }, { on := 1, ground := Ground.phase }, { on := 2, ground := Ground.phase }, { on := 3, ground := Ground.phase }, { on := 4, ground := Ground.phase }, { on := 5, ground := Ground.phase }], guard := none }) (v := ?v5) rfl (by kernel_rfl) (by kernel_rfl) (by kernel_rfl) (fun _ _ _ h => h) (Or.inl ⟨by rfl, ?y5⟩) hHeld ?r5
          case y5 => (intro w hSw; (try dsimp only at hSw); go_simp; try with_reducible rfl)
          try simp only [Act.put, List.setIfInBounds_toArray, List.set_cons_zero, List.set_cons_succ]
          refine wpAnyH_done (by kernel_rfl) ?_ _
          go_wp2_with (first
            | (go_at_call 12; with_reducible refine (E2.out _ _ _ _ hown8.out).mono ?_; rintro e w9 ⟨rfl, hb⟩; have B9 := Lib.hid (B8.out.trans (hb.mono B8.out.size)); clear hb)
            | (go_at_call 12; refine (E1.out _ _ _ _ hown6x.out).mono ?_; rintro e w7 ⟨rfl, hb⟩; have O7 := Lib.hid (O6.out.keep hb); have hown7 := owns_below16 hown6x.out hb; clear hb; have d7 : w7.cell? ⟨W.heap.size, 2, none⟩ = some (.string D) := O7.out.box.cells.2.2; have lc1 : w7.cell? ⟨g6, l.length * 3 + 2, none⟩ = some (.string D) := (last_cell hown7).1; have lc2 := (last_cell hown7).2; have hown8 := Lib.hid (show (w7.setCell ⟨g6, l.length * 3 + 2, none⟩ (.string D2)).ownsRow w5.heap.size 30 3 (.slice (some ⟨g6, 0, none⟩) (l.length + 1) c6) (l.length + 1) (Pk_.flat (l ++ [⟨p.to, p.fr, D2⟩])) by have hx := (hown7.stored (l.length * 3 + 2) (.string D2)).1; rwa [flat_last] at hx); have B8 := Lib.hid (O7.out.bel.setCell (p := ⟨g6, l.length * 3 + 2, none⟩) (Nat.le_trans (Nat.le_of_lt O5.out.box.lt) HG6.out) (.string D2)); clear hown7)
            | (go_at_call 9; refine (AW.out _).mono ?_; rintro e w10 ⟨rfl, hb⟩; have B10 := Lib.hid (B9.out.trans (hb.mono B9.out.size)); clear hb))
          go_returns
          exact ⟨rfl, B10.out⟩
        exact AllReadyH.nil
      exact AllReadyH.nil
    exact AllReadyH.nil
  exact AllReadyH.nil

set_option maxRecDepth 100000 in
set_option maxHeartbeats 4000000 in
theorem bundleFits_walk1 (l : List Pk) (sa : Option Addr) (c : Nat) (W : World) (h : Sl W sa l c) (hl : l.length ≤ maxLen) (hw : ∀ p ∈ l, PkW p) (p : Pk) (hp : PkW p) :
    Calls Try.prog 7 #[.slice sa l.length c, .agg #[.int .u64 p.to, .int .u64 p.fr, .string p.s]] W fun e w' => e = .returned (.bool true) ∧ Below W.heap.size W w' := by
  have AW := Lib.hid lives16_any
  obtain ⟨w1, hw1⟩ : ∃ w1, W.alloc (.cells #[.int .u64 p.to, .int .u64 p.fr, .string p.s] 30) = w1 := ⟨_, rfl⟩
  have O1 := Lib.hid (show Oc W W.heap.size p w1 by subst hw1; exact ⟨Box.new W p rfl, (Below.refl _ _).alloc (Nat.le_refl _) _⟩)
  have SM := Lib.hid (few16_any l sa c w1 (h.below O1.out.bel).lies hl)
  cases hf : fewB l
  · rw [hf] at SM
    go_enter Try.func7, Try.ntmps7
    go_wp2_with (first
      | (go_at_call 8; refine SM.out.mono ?_; rintro e w' ⟨rfl, rfl⟩)
      | (go_at_call 9; refine (AW.out _).mono ?_; rintro e w6 ⟨rfl, hb⟩; have B6 := Lib.hid (O1.out.bel.trans (hb.mono O1.out.bel.size)); clear hb))
    go_returns
    exact ⟨rfl, B6.out⟩
  by_cases h9 : l.length ≤ 9
  case neg =>
    have h9' : decide ((9 : Int) < (l.length : Int)) = true := decide_eq_true (by omega)
    have h9n : decide (9 < l.length) = true := decide_eq_true (by omega)
    rw [hf] at SM
    go_enter Try.func7, Try.ntmps7
    go_wp2_with (first
      | (go_at_call 8; refine SM.out.mono ?_; rintro e w' ⟨rfl, rfl⟩)
      | (go_at_call 9; refine (AW.out _).mono ?_; rintro e w6 ⟨rfl, hb⟩; have B6 := Lib.hid (O1.out.bel.trans (hb.mono O1.out.bel.size)); clear hb))
    go_returns
    exact ⟨rfl, B6.out⟩
  by_cases hpos : 0 < l.length
  case neg =>
    have h0 : l.length = 0 := by omega
    refine fits_a l sa c W h hl hw p hp hf h9 h0 ?_
    obtain rfl : l = [] := List.length_eq_zero_iff.1 h0
    decide
  by_cases h0 : encE l = 0
  · by_cases hk : 0 ≤ rm (ln 0 l) 2048
    · exact fits_b l sa c W h hl hw p hp hf h9 hpos h0 hk
    · exact fits_c l sa c W h hl hw p hp hf h9 hpos h0 (by omega)
  · rw [hf] at SM
    obtain ⟨hz, h10⟩ := few_sz hf hw
    have CE := Lib.hid (buEncode_any l sa c w1 (h.below O1.out.bel).lies hz)
    have h9' : decide ((9 : Int) < (l.length : Int)) = false := decide_eq_false (by omega)
    have hg1 : decide ((0 : Int) < (l.length : Int)) = true := decide_eq_true (by omega)
    have hg2 : decide (0 < l.length) = true := decide_eq_true (by omega)
    have h0' : (encE l != 0) = true := by rw [bne_iff_ne]; exact h0
    unfold EncPost at CE
    generalize encS l = t at *
    generalize encE l = e0 at *
    clear hz h10 hf hw hl hp h h0 h9
    go_enter Try.func7, Try.ntmps7
    go_wp2_with (first
      | (go_at_call 8; refine SM.out.mono ?_; rintro e w' ⟨rfl, rfl⟩)
      | (go_at_call 12; refine CE.out.mono ?_; rintro e w2 ⟨rfl, hb⟩; have O2 := Lib.hid (O1.out.keep hb); clear hb)
      | (go_at_call 9; refine (AW.out _).mono ?_; rintro e w6 ⟨rfl, hb⟩; have B6 := Lib.hid (O2.out.bel.trans (hb.mono O2.out.bel.size)); clear hb))
    go_returns
    exact ⟨rfl, B6.out⟩
theorem bundleFits_walk0 (l : List Pk) (sa : Option Addr) (c : Nat) {W : World} (h : Sl W sa l c) (hl : l.length ≤ maxLen) (hw : ∀ x ∈ l, (Lit.int .u64 x.to).wf = true ∧ (Lit.int .u64 x.fr).wf = true) (p : Pk) (hp : (Lit.int .u64 p.to).wf = true ∧ (Lit.int .u64 p.fr).wf = true) :
    Calls Try.prog 7 #[.slice sa l.length c, v p] W fun e w' => e = .returned (.bool true) ∧ Below W.heap.size W w' := bundleFits_walk1 l sa c W h hl (fun x hx => pkw (hw x hx)) p (pkw hp)
end Go.Proofs.Ytlkipjpjkiffjaa
