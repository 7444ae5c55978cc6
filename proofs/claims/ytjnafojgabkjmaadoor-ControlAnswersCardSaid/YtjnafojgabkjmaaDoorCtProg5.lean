/-
  WALKS of the landed package control (1e08cd0): ReadRequest, ReadBlock.
-/
import Derived.Test.YtjnafojgabkjmaaDoorCtProg4
import Derived.Laws.BitsAllLaws
namespace Go.Proofs.YtjnafojgabkjmaaDoor
open Go.RowKit Go.Hd Go.Wr Go.Ct
attribute [local go_sem ↓ high] Fr_.loadF Fr_.storeF Fr_.v_cells Fr_.v_match
attribute [local go_sem] Fr_.C0 Fr_.C1 Fr_.C2 Fr_.C3 Fr_.C4 Fr_.C5 Fr_.C6 Fr_.C7 Fr_.C8 Fr_.C9 Fr_.C10 Fr_.C11 Fr_.C12 Fr_.C13 Fr_.C14 Fr_.C15 Fr_.C16 Fr_.C17 Fr_.storeF_zero

theorem rN_ok (k : Nat) (l : List UInt8) (h : k ≤ l.length) : rN k (0, l) = ((val (l.take k) : Int), (0, l.drop k)) := by
  unfold rN; rw [if_pos rfl, if_pos h]
theorem rN_sh (k : Nat) (l : List UInt8) (h : ¬ k ≤ l.length) : rN k (0, l) = (0, (1, l)) := by
  unfold rN; rw [if_pos rfl, if_neg h]
theorem rN_er (k : Nat) (l : List UInt8) : rN k (1, l) = (0, (1, l)) := by
  unfold rN; exact if_neg (show ¬ (1 : Int) = 0 by decide)
/-- The two numbers at the start of a body. -/
theorem two_ok {l : List UInt8} (h : 3 ≤ l.length) : (rN 1 (0, l)).1 = (val (l.take 1) : Int) ∧ (rN 2 (rN 1 (0, l)).2).1 = (val ((l.drop 1).take 2) : Int) ∧ (rN 2 (rN 1 (0, l)).2).2 = (0, l.drop 3) := by
  rw [rN_ok 1 l (by omega)]
  simp only
  rw [rN_ok 2 _ (by rw [List.length_drop]; omega)]
  simp only [List.drop_drop]
  exact ⟨trivial, trivial, trivial⟩
theorem two_sh {l : List UInt8} (h : l.length < 3) : ∃ r, (rN 2 (rN 1 (0, l)).2).2 = (1, r) := by
  by_cases h1 : 1 ≤ l.length
  · rw [rN_ok 1 l h1]
    simp only
    rw [rN_sh 2 _ (by rw [List.length_drop]; omega)]
    exact ⟨_, rfl⟩
  · rw [rN_sh 1 l h1]
    simp only
    rw [rN_er]
    exact ⟨_, rfl⟩
theorem four_ok {l : List UInt8} (h : 8 ≤ l.length) : (rN 4 (0, l)).1 = (val (l.take 4) : Int) ∧ (rN 4 (rN 4 (0, l)).2).1 = (val ((l.drop 4).take 4) : Int) ∧ (rN 4 (rN 4 (0, l)).2).2 = (0, l.drop 8) := by
  rw [rN_ok 4 l (by omega)]
  simp only
  rw [rN_ok 4 _ (by rw [List.length_drop]; omega)]
  simp only [List.drop_drop]
  exact ⟨trivial, trivial, trivial⟩
theorem four_sh {l : List UInt8} (h : l.length < 8) : ∃ r, (rN 4 (rN 4 (0, l)).2).2 = (1, r) := by
  by_cases h1 : 4 ≤ l.length
  · rw [rN_ok 4 l h1]
    simp only
    rw [rN_sh 4 _ (by rw [List.length_drop]; omega)]
    exact ⟨_, rfl⟩
  · rw [rN_sh 4 l h1]
    simp only
    rw [rN_er]
    exact ⟨_, rfl⟩

/-- What ReadRequest reads. -/
theorem req_read (f : Fr) (hk : f.kd = 15) : fin (rN 2 (rN 1 (0, f.bo.data.toList)).2).2 (rN 1 (0, f.bo.data.toList)).1 (rN 2 (rN 1 (0, f.bo.data.toList)).2).1 = rdE f 15 3 ∧ (rdE f 15 3 = 0 → (rN 1 (0, f.bo.data.toList)).1 = rdC f 15 3 ∧ (rN 2 (rN 1 (0, f.bo.data.toList)).2).1 = rdS f 15 3) := by
  have hz : f.bo.data.toList.length = f.bo.size := Array.length_toList
  unfold rdE
  rw [if_neg (not_not_intro hk)]
  by_cases h3 : 3 ≤ f.bo.size
  · obtain ⟨e1, e2, e3⟩ := two_ok (l := f.bo.data.toList) (by omega)
    rw [if_neg (by omega), e1, e2, e3]
    by_cases h4 : 3 < f.bo.size
    · rw [if_pos h4]
      refine ⟨?_, fun h => absurd h (by decide)⟩
      unfold fin; rw [if_pos rfl, if_pos (by simp only [List.length_drop]; omega)]
    · rw [if_neg h4]
      refine ⟨?_, fun h => ?_⟩
      · unfold fin; rw [if_pos rfl, if_neg (by simp only [List.length_drop]; omega)]
      · have hE : rdE f 15 3 = 0 := by unfold rdE; rw [if_neg (not_not_intro hk), if_neg (by omega), if_neg h4]; exact h
        unfold rdC rdS; rw [if_pos hE, if_pos hE]; exact ⟨rfl, rfl⟩
  · obtain ⟨r, e3⟩ := two_sh (l := f.bo.data.toList) (by omega)
    rw [if_pos (by omega), e3]
    refine ⟨?_, fun h => absurd h (by decide)⟩
    unfold fin; exact if_neg (show ¬ (1 : Int) = 0 by decide)

/-- What ReadBlock reads. -/
theorem blk_read (f : Fr) (hk : f.kd = 16) :
    fin (rN 4 (rN 4 (rN 2 (rN 1 (0, f.bo.data.toList)).2).2).2).2 (rN 1 (0, f.bo.data.toList)).1 (rN 2 (rN 1 (0, f.bo.data.toList)).2).1 = rdE f 16 11 ∧
    (rdE f 16 11 = 0 → (rN 1 (0, f.bo.data.toList)).1 = rdC f 16 11 ∧ (rN 2 (rN 1 (0, f.bo.data.toList)).2).1 = rdS f 16 11 ∧ ∃ lo hi : Nat, lo < 4294967296 ∧ hi < 4294967296 ∧ (rN 4 (rN 2 (rN 1 (0, f.bo.data.toList)).2).2).1 = (lo : Int) ∧ (rN 4 (rN 4 (rN 2 (rN 1 (0, f.bo.data.toList)).2).2).2).1 = (hi : Int) ∧ hi * 4294967296 + lo = rdM f) := by
  have hz : f.bo.data.toList.length = f.bo.size := Array.length_toList
  unfold rdE
  rw [if_neg (not_not_intro hk)]
  by_cases h3 : 3 ≤ f.bo.size
  · obtain ⟨e1, e2, e3⟩ := two_ok (l := f.bo.data.toList) (by omega)
    rw [e1, e2, e3]
    by_cases h11 : 11 ≤ f.bo.size
    · obtain ⟨d1, d2, d3⟩ := four_ok (l := f.bo.data.toList.drop 3) (by rw [List.length_drop]; omega)
      rw [if_neg (by omega), d1, d2, d3]
      by_cases h4 : 11 < f.bo.size
      · rw [if_pos h4]
        refine ⟨?_, fun h => absurd h (by decide)⟩
        unfold fin; rw [if_pos rfl, if_pos (by simp only [List.length_drop]; omega)]
      · rw [if_neg h4]
        refine ⟨?_, fun h => ?_⟩
        · unfold fin; rw [if_pos rfl, if_neg (by simp only [List.length_drop]; omega)]
        · have hE : rdE f 16 11 = 0 := by unfold rdE; rw [if_neg (not_not_intro hk), if_neg (by omega), if_neg h4]; exact h
          unfold rdC rdS rdM; rw [if_pos hE, if_pos hE, if_pos hE]
          refine ⟨rfl, rfl, _, _, ?_, ?_, rfl, rfl, ?_⟩
          · have := val_take_lt (f.bo.data.toList.drop 3) 4 (by rw [List.length_drop]; omega)
            rwa [show pow 4 = 4294967296 by decide] at this
          · have := val_take_lt ((f.bo.data.toList.drop 3).drop 4) 4 (by rw [List.length_drop, List.length_drop]; omega)
            rwa [show pow 4 = 4294967296 by decide] at this
          · have := val_halves (f.bo.data.toList.drop 3) (by rw [List.length_drop]; omega)
            omega
    · obtain ⟨r, d3⟩ := four_sh (l := f.bo.data.toList.drop 3) (by rw [List.length_drop]; omega)
      rw [if_pos (by omega), d3]
      refine ⟨?_, fun h => absurd h (by decide)⟩
      unfold fin; exact if_neg (show ¬ (1 : Int) = 0 by decide)
  · obtain ⟨r, e3⟩ := two_sh (l := f.bo.data.toList) (by omega)
    rw [if_pos (by omega), e3, rN_er]
    simp only
    rw [rN_er]
    refine ⟨?_, fun h => absurd h (by decide)⟩
    unfold fin; exact if_neg (show ¬ (1 : Int) = 0 by decide)
theorem rd_bad {f : Fr} {k : Int} {n : Nat} (h : ¬ rdE f k n = 0) : rdC f k n = 0 ∧ rdS f k n = 0 := by
  unfold rdC rdS; rw [if_neg h, if_neg h]; exact ⟨rfl, rfl⟩

set_option maxRecDepth 100000 in
set_option maxHeartbeats 2000000 in
theorem readRequest_any (f : Fr) (w : World) :
    Calls Tryd.prog 15 #[Fr_.v f] w fun e w' => e = .returned (.tuple #[.int .i64 (rdC f 15 3), .int .i64 (rdS f 15 3), .int .i64 (rdE f 15 3)]) ∧ Below w.heap.size w w' := by
  obtain ⟨w1, hw1⟩ : ∃ w1, w.alloc (.cells (Fr_.C f) 27) = w1 := ⟨_, rfl⟩
  have S1 := Lib.hid (show Stf w w.heap.size f w1 from hw1 ▸ Stf.new w f)
  have e1 := S1.out.box.all
  by_cases hk : f.kd = 15
  · have hn : (f.kd != 15) = false := by rw [hk]; rfl
    obtain ⟨hE, hok⟩ := req_read f hk
    obtain ⟨w2, hw2⟩ : ∃ w2, w1.alloc (.cells #[.int .i64 0, .string f.bo] 89) = w2 := ⟨_, rfl⟩
    have R2 := Lib.hid (hw2 ▸ rs_new w1 f.bo)
    have B2 := Lib.hid (show Below w.heap.size w w2 from hw2 ▸ S1.out.bel.alloc S1.out.bel.size _)
    have CS := Lib.hid (fun w b h => readStart11_any b (0, f.bo.data.toList) w h)
    have CF := Lib.hid (fun w b c s h => finish_any b (rN 2 (rN 1 (0, f.bo.data.toList)).2).2 c s w h)
    have HN : Hid (w.heap.size ≤ w1.heap.size) := S1.out.bel.size
    generalize rN 1 (0, f.bo.data.toList) = a at *
    generalize rN 2 a.2 = d at *
    by_cases hx : rdE f 15 3 = 0
    · obtain ⟨h1, h2⟩ := hok hx
      rw [hx] at hE ⊢
      rw [h1] at hE CS
      rw [h2] at hE CS
      generalize rdC f 15 3 = xc at *
      generalize rdS f 15 3 = xs at *
      have CG : Hid (∀ w b, Rs w b d.2 → Calls Tryd.prog 46 #[.pointer (some ⟨b, 0, none⟩), .int .i64 xc, .int .i64 xs] w fun e w' => e = .returned (.int .i64 0) ∧ w = w') := fun w b h => hE ▸ CF.out w b xc xs h
      clear hk hE hok hx h1 h2 CF
      go_enter Tryd.func15, Tryd.ntmps15
      go_wp2_with (first
        | (go_at_call 44; refine (new_any _ _).mono ?_; rintro e w3' ⟨rfl, rfl⟩)
        | (go_at_call 45; refine (CS.out _ _ R2.out).mono ?_; rintro e w3 ⟨rfl, h3, b3⟩; have R3 := Lib.hid h3; have B3 := Lib.hid (B2.out.trans (b3.below B2.out.size HN.out)); clear h3 b3)
        | (go_at_call 46; refine (CG.out _ _ R3.out).mono ?_; rintro e w4 ⟨rfl, rfl⟩))
      go_returns
      exact ⟨rfl, B3.out⟩
    · rw [(rd_bad hx).1, (rd_bad hx).2]
      have hxn : (rdE f 15 3 != 0) = true := by rw [bne_iff_ne]; exact hx
      generalize rdE f 15 3 = xe at *
      have CG : Hid (∀ w b, Rs w b d.2 → Calls Tryd.prog 46 #[.pointer (some ⟨b, 0, none⟩), .int .i64 a.1, .int .i64 d.1] w fun e w' => e = .returned (.int .i64 xe) ∧ w = w') := fun w b h => hE ▸ CF.out w b a.1 d.1 h
      clear hk hE hok hx CF
      go_enter Tryd.func15, Tryd.ntmps15
      go_wp2_with (first
        | (go_at_call 44; refine (new_any _ _).mono ?_; rintro e w3' ⟨rfl, rfl⟩)
        | (go_at_call 45; refine (CS.out _ _ R2.out).mono ?_; rintro e w3 ⟨rfl, h3, b3⟩; have R3 := Lib.hid h3; have B3 := Lib.hid (B2.out.trans (b3.below B2.out.size HN.out)); clear h3 b3)
        | (go_at_call 46; refine (CG.out _ _ R3.out).mono ?_; rintro e w4 ⟨rfl, rfl⟩))
      go_returns
      exact ⟨rfl, B3.out⟩
  · have hn : (f.kd != 15) = true := by rw [bne_iff_ne]; exact hk
    have hE : rdE f 15 3 = 3 := if_pos hk
    rw [(rd_bad (by rw [hE]; decide)).1, (rd_bad (by rw [hE]; decide)).2, hE]
    clear hk hE
    go_enter Tryd.func15, Tryd.ntmps15
    go_wp2
    go_returns
    exact ⟨rfl, S1.out.bel⟩

theorem or_hi (y x : Nat) (hx : x < 4294967296) (hy : y < 4294967296) : bits .or .u64 ((y : Int) * 4294967296) (x : Int) = ((y * 4294967296 + x : Nat) : Int) := by
  have e : y * 2 ^ 32 ||| x = y * 2 ^ 32 + x := by rw [Nat.mul_comm, ← Nat.two_pow_add_eq_or_of_lt hx]
  have c : ∀ n : Nat, n < 18446744073709551616 → (BitVec.ofInt 64 (n : Int)).toNat = n := fun n hn => by
    rw [BitVec.toNat_ofInt]; omega
  have a : ((y : Int) * 4294967296) = ((y * 2 ^ 32 : Nat) : Int) := by omega
  rw [a]
  show IntKind.u64.wrap ((BitVec.ofInt 64 ((y * 2 ^ 32 : Nat) : Int) ||| BitVec.ofInt 64 (x : Int)).toNat : Int) = _
  rw [BitVec.toNat_or, c (y * 2 ^ 32) (by omega), c x (by omega), e]
  exact IntWalk.u64_in _ (by omega)

set_option maxRecDepth 100000 in
set_option maxHeartbeats 2000000 in
theorem readBlock_any (f : Fr) (w : World) :
    Calls Tryd.prog 16 #[Fr_.v f] w fun e w' => e = .returned (.tuple #[.int .i64 (rdC f 16 11), .int .i64 (rdS f 16 11), .int .u64 (rdM f : Int), .int .i64 (rdE f 16 11)]) ∧ Below w.heap.size w w' := by
  obtain ⟨w1, hw1⟩ : ∃ w1, w.alloc (.cells (Fr_.C f) 27) = w1 := ⟨_, rfl⟩
  have S1 := Lib.hid (show Stf w w.heap.size f w1 from hw1 ▸ Stf.new w f)
  have e1 := S1.out.box.all
  by_cases hk : f.kd = 16
  · have hn : (f.kd != 16) = false := by rw [hk]; rfl
    obtain ⟨hE, hok⟩ := blk_read f hk
    obtain ⟨w2, hw2⟩ : ∃ w2, w1.alloc (.cells #[.int .i64 0, .string f.bo] 89) = w2 := ⟨_, rfl⟩
    have R2 := Lib.hid (hw2 ▸ rs_new w1 f.bo)
    have B2 := Lib.hid (show Below w.heap.size w w2 from hw2 ▸ S1.out.bel.alloc S1.out.bel.size _)
    have CS := Lib.hid (fun w b h => readStart11_any b (0, f.bo.data.toList) w h)
    have CF := Lib.hid (fun w b σ c s h => finish_any b σ c s w h)
    have HN : Hid (w.heap.size ≤ w1.heap.size) := S1.out.bel.size
    have CN : Hid (∀ w b σ, Rs w b σ → Calls Tryd.prog 47 #[.pointer (some ⟨b, 0, none⟩), .int .i64 4] w fun e w' => e = .returned (.int .i64 (rN 4 σ).1) ∧ Rs w' b (rN 4 σ).2 ∧ But b w w') := fun w b σ h => num_tot 4 b σ w h ⟨by decide, by decide⟩
    generalize rN 1 (0, f.bo.data.toList) = a at *
    generalize rN 2 a.2 = d at *
    have C4 : Hid (∀ w b, Rs w b d.2 → Calls Tryd.prog 47 #[.pointer (some ⟨b, 0, none⟩), .int .i64 4] w fun e w' => e = .returned (.int .i64 (rN 4 d.2).1) ∧ Rs w' b (rN 4 d.2).2 ∧ But b w w') := fun w b h => CN.out w b _ h
    have C5 : Hid (∀ w b, Rs w b (rN 4 d.2).2 → Calls Tryd.prog 47 #[.pointer (some ⟨b, 0, none⟩), .int .i64 4] w fun e w' => e = .returned (.int .i64 (rN 4 (rN 4 d.2).2).1) ∧ Rs w' b (rN 4 (rN 4 d.2).2).2 ∧ But b w w') := fun w b h => CN.out w b _ h
    clear CN
    generalize rN 4 d.2 = g at *
    generalize rN 4 g.2 = q at *
    by_cases hx : rdE f 16 11 = 0
    · obtain ⟨h1, h2, lo, hi, hlo, hhi, h3, h4, hm⟩ := hok hx
      rw [hx] at hE ⊢
      rw [h1] at hE CS
      rw [h2] at hE CS
      rw [h3] at C4
      rw [h4] at C5
      rw [← hm]
      have ho := or_hi hi lo hlo hhi
      have u1 : IntKind.u64.wrap (hi : Int) = hi := IntWalk.u64_in _ (by omega)
      have u2 : IntKind.u64.wrap (lo : Int) = lo := IntWalk.u64_in _ (by omega)
      have u3 : IntKind.u64.wrap ((hi : Int) * 4294967296) = (hi : Int) * 4294967296 := IntWalk.u64_in _ (by omega)
      have HO := Lib.hid ho
      generalize rdC f 16 11 = xc at *
      generalize rdS f 16 11 = xs at *
      have CG : Hid (∀ w b, Rs w b q.2 → Calls Tryd.prog 46 #[.pointer (some ⟨b, 0, none⟩), .int .i64 xc, .int .i64 xs] w fun e w' => e = .returned (.int .i64 0) ∧ w = w') := fun w b h => hE ▸ CF.out w b q.2 xc xs h
      clear hk hE hok hx h1 h2 h3 h4 hm CF
      go_enter Tryd.func16, Tryd.ntmps16
      go_wp2_with (first
        | (go_at_call 44; refine (new_any _ _).mono ?_; rintro e w3' ⟨rfl, rfl⟩)
        | (go_at_call 45; refine (CS.out _ _ R2.out).mono ?_; rintro e w3 ⟨rfl, h3, b3⟩; have R3 := Lib.hid h3; have B3 := Lib.hid (B2.out.trans (b3.below B2.out.size HN.out)); clear h3 b3)
        | (go_at_call 47; with_reducible refine (C4.out _ _ R3.out).mono ?_; rintro e w4 ⟨rfl, h3, b3⟩; have R4 := Lib.hid h3; have B4 := Lib.hid (B3.out.trans (b3.below B3.out.size HN.out)); clear h3 b3)
        | (go_at_call 47; with_reducible refine (C5.out _ _ R4.out).mono ?_; rintro e w5 ⟨rfl, h3, b3⟩; have R5 := Lib.hid h3; have B5 := Lib.hid (B4.out.trans (b3.below B4.out.size HN.out)); clear h3 b3)
        | (go_at_call 46; refine (CG.out _ _ R5.out).mono ?_; rintro e w6 ⟨rfl, rfl⟩))
      go_returns
      exact ⟨rfl, B5.out⟩
    · rw [(rd_bad hx).1, (rd_bad hx).2, show rdM f = 0 from if_neg hx]
      have hxn : (rdE f 16 11 != 0) = true := by rw [bne_iff_ne]; exact hx
      generalize rdE f 16 11 = xe at *
      have CG : Hid (∀ w b, Rs w b q.2 → Calls Tryd.prog 46 #[.pointer (some ⟨b, 0, none⟩), .int .i64 a.1, .int .i64 d.1] w fun e w' => e = .returned (.int .i64 xe) ∧ w = w') := fun w b h => hE ▸ CF.out w b q.2 a.1 d.1 h
      clear hk hE hok hx CF
      go_enter Tryd.func16, Tryd.ntmps16
      go_wp2_with (first
        | (go_at_call 44; refine (new_any _ _).mono ?_; rintro e w3' ⟨rfl, rfl⟩)
        | (go_at_call 45; refine (CS.out _ _ R2.out).mono ?_; rintro e w3 ⟨rfl, h3, b3⟩; have R3 := Lib.hid h3; have B3 := Lib.hid (B2.out.trans (b3.below B2.out.size HN.out)); clear h3 b3)
        | (go_at_call 47; with_reducible refine (C4.out _ _ R3.out).mono ?_; rintro e w4 ⟨rfl, h3, b3⟩; have R4 := Lib.hid h3; have B4 := Lib.hid (B3.out.trans (b3.below B3.out.size HN.out)); clear h3 b3)
        | (go_at_call 47; with_reducible refine (C5.out _ _ R4.out).mono ?_; rintro e w5 ⟨rfl, h3, b3⟩; have R5 := Lib.hid h3; have B5 := Lib.hid (B4.out.trans (b3.below B4.out.size HN.out)); clear h3 b3)
        | (go_at_call 46; refine (CG.out _ _ R5.out).mono ?_; rintro e w6 ⟨rfl, rfl⟩))
      go_returns
      exact ⟨rfl, B5.out⟩
  · have hn : (f.kd != 16) = true := by rw [bne_iff_ne]; exact hk
    have hE : rdE f 16 11 = 3 := if_pos hk
    rw [(rd_bad (by rw [hE]; decide)).1, (rd_bad (by rw [hE]; decide)).2, show rdM f = 0 from if_neg (by rw [hE]; decide), hE]
    clear hk hE
    go_enter Tryd.func16, Tryd.ntmps16
    go_wp2
    go_returns
    exact ⟨rfl, S1.out.bel⟩
end Go.Proofs.YtjnafojgabkjmaaDoor
