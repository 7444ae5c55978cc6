/-
  WALKS of the reference of layer 15: Decode.
-/
import Derived.Test.YtcpfkikifhcdmaaMgRefD
import Derived.Deep.LoopGhost
namespace Go.Proofs.Ytcpfkikifhcdmaa
open Go.RowKit Go.Mg Go.Wr Go.Ad
attribute [local go_sem ↓ high] Bd_.loadF Bd_.storeF Bd_.v_cells Bd_.v_match Bd_.loadP
attribute [local go_sem] Bd_.loadF_new Bd_.storeF_zero Bd_.storeF_new

theorem nu_zero {s : ByteArray} (h : 0 < s.size) : ((s[0]'h).toNat : Int) = nu s 0 1 := by
  have hl := ba_len15 s
  unfold nu
  rw [List.drop_zero, List.take_one]
  have : s.data.toList.head? = some (s[0]'h) := by
    rw [List.head?_eq_getElem?, List.getElem?_eq_getElem (by omega)]
    rfl
  rw [this]
  simp [val]
theorem nu1_lt (s : ByteArray) : 0 ≤ nu s 0 1 ∧ nu s 0 1 ≤ 255 := by
  have := nu_in s 0 1
  have p1 : (pow 1 : Nat) = 256 := by decide
  rw [p1] at this
  omega
/-- What Decode does once the kind, the rest and the name's length are known. -/
structure Tl (k : Int) (s : ByteArray) (c : Int) (t : ByteArray) (g N : Int) (y : Bd) : Prop where
  need : ∀ w, Calls Try.prog 32 #[.int .i64 c, .int .i64 g] w fun e w' => e = .returned (.int .i64 N) ∧ w = w'
  fld : (t.size : Int) = N → ∀ w, Calls Try.prog 33 #[.int .i64 c, .string t, .int .i64 g] w fun e w' => e = .returned (Bd_.v y) ∧ Below w.heap.size w w'
  chk : (t.size : Int) = N → ∀ w, Calls Try.prog 11 #[Bd_.v y] w fun e w' => e = .returned (.int .i64 (chk y)) ∧ Below w.heap.size w w'
  short : (t.size : Int) < N → dcE k s = 1 ∧ dcB k s = zb
  long : N < (t.size : Int) → dcE k s = 2 ∧ dcB k s = zb
  exact : (t.size : Int) = N → dcE k s = Go.Mg.chk y ∧ dcB k s = if Go.Mg.chk y = 0 then y else zb
theorem Tl.new {k : Int} {s : ByteArray} (h : 0 < s.size) (hc : car k (nu s 0 1) = true) (n : Nat) (hn : n ≤ 255) (hm : named (nu s 0 1) (s.extract 1 s.size) n) :
    Tl k s (nu s 0 1) (s.extract 1 s.size) (n : Int) (nd (nu s 0 1) n) (fB (nu s 0 1) (s.extract 1 s.size) n) :=
  have hk := car_isK hc
  ⟨fun w => refNeed15_any _ _ w hk ⟨by omega, by omega⟩, fun hs w => refFields_any hk _ n w hn hs, fun hs w => refCheck15_any _ w (fB_w hk _ n hs),
   fun hs => rd_short h hc n (.inr ⟨hm, hs⟩), fun hs => rd_long h hc n hn hm hs, fun hs => rd_in h hc n hn hm hs⟩
/-- The name's length: none, or the first octet. -/
theorem Tl.none {k : Int} {s : ByteArray} (h : 0 < s.size) (hc : car k (nu s 0 1) = true) (hn : ¬ (nu s 0 1 = 2 ∨ nu s 0 1 = 3)) :
    ∃ N y, Tl k s (nu s 0 1) (s.extract 1 s.size) 0 N y := ⟨_, _, Tl.new h hc 0 (by decide) (fun h => absurd h hn)⟩
theorem Tl.name {k : Int} {s : ByteArray} (h : 0 < s.size) (hc : car k (nu s 0 1) = true) (ht : 0 < (s.extract 1 s.size).size) :
    ∃ N y, Tl k s (nu s 0 1) (s.extract 1 s.size) (nu (s.extract 1 s.size) 0 1) N y := by
  have h1 := nu1_lt (s.extract 1 s.size)
  have := Tl.new h hc (nu (s.extract 1 s.size) 0 1).toNat (by omega) (fun _ => ⟨ht, by omega⟩)
  rw [Int.toNat_of_nonneg h1.1] at this
  exact ⟨_, _, this⟩

set_option maxRecDepth 100000 in
set_option maxHeartbeats 16000000 in
theorem refDecode15_any (k : Int) (s : ByteArray) (w : World) (hs : s.size ≤ 100000) :
    Calls Try.prog 15 #[.int .i64 k, .string s] w fun e w' => e = .returned (.tuple #[Bd_.v (dcB k s), .int .i64 (dcE k s)]) ∧ Below w.heap.size w w' := by
  obtain ⟨w1, hw1⟩ : ∃ w1, w.alloc (.cells (Bd_.C zb) 27) = w1 := ⟨_, rfl⟩
  have hw1' : w.alloc (.cells #[.int .i64 0, .int .i64 0, .int .i64 0, .int .i64 0, .string ⟨#[]⟩, .int .i64 0, .int .i64 0, .int .u64 0, .int .i64 0, .int .i64 0, .int .i64 0, .int .i64 0, .int .i64 0, .int .i64 0, .int .i64 0, .int .i64 0, .int .i64 0] 27) = w1 := hw1
  have S1 := Lib.hid (show Stb w zb w1 from hw1 ▸ Stb.new w zb)
  have HZ : ∀ (wi : World), Bd_.Box wi w.heap.size zb → (Bd_.StoreF ⟨w.heap.size, 0, none⟩ (.agg #[.int .i64 0, .int .i64 0, .int .i64 0, .int .i64 0, .string ⟨#[]⟩, .int .i64 0, .int .i64 0, .int .u64 0, .int .i64 0, .int .i64 0, .int .i64 0, .int .i64 0, .int .i64 0, .int .i64 0, .int .i64 0, .int .i64 0, .int .i64 0])).run Try.prog wi = .ok () (wi.setRow w.heap.size (Bd_.C zb)) := fun wi h => h.storeF zb
  have HZ := Lib.hid HZ
  have CC := Lib.hid fun c w => refCarries_any k c w
  have HS := Lib.hid hs
  clear hw1 hs
  go_enter Try.func15, Try.ntmps15
  go_wp2
  go_loopw [6, 7] (fun a i wr => ∃ m : Nat, m ≤ 12 ∧ a = .bool (anyc k m) ∧ i = .int .i64 ((m : Int) + 1) ∧ Stb w zb wr) (fun _ i _ => (13 - intOf i).toNat)
  case atStart => exact ⟨0, by decide, rfl, rfl, S1.out⟩
  case round =>
    rename_i wr
    obtain ⟨m, hm, rfl, rfl, hst⟩ := hrel
    have ST := Lib.hid hst
    clear hst S1
    by_cases h12 : m < 12
    · have hi : ((m : Int) + 1) ≤ 12 := by omega
      have HA : Hid (anyc k (m + 1) = (anyc k m || car k ((m : Int) + 1))) := rfl
      have CCm := Lib.hid fun w => CC.out ((m : Int) + 1) w
      have HM : Hid (m + 1 ≤ 12) := h12
      cases ha : anyc k m <;> rw [ha] at HA <;> clear ha
      case true =>
        go_wp2
        go_roundw
        case rel => exact ⟨m + 1, HM.out, by rw [HA.out]; rfl, congrArg _ (by omega), ST.out⟩
        case measure => simp only [intOf]; omega
      case false =>
        go_wp2_with (go_at_call 16; refine (CCm.out _).mono ?_; rintro e w2 ⟨rfl, hb⟩; have S2 := Lib.hid (ST.out.keep hb); clear hb)
        go_roundw
        case rel => exact ⟨m + 1, HM.out, by rw [HA.out]; rfl, congrArg _ (by omega), S2.out⟩
        case measure => simp only [intOf]; omega
    · obtain rfl : m = 12 := by omega
      rw [anyc_fst]
      clear h12 hm
      have sf := HZ.out _ ST.out.box
      by_cases hf : fst k = 0
      · obtain ⟨r1, r2⟩ := rd_none hf s
        have HE := Lib.hid r1
        have HB := Lib.hid r2
        have hd : decide (fst k ≠ 0) = false := decide_eq_false (fun h => h hf)
        rw [hd]
        clear r1 r2 hf hd
        go_wp2
        exact ret_bd Try.results15 rfl rfl (ST.out.box.setRow zb) rfl ⟨by rw [HE.out, HB.out]; rfl, below_setRow ST.out.bel (Nat.le_refl _)⟩
      have hd : decide (fst k ≠ 0) = true := decide_eq_true hf
      rw [hd]
      by_cases h0 : s.size = 0
      · obtain ⟨r1, r2⟩ := rd_empty hf h0
        have HE := Lib.hid r1
        have HB := Lib.hid r2
        have he : s.toList.isEmpty = true := by rw [empty_iff']; exact decide_eq_true h0
        clear r1 r2 hf h0 hd
        go_wp2
        exact ret_bd Try.results15 rfl rfl (ST.out.box.setRow zb) rfl ⟨by rw [HE.out, HB.out]; rfl, below_setRow ST.out.bel (Nat.le_refl _)⟩
      have h1 : 0 < s.size := by omega
      have he : s.toList.isEmpty = false := by rw [empty_iff']; exact decide_eq_false h0
      have CK := Lib.hid fun w => CC.out (nu s 0 1) w
      have uk : RowKit.wrap64 (nu s 0 1) = nu s 0 1 := IntWalk.wrap64_in _ (by have := nu1_lt s; omega)
      have g0 := nu_zero h1
      have sl : ∀ W, (Instr.slice 9 (.string s) (some (.int .i64 1)) none none).run Try.prog W = .ok (.string (s.extract 1 s.size)) W := fun W => slice15l s 1 (by omega) W
      cases hc : car k (nu s 0 1) <;> rw [hc] at CK
      case false =>
        obtain ⟨r1, r2⟩ := rd_other hf h1 hc
        have HE := Lib.hid r1
        have HB := Lib.hid r2
        clear r1 r2 hf hc hd h0
        generalize nu s 0 1 = c at *
        go_wp2_with (go_at_call 16; refine (CK.out _).mono ?_; rintro e w2 ⟨rfl, hb⟩; have S2 := Lib.hid (ST.out.keep hb); have sf2 := HZ.out _ S2.out.box; clear hb)
        exact ret_bd Try.results15 rfl rfl (S2.out.box.setRow zb) rfl ⟨by rw [HE.out, HB.out]; rfl, below_setRow S2.out.bel (Nat.le_refl _)⟩
      case true =>
      have ht : (s.extract 1 s.size).toList.isEmpty = decide ((s.extract 1 s.size).size = 0) := empty_iff' _
      have hts : (s.extract 1 s.size).size ≤ 100000 := by rw [ByteArray.size_extract]; have := HS.out; omega
      by_cases hn : nu s 0 1 = 2 ∨ nu s 0 1 = 3
      case neg =>
        obtain ⟨N, y, T⟩ := Tl.none h1 hc hn
        have n2 : (nu s 0 1 == 2) = false := by rw [beq_eq_false_iff_ne]; exact fun h => hn (.inl h)
        have n3 : (nu s 0 1 == 3) = false := by rw [beq_eq_false_iff_ne]; exact fun h => hn (.inr h)
        clear hf hc hd h0 hn ht
        generalize nu s 0 1 = c at *
        generalize s.extract 1 s.size = t at *
        have CN := Lib.hid T.need
        rcases Int.lt_trichotomy (t.size : Int) N with hx | hx | hx
        · obtain ⟨r1, r2⟩ := T.short hx
          have HE := Lib.hid r1
          have HB := Lib.hid r2
          clear r1 r2 T
          go_wp2_with (first
            | (go_at_call 16; refine (CK.out _).mono ?_; rintro e w2 ⟨rfl, hb⟩; have S2 := Lib.hid (ST.out.keep hb); have sf2 := HZ.out _ S2.out.box; clear hb)
            | (go_at_call 32; refine (CN.out _).mono ?_; rintro e w' ⟨rfl, rfl⟩))
          exact ret_bd Try.results15 rfl rfl (S2.out.box.setRow zb) rfl ⟨by rw [HE.out, HB.out]; rfl, below_setRow S2.out.bel (Nat.le_refl _)⟩
        · obtain ⟨r1, r2⟩ := T.exact hx
          have CF := Lib.hid (T.fld hx)
          have CH := Lib.hid (T.chk hx)
          have hx1 : ¬ (t.size : Int) < N := by omega
          have hx2 : ¬ N < (t.size : Int) := by omega
          clear T
          generalize Go.Mg.chk y = r at *
          by_cases hr : r = 0
          · rw [if_pos hr] at r2
            subst hr
            have HE := Lib.hid r1
            have HB := Lib.hid r2
            clear r1 r2 hx
            go_wp2_with (first
              | (go_at_call 16; refine (CK.out _).mono ?_; rintro e w2 ⟨rfl, hb⟩; have S2 := Lib.hid (ST.out.keep hb); have sf2 := HZ.out _ S2.out.box; clear hb)
              | (go_at_call 32; refine (CN.out _).mono ?_; rintro e w' ⟨rfl, rfl⟩)
              | (go_at_call 33; refine (CF.out _).mono ?_; rintro e w3 ⟨rfl, hb⟩; have S3 := Lib.hid ((S2.out.keep hb).keep ((Below.refl _ _).alloc (Nat.le_refl _) (.cells (Bd_.C y) 27))); have B3 := Lib.hid (Bd_.Box.new w3 y); have l3 := B3.out.loadF; clear hb)
              | (go_at_call 11; refine (CH.out _).mono ?_; rintro e w4 ⟨rfl, hb⟩; have S4 := Lib.hid (S3.out.keep hb); have B4 := Lib.hid (B3.out.below hb B3.out.lt); have l4 := B4.out.loadF; have sf4 := S4.out.box.storeF y; clear hb))
            exact ret_bd Try.results15 rfl rfl (S4.out.box.setRow y) rfl ⟨by rw [HE.out, HB.out]; rfl, below_setRow S4.out.bel (Nat.le_refl _)⟩
          · rw [if_neg hr] at r2
            have hr' : (r != 0) = true := by simp [hr]
            have HE := Lib.hid r1
            have HB := Lib.hid r2
            clear r1 r2 hr hx
            go_wp2_with (first
              | (go_at_call 16; refine (CK.out _).mono ?_; rintro e w2 ⟨rfl, hb⟩; have S2 := Lib.hid (ST.out.keep hb); have sf2 := HZ.out _ S2.out.box; clear hb)
              | (go_at_call 32; refine (CN.out _).mono ?_; rintro e w' ⟨rfl, rfl⟩)
              | (go_at_call 33; refine (CF.out _).mono ?_; rintro e w3 ⟨rfl, hb⟩; have S3 := Lib.hid ((S2.out.keep hb).keep ((Below.refl _ _).alloc (Nat.le_refl _) (.cells (Bd_.C y) 27))); have B3 := Lib.hid (Bd_.Box.new w3 y); have l3 := B3.out.loadF; clear hb)
              | (go_at_call 11; refine (CH.out _).mono ?_; rintro e w4 ⟨rfl, hb⟩; have S4 := Lib.hid (S3.out.keep hb); have sf4 := HZ.out _ S4.out.box; clear hb))
            exact ret_bd Try.results15 rfl rfl (S4.out.box.setRow zb) rfl ⟨by rw [HE.out, HB.out]; rfl, below_setRow S4.out.bel (Nat.le_refl _)⟩
        · obtain ⟨r1, r2⟩ := T.long hx
          have HE := Lib.hid r1
          have HB := Lib.hid r2
          have hx1 : ¬ (t.size : Int) < N := by omega
          clear r1 r2 T
          go_wp2_with (first
            | (go_at_call 16; refine (CK.out _).mono ?_; rintro e w2 ⟨rfl, hb⟩; have S2 := Lib.hid (ST.out.keep hb); have sf2 := HZ.out _ S2.out.box; clear hb)
            | (go_at_call 32; refine (CN.out _).mono ?_; rintro e w' ⟨rfl, rfl⟩))
          exact ret_bd Try.results15 rfl rfl (S2.out.box.setRow zb) rfl ⟨by rw [HE.out, HB.out]; rfl, below_setRow S2.out.bel (Nat.le_refl _)⟩
      case pos =>
        have n2 : (nu s 0 1 == 2) = true ∨ ((nu s 0 1 == 2) = false ∧ (nu s 0 1 == 3) = true) := by
          rcases hn with h | h
          · left; rw [h]; rfl
          · right; rw [h]; exact ⟨rfl, rfl⟩
        by_cases ht0 : (s.extract 1 s.size).size = 0
        · obtain ⟨r1, r2⟩ := rd_short h1 hc 0 (.inl ⟨hn, ht0⟩)
          have HE := Lib.hid r1
          have HB := Lib.hid r2
          rw [decide_eq_true ht0] at ht
          clear r1 r2 hf hc hd h0 hn ht0
          generalize nu s 0 1 = c at *
          generalize s.extract 1 s.size = t at *
          rcases n2 with n2 | ⟨n2, n3⟩
          all_goals
            go_wp2_with (go_at_call 16; refine (CK.out _).mono ?_; rintro e w2 ⟨rfl, hb⟩; have S2 := Lib.hid (ST.out.keep hb); have sf2 := HZ.out _ S2.out.box; clear hb)
            exact ret_bd Try.results15 rfl rfl (S2.out.box.setRow zb) rfl ⟨by rw [HE.out, HB.out]; rfl, below_setRow S2.out.bel (Nat.le_refl _)⟩
        have ht1 : 0 < (s.extract 1 s.size).size := by omega
        obtain ⟨N, y, T⟩ := Tl.name h1 hc ht1
        rw [decide_eq_false ht0] at ht
        have g1 := nu_zero ht1
        have ug : RowKit.wrap64 (nu (s.extract 1 s.size) 0 1) = nu (s.extract 1 s.size) 0 1 := IntWalk.wrap64_in _ (by have := nu1_lt (s.extract 1 s.size); omega)
        clear hf hc hd h0 hn ht0
        generalize nu (s.extract 1 s.size) 0 1 = g at *
        generalize nu s 0 1 = c at *
        generalize s.extract 1 s.size = t at *
        have CN := Lib.hid T.need
        rcases n2 with n2 | ⟨n2, n3⟩
        all_goals
          rcases Int.lt_trichotomy (t.size : Int) N with hx | hx | hx
          · obtain ⟨r1, r2⟩ := T.short hx
            have HE := Lib.hid r1
            have HB := Lib.hid r2
            clear r1 r2 T
            go_wp2_with (first
              | (go_at_call 16; refine (CK.out _).mono ?_; rintro e w2 ⟨rfl, hb⟩; have S2 := Lib.hid (ST.out.keep hb); have sf2 := HZ.out _ S2.out.box; clear hb)
              | (go_at_call 32; refine (CN.out _).mono ?_; rintro e w' ⟨rfl, rfl⟩))
            exact ret_bd Try.results15 rfl rfl (S2.out.box.setRow zb) rfl ⟨by rw [HE.out, HB.out]; rfl, below_setRow S2.out.bel (Nat.le_refl _)⟩
          · obtain ⟨r1, r2⟩ := T.exact hx
            have CF := Lib.hid (T.fld hx)
            have CH := Lib.hid (T.chk hx)
            have hx1 : ¬ (t.size : Int) < N := by omega
            have hx2 : ¬ N < (t.size : Int) := by omega
            clear T
            generalize Go.Mg.chk y = r at *
            by_cases hr : r = 0
            · rw [if_pos hr] at r2
              subst hr
              have HE := Lib.hid r1
              have HB := Lib.hid r2
              clear r1 r2 hx
              go_wp2_with (first
                | (go_at_call 16; refine (CK.out _).mono ?_; rintro e w2 ⟨rfl, hb⟩; have S2 := Lib.hid (ST.out.keep hb); have sf2 := HZ.out _ S2.out.box; clear hb)
                | (go_at_call 32; refine (CN.out _).mono ?_; rintro e w' ⟨rfl, rfl⟩)
                | (go_at_call 33; refine (CF.out _).mono ?_; rintro e w3 ⟨rfl, hb⟩; have S3 := Lib.hid ((S2.out.keep hb).keep ((Below.refl _ _).alloc (Nat.le_refl _) (.cells (Bd_.C y) 27))); have B3 := Lib.hid (Bd_.Box.new w3 y); have l3 := B3.out.loadF; clear hb)
                | (go_at_call 11; refine (CH.out _).mono ?_; rintro e w4 ⟨rfl, hb⟩; have S4 := Lib.hid (S3.out.keep hb); have B4 := Lib.hid (B3.out.below hb B3.out.lt); have l4 := B4.out.loadF; have sf4 := S4.out.box.storeF y; clear hb))
              exact ret_bd Try.results15 rfl rfl (S4.out.box.setRow y) rfl ⟨by rw [HE.out, HB.out]; rfl, below_setRow S4.out.bel (Nat.le_refl _)⟩
            · rw [if_neg hr] at r2
              have hr' : (r != 0) = true := by simp [hr]
              have HE := Lib.hid r1
              have HB := Lib.hid r2
              clear r1 r2 hr hx
              go_wp2_with (first
                | (go_at_call 16; refine (CK.out _).mono ?_; rintro e w2 ⟨rfl, hb⟩; have S2 := Lib.hid (ST.out.keep hb); have sf2 := HZ.out _ S2.out.box; clear hb)
                | (go_at_call 32; refine (CN.out _).mono ?_; rintro e w' ⟨rfl, rfl⟩)
                | (go_at_call 33; refine (CF.out _).mono ?_; rintro e w3 ⟨rfl, hb⟩; have S3 := Lib.hid ((S2.out.keep hb).keep ((Below.refl _ _).alloc (Nat.le_refl _) (.cells (Bd_.C y) 27))); have B3 := Lib.hid (Bd_.Box.new w3 y); have l3 := B3.out.loadF; clear hb)
                | (go_at_call 11; refine (CH.out _).mono ?_; rintro e w4 ⟨rfl, hb⟩; have S4 := Lib.hid (S3.out.keep hb); have sf4 := HZ.out _ S4.out.box; clear hb))
              exact ret_bd Try.results15 rfl rfl (S4.out.box.setRow zb) rfl ⟨by rw [HE.out, HB.out]; rfl, below_setRow S4.out.bel (Nat.le_refl _)⟩
          · obtain ⟨r1, r2⟩ := T.long hx
            have HE := Lib.hid r1
            have HB := Lib.hid r2
            have hx1 : ¬ (t.size : Int) < N := by omega
            clear r1 r2 T
            go_wp2_with (first
              | (go_at_call 16; refine (CK.out _).mono ?_; rintro e w2 ⟨rfl, hb⟩; have S2 := Lib.hid (ST.out.keep hb); have sf2 := HZ.out _ S2.out.box; clear hb)
              | (go_at_call 32; refine (CN.out _).mono ?_; rintro e w' ⟨rfl, rfl⟩))
            exact ret_bd Try.results15 rfl rfl (S2.out.box.setRow zb) rfl ⟨by rw [HE.out, HB.out]; rfl, below_setRow S2.out.bel (Nat.le_refl _)⟩
end Go.Proofs.Ytcpfkikifhcdmaa
