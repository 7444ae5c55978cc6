/-
  THE LAW HeaderParses of layer 10: the reference's Read and the program's steps agree.
-/
import Derived.Test.YthpilpcjnpnodaaDoorHdRfL
import Derived.Test.YthpilpcjnpnodaaDoorHdRfP
import Derived.Test.YthpilpcjnpnodaaDoorHdReads
namespace Go.Proofs.YthpilpcjnpnodaaDoor
open Go.RowKit Go.Hd Go.Wr Go.Ad

/-! ### The flags' octet -/
def fok (n : Nat) (u fl : Int) (p : Bool) : Bool := (decide (bits .andNot .i64 (n : Int) u = 0)) == ((p || (n : Int) / 64 == 0) && (List.range 6).all (fun i => !((n : Int) / 2 ^ i % 2 == 1 && fl / 2 ^ i % 2 == 0)))
theorem fok_mg : ∀ n : Fin 256, fok n.val 18181 5 false = true := by decide +kernel
theorem fok_rts : ∀ n : Fin 256, fok n.val 256 0 false = true := by decide +kernel
theorem fok_blk : ∀ n : Fin 256, fok n.val 16640 0 false = true := by decide +kernel
theorem fok_no : ∀ n : Fin 256, fok n.val 0 0 false = true := by decide +kernel
theorem fok_data : ∀ n : Fin 256, fok n.val 32767 63 true = true := by decide +kernel
theorem fok_null : ∀ n : Fin 256, fok n.val 6109 29 true = true := by decide +kernel
theorem fok_of {k : Int} (hk : isK k) {n : Nat} (h : n < 256) : fok n (us k) (flg k) (decide (pl k)) = true := by
  rcases kinds hk with rfl | rfl | rfl | rfl | rfl | rfl | rfl | rfl | rfl | rfl | rfl | rfl | rfl | rfl | rfl | rfl | rfl | rfl | rfl
  all_goals first
    | exact fok_mg ⟨n, h⟩
    | exact fok_no ⟨n, h⟩
    | exact fok_rts ⟨n, h⟩
    | exact fok_blk ⟨n, h⟩
    | exact fok_data ⟨n, h⟩
    | exact fok_null ⟨n, h⟩
theorem flags_iff {k : Int} (hk : isK k) {n : Nat} (h : n < 256) : bits .andNot .i64 (n : Int) (us k) = 0 ↔ ((pl k ∨ (n : Int) / 64 = 0) ∧ ∀ i, i < 6 → ¬ bb n k i) := by
  have e := fok_of hk h
  unfold fok at e
  have e' := beq_iff_eq.1 e
  have hB : ((decide (pl k) || (n : Int) / 64 == 0) = true) ↔ (pl k ∨ (n : Int) / 64 = 0) := by simp
  have hC : ((List.range 6).all (fun i => !((n : Int) / 2 ^ i % 2 == 1 && flg k / 2 ^ i % 2 == 0)) = true) ↔ ∀ i, i < 6 → ¬ bb n k i := by
    rw [List.all_eq_true]
    constructor
    · intro h i hi hb
      have := h i (List.mem_range.2 hi)
      rw [hb.1, hb.2] at this
      exact absurd this (by decide)
    · intro h i hi
      have hb := h i (List.mem_range.1 hi)
      rw [Bool.not_eq_true', Bool.and_eq_false_iff]
      by_cases h1 : (n : Int) / 2 ^ i % 2 = 1
      · right
        rw [beq_eq_false_iff_ne]
        exact fun h2 => hb ⟨h1, h2⟩
      · left
        rw [beq_eq_false_iff_ne]
        exact h1
  rw [← hB, ← hC, ← Bool.and_eq_true, ← e']
  exact decide_eq_true_iff.symm

/-- What the reference's Read hands back. -/
def RefIs (s : ByteArray) : Prop :=
  ∃ z : Int, ((rdP (0, s.data.toList)).2.1 = 0 → z = (s.size : Int) - ((rdP (0, s.data.toList)).2.2.length : Int)) ∧
    ∀ w, Calls Tryd.prog 28 #[.string s] w fun e w' => e = .returned (.tuple #[Fr_.v (rdP (0, s.data.toList)).1, .int .i64 z, .int .i64 (rdP (0, s.data.toList)).2.1]) ∧ Below w.heap.size w w'
theorem refIs_err {s : ByteArray} {e : Int} (he : ¬ e = 0) (h : (rdP (0, s.data.toList)).1 = Fr_.zf ∧ (rdP (0, s.data.toList)).2.1 = e) (hc : ∀ w, Calls Tryd.prog 28 #[.string s] w fun x w' => x = .returned (.tuple #[Fr_.v Fr_.zf, .int .i64 0, .int .i64 e]) ∧ Below w.heap.size w w') : RefIs s := by
  refine ⟨0, fun h0 => absurd (h.2.symm.trans h0) he, ?_⟩
  rw [h.1, h.2]
  exact hc
theorem refIs_ok {s : ByteArray} {S : Nat} (hS : S ≤ s.size) (h : rdP (0, s.data.toList) = (fOf s, (0, s.data.toList.drop S))) (hc : ∀ w, Calls Tryd.prog 28 #[.string s] w fun x w' => x = .returned (.tuple #[Fr_.v (fOf s), .int .i64 (S : Int), .int .i64 0]) ∧ Below w.heap.size w w') : RefIs s := by
  refine ⟨(S : Int), fun _ => ?_, ?_⟩
  · rw [h]
    have := ba_len s
    simp only [List.length_drop]
    omega
  · rw [h]
    exact hc
theorem err_at {s : ByteArray} {e : Int} (h : (rS (0, s.data.toList)).2.1 = e) (he : ¬ e = 0) : (rdP (0, s.data.toList)).1 = Fr_.zf ∧ (rdP (0, s.data.toList)).2.1 = e :=
  rdP_bad (by rw [rR_bad _ (by rw [h]; exact he), h]) he

/-- A whole header: what both do with it. -/
theorem refIs_whole {s : ByteArray} {S : Nat} (hS : S ≤ s.size) (h : rR (rS (0, s.data.toList)) = (fOf s, (0, s.data.toList.drop S)))
    (hgood : chk (fOf s) = 0 → ∀ w, Calls Tryd.prog 28 #[.string s] w fun x w' => x = .returned (.tuple #[Fr_.v (fOf s), .int .i64 (S : Int), .int .i64 0]) ∧ Below w.heap.size w w')
    (hbad : ¬ chk (fOf s) = 0 → ∀ w, Calls Tryd.prog 28 #[.string s] w fun x w' => x = .returned (.tuple #[Fr_.v Fr_.zf, .int .i64 0, .int .i64 (chk (fOf s))]) ∧ Below w.heap.size w w') : RefIs s := by
  by_cases hc : chk (fOf s) = 0
  · exact refIs_ok hS (rdP_of h hc) (hgood hc)
  · exact refIs_err hc (rdP_chk h hc) (hbad hc)

theorem refIs (s : ByteArray) : RefIs s := by
  obtain ⟨k, ek⟩ : ∃ k : Int, (oc s 0 : Int) = k := ⟨_, rfl⟩
  obtain ⟨n, en⟩ : ∃ n, oc s 1 = n := ⟨_, rfl⟩
  have hn : n < 256 := en ▸ oc_lt s 1
  by_cases h0 : s.size = 0
  · exact refIs_err (by decide) (err_at (rS_empty s h0) (by decide)) (fun w => refRead_early s w k n ek en 1 (.inl ⟨h0, rfl⟩))
  by_cases hk : isK k
  case neg => exact refIs_err (by decide) (err_at (rS_nokind s k ek (by omega) hk) (by decide)) (fun w => refRead_early s w k n ek en 3 (.inr (.inl ⟨by omega, hk, rfl⟩)))
  by_cases h1 : s.size = 1
  · exact refIs_err (by decide) (err_at (rS_one s k ek h1 hk) (by decide)) (fun w => refRead_early s w k n ek en 1 (.inr (.inr (.inl ⟨h1, hk, rfl⟩))))
  have h2 : 2 ≤ s.size := by omega
  by_cases hp : pl k ∨ (n : Int) / 64 = 0
  case neg =>
    have hf : ¬ bits .andNot .i64 (n : Int) (us k) = 0 := fun h => hp ((flags_iff hk hn).1 h).1
    exact refIs_err (by decide) (err_at (rS_flags s k n ek en h2 hk hf) (by decide)) (fun w => refRead_early s w k n ek en 3 (.inr (.inr (.inr ⟨h2, hk, fun h => hp (.inl h), fun h => hp (.inr h), rfl⟩))))
  have h64 : pl k ∨ (¬ pl k ∧ (n : Int) / 64 = 0) := by
    by_cases h : pl k
    · exact .inl h
    · exact .inr ⟨h, hp.resolve_left h⟩
  by_cases hb : ∀ i, i < 6 → ¬ bb n k i
  case neg =>
    have hf : ¬ bits .andNot .i64 (n : Int) (us k) = 0 := fun h => hb ((flags_iff hk hn).1 h).2
    have hx : ∃ i, i < 6 ∧ bb n k i := Classical.byContradiction fun hne => hb fun i hi hbi => hne ⟨i, hi, hbi⟩
    exact refIs_err (by decide) (err_at (rS_flags s k n ek en h2 hk hf) (by decide)) (fun w => refRead_flags s w k n ek en h2 hk h64 _ _ _ ⟨hx, rfl, rfl, rfl⟩)
  have hf : bits .andNot .i64 (n : Int) (us k) = 0 := (flags_iff hk hn).2 ⟨hp, hb⟩
  have late : ∀ y z e, Late s k y z e → ∀ w, Calls Tryd.prog 28 #[.string s] w fun x w' => x = .returned (.tuple #[Fr_.v y, .int .i64 z, .int .i64 e]) ∧ Below w.heap.size w w' :=
    fun y z e hl w => refRead_rest s w k n ek en h2 hk h64 y z e ⟨hb, hl⟩
  have short : (s.size : Int) < ln0 k → (rR (rS (0, s.data.toList))).2.1 = 1 → RefIs s := fun hs he =>
    refIs_err (by decide) (rdP_bad he (by decide)) (late _ _ _ (.inl ⟨hs, rfl, rfl, rfl⟩))
  have plain : ¬ k = 18 → ∀ S : Nat, ln0 k = (S : Int) → S ≤ s.size → rR (rS (0, s.data.toList)) = (fOf s, (0, s.data.toList.drop S)) → RefIs s := fun h18 S hS hs hw =>
    refIs_whole hs hw (fun hc => late _ _ _ (.inr (.inr (.inl ⟨h18, by omega, hc, rfl, rfl, hS.symm⟩)))) (fun hc => late _ _ _ (.inr (.inr (.inr (.inl ⟨h18, by omega, rfl, hc, rfl, rfl⟩)))))
  have hk' := hk
  unfold isK at hk'
  by_cases g1 : mg k
  · have e : ln0 k = 24 := if_pos g1
    have g1' := g1
    unfold mg at g1'
    have c1 : fro k := by unfold fro; omega
    have c2 : nb k := .inl g1
    have c3 : ¬ pl k := by unfold pl; omega
    have c4 : ¬ k = 18 := by omega
    by_cases hs : 24 ≤ s.size
    · exact plain c4 24 e hs (whole_mg s k n ek en hk hf c1 c2 c3 c4 hs)
    · exact short (by omega) (short_mg s k n ek en hk hf c1 c2 c3 c4 h2 (by omega))
  by_cases g2 : k = 12 ∨ k = 17 ∨ k = 15 ∨ k = 16
  · have e : ln0 k = 16 := by unfold ln0; rw [if_neg g1, if_pos g2]
    have c1 : fro k := by unfold fro; omega
    have c2 : ¬ nb k := by unfold nb mg pl; omega
    have c3 : ¬ pl k := by unfold pl; omega
    have c4 : ¬ k = 18 := by omega
    by_cases hs : 16 ≤ s.size
    · exact plain c4 16 e hs (whole_rts s k n ek en hk hf c1 c2 c3 c4 hs)
    · exact short (by omega) (short_rts s k n ek en hk hf c1 c2 c3 c4 h2 (by omega))
  by_cases g3 : k = 13 ∨ k = 14
  · have e : ln0 k = 10 := by unfold ln0; rw [if_neg g1, if_neg g2, if_pos g3]
    have c1 : ¬ fro k := by unfold fro; omega
    have c2 : ¬ nb k := by unfold nb mg pl; omega
    have c3 : ¬ pl k := by unfold pl; omega
    have c4 : ¬ k = 18 := by omega
    by_cases hs : 10 ≤ s.size
    · exact plain c4 10 e hs (whole_cts s k n ek en hk hf c1 c2 c3 c4 hs)
    · exact short (by omega) (short_cts s k n ek en hk hf c1 c2 c3 c4 h2 (by omega))
  by_cases c4 : k = 18
  · have e : ln0 k = 27 := by unfold ln0; rw [if_neg g1, if_neg g2, if_neg g3, if_pos c4]
    have c1 : fro k := by unfold fro; omega
    have c3 : pl k := .inl c4
    have c2 : nb k := .inr c3
    by_cases hs : 27 ≤ s.size
    · by_cases hky : nv s 25 27 = 0
      · exact refIs_whole hs (whole_nokey s k n ek en hk hf c1 c2 c3 c4 hs hky) (fun hc => late _ _ _ (.inr (.inr (.inr (.inr (.inl ⟨c4, hs, hky, hc, rfl, rfl, rfl⟩)))))) (fun hc => late _ _ _ (.inr (.inr (.inr (.inr (.inr (.inl ⟨c4, hs, hky, rfl, hc, rfl, rfl⟩)))))))
      · by_cases hs' : 32 ≤ s.size
        · exact refIs_whole hs' (whole_keyed s k n ek en hk hf c1 c2 c3 c4 hs' hky) (fun hc => late _ _ _ (.inr (.inr (.inr (.inr (.inr (.inr (.inl ⟨c4, hs', hky, hc, rfl, rfl, rfl⟩)))))))) (fun hc => late _ _ _ (.inr (.inr (.inr (.inr (.inr (.inr (.inr ⟨c4, hs', hky, rfl, hc, rfl, rfl⟩))))))))
        · exact refIs_err (by decide) (rdP_bad (short_keyed s k n ek en hk hf c1 c2 c3 c4 h2 (by omega) hs hky) (by decide)) (late _ _ _ (.inr (.inl ⟨c4, hs, hky, by omega, rfl, rfl, rfl⟩)))
    · exact short (by omega) (short_nokey s k n ek en hk hf c1 c2 c3 c4 h2 (by omega))
  · have g5 : k = 19 := by unfold mg at g1; omega
    have e : ln0 k = 25 := by unfold ln0; rw [if_neg g1, if_neg g2, if_neg g3, if_neg c4, if_pos g5]
    have c1 : fro k := by unfold fro; omega
    have c3 : pl k := .inr g5
    have c2 : nb k := .inr c3
    by_cases hs : 25 ≤ s.size
    · exact plain c4 25 e hs (whole_null s k n ek en hk hf c1 c2 c3 c4 hs)
    · exact short (by omega) (short_null s k n ek en hk hf c1 c2 c3 c4 h2 (by omega))
end Go.Proofs.YthpilpcjnpnodaaDoor

namespace Go.Proofs.YthpilpcjnpnodaaDoor
open Go.RowKit Go.Hd Go.Wr Go.Ad
attribute [local go_sem ↓ high] Fr_.loadF Fr_.storeF Fr_.v_cells Fr_.v_match fr_guard fr_neq fr_eql fr_guard_lit fr_eql_lit
attribute [local go_sem] Fr_.C0 Fr_.C1 Fr_.C2 Fr_.C3 Fr_.C4 Fr_.C5 Fr_.C6 Fr_.C7 Fr_.C8 Fr_.C9 Fr_.C10 Fr_.C11 Fr_.C12 Fr_.C13 Fr_.C14 Fr_.C15 Fr_.C16 Fr_.C17 Fr_.loadF_new Fr_.storeF_zero Fr_.storeF_new

theorem left_tot (b : Nat) (l : List UInt8) (w : World) (h : Rs w b (0, l)) : Calls Tryd.prog 30 #[.pointer (some ⟨b, 0, none⟩)] w fun e w' => e = .returned (.int .i64 (l.length : Int)) ∧ w = w' := by
  have := left_ok b (bz l) w h
  rwa [bz_size] at this

set_option maxRecDepth 100000 in
set_option maxHeartbeats 4000000 in
theorem parses_bad (t : ByteArray) (W : World) (hl : LaidFacts W) (hs : ¬ (200 : Int) < (t.size : Int)) (y : Fr) (τ : Sg) (D : RdC t.data.toList y τ) (z : Int)
    (CR : ∀ w, Calls Tryd.prog 28 #[.string t] w fun e w' => e = .returned (.tuple #[Fr_.v y, .int .i64 z, .int .i64 τ.1]) ∧ Below w.heap.size w w') (hz : ¬ τ.1 = 0) :
    Calls Tryd.prog 6 #[.string t] W fun e w' => e = .returned (.bool true) ∧ Below W.heap.size W w' := by
  have HT : Hid (∀ w, Below W.heap.size W w → HdTab w) := fun w hb => HdTab.below hl hb (Nat.le_refl _)
  have HK : Hid (0 < W.heap.size) := HdTab.lt hl
  have HD := Lib.hid D
  have HR := Lib.hid CR
  obtain ⟨e0, R⟩ := τ
  have hzn : (e0 != 0) = true := by rw [bne_iff_ne]; exact hz
  obtain rfl : y = Fr_.zf := D.bad hz
  have hee : (e0 != e0) = false := by simp
  clear hz
  obtain ⟨w1, hw1⟩ : ∃ w1, W.alloc (.cells #[.int .i64 0, .string t] 77) = w1 := ⟨_, rfl⟩
  have R1 := Lib.hid (show Rs w1 W.heap.size (0, t.data.toList) from hw1 ▸ rs_new W t)
  have B1 := Lib.hid (show Below W.heap.size W w1 from hw1 ▸ (Below.refl _ _).alloc (Nat.le_refl _) _)
  clear hl D CR
  go_enter Tryd.func6, Tryd.ntmps6
  go_wp2_with (first
    | (go_at_call 26; refine (new_any _ _).mono ?_; rintro e w1' ⟨rfl, rfl⟩)
    | (go_at_call 27; refine (HD.out.rd _ _ (HT.out _ B1.out) R1.out (by have := HK.out; omega)).mono ?_; rintro e w2 ⟨rfl, h2, b2⟩; have R2 := Lib.hid h2; have B2 := Lib.hid (B1.out.trans (b2.below B1.out.size (Nat.le_refl _))); clear h2 b2
       obtain ⟨w3, hw3⟩ : ∃ w3, w2.alloc (.cells (Fr_.C Fr_.zf) 25) = w3 := ⟨_, rfl⟩
       have R3 := Lib.hid (show Rs w3 W.heap.size (e0, R) from R2.out.blk (hw3 ▸ ((Below.refl _ _).alloc (Nat.le_refl _) _).block _ R2.out.lt))
       have B3 := Lib.hid (show Below W.heap.size W w3 from hw3 ▸ B2.out.alloc B2.out.size _)
       have X3 := Lib.hid (show Fr_.Box w3 w2.heap.size Fr_.zf from hw3 ▸ Fr_.Box.newC w2 Fr_.zf))
    | (go_at_call 28; refine (HR.out _).mono ?_; rintro e w4 ⟨rfl, hb⟩
       have R4 := Lib.hid (R3.out.blk (hb.block _ R3.out.lt)); have B4 := Lib.hid (B3.out.trans (hb.mono B3.out.size)); have X4 := Lib.hid (X3.out.below hb X3.out.lt); clear hb
       obtain ⟨w5, hw5⟩ : ∃ w5, w4.alloc (.cells (Fr_.C Fr_.zf) 25) = w5 := ⟨_, rfl⟩
       have R5 := Lib.hid (show Rs w5 W.heap.size (e0, R) from R4.out.blk (hw5 ▸ ((Below.refl _ _).alloc (Nat.le_refl _) _).block _ R4.out.lt))
       have B5 := Lib.hid (show Below W.heap.size W w5 from hw5 ▸ B4.out.alloc B4.out.size _)
       have l5 := (show Fr_.Box w5 w2.heap.size Fr_.zf from hw5 ▸ X4.out.allocC _).loadF
       have l5' := (show Fr_.Box w5 w4.heap.size Fr_.zf from hw5 ▸ Fr_.Box.newC w4 Fr_.zf).loadF)
    | (go_at_call 29; refine (err_tot _ (e0, R) _ R5.out).mono ?_; rintro e w6 ⟨rfl, rfl⟩)
    | (go_at_call 30; refine (left_tot _ R _ R5.out).mono ?_; rintro e w6 ⟨rfl, rfl⟩)
    | (go_at_call 13; refine (lives10_any _ (HT.out _ B5.out)).mono ?_; rintro e w7 ⟨rfl, hb⟩; have B7 := Lib.hid (B5.out.trans (hb.mono B5.out.size)); clear hb))
  all_goals
    go_returns
    exact ⟨rfl, B7.out⟩

set_option maxRecDepth 100000 in
set_option maxHeartbeats 4000000 in
theorem parses_good (t : ByteArray) (W : World) (hl : LaidFacts W) (hs : ¬ (200 : Int) < (t.size : Int)) (y : Fr) (τ : Sg) (D : RdC t.data.toList y τ) (z : Int)
    (CR : ∀ w, Calls Tryd.prog 28 #[.string t] w fun e w' => e = .returned (.tuple #[Fr_.v y, .int .i64 z, .int .i64 τ.1]) ∧ Below w.heap.size w w') (hz : τ.1 = 0 ∧ z = (t.size : Int) - (τ.2.length : Int)) :
    Calls Tryd.prog 6 #[.string t] W fun e w' => e = .returned (.bool true) ∧ Below W.heap.size W w' := by
  have HT : Hid (∀ w, Below W.heap.size W w → HdTab w) := fun w hb => HdTab.below hl hb (Nat.le_refl _)
  have HK : Hid (0 < W.heap.size) := HdTab.lt hl
  have HD := Lib.hid D
  have HR := Lib.hid CR
  obtain ⟨e0, R⟩ := τ
  obtain ⟨rfl, hz⟩ : e0 = 0 ∧ z = (t.size : Int) - (R.length : Int) := hz
  have hlen := congrArg List.length (D.good rfl).2
  rw [List.length_append, ba_len] at hlen
  simp only at hlen
  have hsz : RowKit.wrap64 ((t.size : Int) - z) = (R.length : Int) := by rw [IntWalk.wrap64_in _ (by omega)]; omega
  clear hz
  obtain ⟨w1, hw1⟩ : ∃ w1, W.alloc (.cells #[.int .i64 0, .string t] 77) = w1 := ⟨_, rfl⟩
  have R1 := Lib.hid (show Rs w1 W.heap.size (0, t.data.toList) from hw1 ▸ rs_new W t)
  have B1 := Lib.hid (show Below W.heap.size W w1 from hw1 ▸ (Below.refl _ _).alloc (Nat.le_refl _) _)
  clear hl D CR
  go_enter Tryd.func6, Tryd.ntmps6
  go_wp2_with (first
    | (go_at_call 26; refine (new_any _ _).mono ?_; rintro e w1' ⟨rfl, rfl⟩)
    | (go_at_call 27; refine (HD.out.rd _ _ (HT.out _ B1.out) R1.out (by have := HK.out; omega)).mono ?_; rintro e w2 ⟨rfl, h2, b2⟩; have R2 := Lib.hid h2; have B2 := Lib.hid (B1.out.trans (b2.below B1.out.size (Nat.le_refl _))); clear h2 b2
       obtain ⟨w3, hw3⟩ : ∃ w3, w2.alloc (.cells (Fr_.C y) 25) = w3 := ⟨_, rfl⟩
       have R3 := Lib.hid (show Rs w3 W.heap.size (0, R) from R2.out.blk (hw3 ▸ ((Below.refl _ _).alloc (Nat.le_refl _) _).block _ R2.out.lt))
       have B3 := Lib.hid (show Below W.heap.size W w3 from hw3 ▸ B2.out.alloc B2.out.size _)
       have X3 := Lib.hid (show Fr_.Box w3 w2.heap.size y from hw3 ▸ Fr_.Box.newC w2 y))
    | (go_at_call 28; refine (HR.out _).mono ?_; rintro e w4 ⟨rfl, hb⟩
       have R4 := Lib.hid (R3.out.blk (hb.block _ R3.out.lt)); have B4 := Lib.hid (B3.out.trans (hb.mono B3.out.size)); have X4 := Lib.hid (X3.out.below hb X3.out.lt); clear hb
       obtain ⟨w5, hw5⟩ : ∃ w5, w4.alloc (.cells (Fr_.C y) 25) = w5 := ⟨_, rfl⟩
       have R5 := Lib.hid (show Rs w5 W.heap.size (0, R) from R4.out.blk (hw5 ▸ ((Below.refl _ _).alloc (Nat.le_refl _) _).block _ R4.out.lt))
       have B5 := Lib.hid (show Below W.heap.size W w5 from hw5 ▸ B4.out.alloc B4.out.size _)
       have l5 := (show Fr_.Box w5 w2.heap.size y from hw5 ▸ X4.out.allocC _).loadF
       have l5' := (show Fr_.Box w5 w4.heap.size y from hw5 ▸ Fr_.Box.newC w4 y).loadF)
    | (go_at_call 29; refine (err_tot _ (0, R) _ R5.out).mono ?_; rintro e w6 ⟨rfl, rfl⟩)
    | (go_at_call 30; refine (left_tot _ R _ R5.out).mono ?_; rintro e w6 ⟨rfl, rfl⟩)
    | (go_at_call 13; refine (lives10_any _ (HT.out _ B5.out)).mono ?_; rintro e w7 ⟨rfl, hb⟩; have B7 := Lib.hid (B5.out.trans (hb.mono B5.out.size)); clear hb))
  all_goals
    go_returns
    exact ⟨rfl, B7.out⟩

set_option maxRecDepth 100000 in
set_option maxHeartbeats 4000000 in
theorem parses_long (t : ByteArray) (W : World) (hl : LaidFacts W) (hs : (200 : Int) < (t.size : Int)) :
    Calls Tryd.prog 6 #[.string t] W fun e w' => e = .returned (.bool true) ∧ Below W.heap.size W w' := by
  have CL := Lib.hid (lives10_any W hl)
  clear hl
  go_enter Tryd.func6, Tryd.ntmps6
  go_wp2_with (go_at_call 13; refine CL.out.mono ?_; rintro e w2 ⟨rfl, hb⟩; have S2 := Lib.hid hb; clear hb)
  go_returns
  exact ⟨rfl, S2.out⟩

theorem headerParses_walk0 (t : ByteArray) (_ : t.size ≤ 140737488351232) (W : World) (hl : LaidFacts W) :
    Calls Tryd.prog 6 #[.string t] W fun e w' => e = .returned (.bool true) ∧ Below W.heap.size W w' := by
  by_cases hs : (200 : Int) < (t.size : Int)
  · exact parses_long t W hl hs
  obtain ⟨z, hz, CR⟩ := refIs t
  have D := rdC t.data.toList
  by_cases h : (rdP (0, t.data.toList)).2.1 = 0
  · exact parses_good t W hl hs _ _ D z CR ⟨h, hz h⟩
  · exact parses_bad t W hl hs _ _ D z CR h
end Go.Proofs.YthpilpcjnpnodaaDoor
