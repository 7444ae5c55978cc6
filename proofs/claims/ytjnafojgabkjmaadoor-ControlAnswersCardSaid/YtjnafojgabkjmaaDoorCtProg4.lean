/-
  WALKS of the landed package control (1e08cd0): Block, readStart, finish, ReadRequest, ReadBlock.
-/
import Derived.Test.YtjnafojgabkjmaaDoorCtProg3
import Derived.Test.YtjnafojgabkjmaaDoorRdTot
namespace Go.Proofs.YtjnafojgabkjmaaDoor
open Go.RowKit Go.Hd Go.Wr Go.Ct
attribute [local go_sem ↓ high] Fr_.loadF Fr_.storeF Fr_.v_cells Fr_.v_match
attribute [local go_sem] Fr_.C0 Fr_.C1 Fr_.C2 Fr_.C3 Fr_.C4 Fr_.C5 Fr_.C6 Fr_.C7 Fr_.C8 Fr_.C9 Fr_.C10 Fr_.C11 Fr_.C12 Fr_.C13 Fr_.C14 Fr_.C15 Fr_.C16 Fr_.C17 Fr_.storeF_zero

set_option maxRecDepth 100000 in
set_option maxHeartbeats 2000000 in
theorem block_yes (f : Fr) (c s : Int) (m : Nat) (hm : m < 18446744073709551616) (w : World) (ht : HdTab w) (hu : FrU f) (hok : okB f c s) :
    Calls Tryd.prog 14 #[Fr_.v f, .int .i64 c, .int .i64 s, .int .u64 (m : Int)] w fun e w' => e = .returned (.tuple #[Fr_.v (mkF 16 0 f.fa f.ta (bw (bl c s m))), .bool true]) ∧ Below w.heap.size w w' := by
  obtain ⟨w1, hw1⟩ : ∃ w1, w.alloc (.cells (Fr_.C f) 27) = w1 := ⟨_, rfl⟩
  obtain ⟨w2, hw2⟩ : ∃ w2, w1.alloc (.cells #[.int .i64 0, .bool false, .bool false, .bool false, .bool false, .bool false, .bool false, .int .i64 0, .int .i64 0, .int .u64 0, .int .u64 0, .int .u64 0, .int .i64 0, .int .i64 0, .int .i64 0, .int .i64 0, .int .i64 0, .string ⟨#[]⟩] 27) = w2 := ⟨_, rfl⟩
  have st := Lib.hid (show Fst w f w1.heap.size w2 from hw2 ▸ Fst.new f hw1)
  have CK : Hid (∀ w1, Below w.heap.size w w1 → Calls Tryd.prog 42 #[Fr_.v f] w1 fun e w' => e = .returned (.bool true) ∧ Below w1.heap.size w1 w') := fun w1 _ => (decide_eq_true hok.2.1) ▸ asks_any f w1
  have CA : Hid (∀ w1, Below w.heap.size w w1 → Calls Tryd.prog 30 #[Fr_.v f] w1 fun e w' => e = .returned (.bool true) ∧ Below w1.heap.size w1 w') := fun w1 hb => (decide_eq_true hok.1) ▸ answerable_any f w1 (HdTab.below ht hb (Nat.le_refl _)) hu
  have CI : Hid (∀ w1, Calls Tryd.prog 39 #[.int .i64 c, .int .i64 s] w1 fun e w' => e = .returned (.bool true) ∧ w1 = w') := fun w1 => (decide_eq_true hok.2.2) ▸ inRange_any c s w1
  have HW := Lib.hid hok.2.2
  have CP : Hid (∀ (b : Nat) (L : List UInt8) (n : Nat) (w : World), n < 4294967296 → L.length ≤ 100 → Wr w b L → Calls Tryd.prog 43 #[.pointer (some ⟨b, 0, none⟩), .int .i64 (n : Int), .int .i64 4] w fun e w' => e = .returned (.tuple #[]) ∧ Wr w' b (L ++ le n 4) ∧ But b w w') := fun b L n w hn hL h => put_int b L n 4 w h ⟨by decide, by decide⟩ (by rw [show pow 4 = 4294967296 by decide]; omega) (by omega)
  have l2 := st.out.box.loadF
  obtain ⟨lo, hlo⟩ : ∃ lo, m % 4294967296 = lo := ⟨_, rfl⟩
  obtain ⟨hi, hhi⟩ : ∃ hi, m / 4294967296 = hi := ⟨_, rfl⟩
  have t1 : (m : Int).tmod 4294967296 = (lo : Int) := by rw [Int.tmod_eq_emod_of_nonneg (by omega)]; omega
  have t2 : (m : Int) / 4294967296 = (hi : Int) := by omega
  have b1 : lo < 4294967296 := by omega
  have b2 : hi < 4294967296 := by omega
  have BH : Hid (bl c s m = ql c s ++ le lo 4 ++ le hi 4) := by unfold Hid bl; rw [← hlo, ← hhi, List.append_assoc, le_halves]
  clear hok ht hu hlo hhi
  go_enter Tryd.func14, Tryd.ntmps14
  go_wp2_with (first
    | (go_at_call 42; refine (CK.out _ st.out.bel).mono ?_; rintro e w3 ⟨rfl, hb⟩; have st3 := Lib.hid (st.out.keep hb); clear hb l2; have l3 := st3.out.box.loadF)
    | (go_at_call 30; refine (CA.out _ st3.out.bel).mono ?_; rintro e w4 ⟨rfl, hb⟩; have st4 := Lib.hid (st3.out.keep hb); clear hb l3
       obtain ⟨w5, hw5⟩ : ∃ w5, w4.alloc (.cells #[.int .i64 0, .pointer none, .string ⟨#[]⟩] 59) = w5 := ⟨_, rfl⟩
       have H5 := Lib.hid (show Wr w5 w4.heap.size [] from hw5 ▸ wr_new w4)
       have st5 := Lib.hid (show Fst w f w1.heap.size w5 from hw5 ▸ st4.out.keep ((Below.refl _ _).alloc (Nat.le_refl _) _))
       have HN : Hid (w1.heap.size < w4.heap.size) := st4.out.res.lt)
    | (go_at_call 39; refine (CI.out _).mono ?_; rintro e w' ⟨rfl, rfl⟩)
    | (go_at_call 40; refine (writeStart_any _ c s _ H5.out HW.out).mono ?_; rintro e w6 ⟨rfl, h6, b6⟩; have H6 := Lib.hid h6; have st6 := Lib.hid (st5.out.but b6 (Nat.ne_of_lt HN.out) (Nat.lt_trans st5.out.re HN.out)); clear h6 b6)
    | (go_at_call 43; with_reducible refine (CP.out _ _ lo _ b1 (by rw [ql_len]; decide) H6.out).mono ?_; rintro e w7 ⟨rfl, h7, b7⟩; have H7 := Lib.hid h7; have st7 := Lib.hid (st6.out.but b7 (Nat.ne_of_lt HN.out) (Nat.lt_trans st6.out.re HN.out)); clear h7 b7)
    | (go_at_call 43; with_reducible refine (CP.out _ _ hi _ b2 (by rw [List.length_append, ql_len, le_len]; decide) H7.out).mono ?_; rintro e w8 ⟨rfl, h8, b8⟩; have H8 := Lib.hid h8; have st8 := Lib.hid (st7.out.but b8 (Nat.ne_of_lt HN.out) (Nat.lt_trans st7.out.re HN.out)); clear h8 b8; have e8 := st8.out.box.all)
    | (go_at_call 41; refine (withBody_any 16 f.fa f.ta _ (bl c s m) _ (BH.out ▸ H8.out) (by rw [bl_len]; decide)).mono ?_; rintro e w9 ⟨rfl, hb⟩; have st9 := Lib.hid (st8.out.keep hb); clear hb e8; have sf := st9.out.res.storeF (mkF 16 0 f.fa f.ta (bw (bl c s m)))))
  exact ret_two Tryd.results14 rfl rfl (st9.out.res.setRow _) rfl ⟨rfl, st9.out.fin _⟩

set_option maxRecDepth 100000 in
set_option maxHeartbeats 2000000 in
theorem block_no (f : Fr) (c s : Int) (m : Int) (w : World) (ht : HdTab w) (hu : FrU f) (hok : ¬ okB f c s) :
    Calls Tryd.prog 14 #[Fr_.v f, .int .i64 c, .int .i64 s, .int .u64 m] w fun e w' => e = .returned (.tuple #[Fr_.v Fr_.zf, .bool false]) ∧ Below w.heap.size w w' := by
  obtain ⟨w1, hw1⟩ : ∃ w1, w.alloc (.cells (Fr_.C f) 27) = w1 := ⟨_, rfl⟩
  obtain ⟨w2, hw2⟩ : ∃ w2, w1.alloc (.cells #[.int .i64 0, .bool false, .bool false, .bool false, .bool false, .bool false, .bool false, .int .i64 0, .int .i64 0, .int .u64 0, .int .u64 0, .int .u64 0, .int .i64 0, .int .i64 0, .int .i64 0, .int .i64 0, .int .i64 0, .string ⟨#[]⟩] 27) = w2 := ⟨_, rfl⟩
  have st := Lib.hid (show Fst w f w1.heap.size w2 from hw2 ▸ Fst.new f hw1)
  have CK := Lib.hid (fun w1 => asks_any f w1)
  have CA : Hid (∀ w1, Below w.heap.size w w1 → Calls Tryd.prog 30 #[Fr_.v f] w1 fun e w' => e = .returned (.bool (decide (ans f))) ∧ Below w1.heap.size w1 w') := fun w1 hb => answerable_any f w1 (HdTab.below ht hb (Nat.le_refl _)) hu
  have CI := Lib.hid (fun w1 => inRange_any c s w1)
  have l2 := st.out.box.loadF
  clear ht hu
  by_cases hk : asks f
  · rw [decide_eq_true hk] at CK
    by_cases ha : ans f
    · rw [decide_eq_true ha] at CA
      rw [decide_eq_false (show ¬ win c s from fun h => hok ⟨ha, hk, h⟩)] at CI
      clear hok hk ha
      go_enter Tryd.func14, Tryd.ntmps14
      go_wp2_with (first
        | (go_at_call 42; refine (CK.out _).mono ?_; rintro e w3 ⟨rfl, hb⟩; have st3 := Lib.hid (st.out.keep hb); clear hb l2; have l3 := st3.out.box.loadF)
        | (go_at_call 30; refine (CA.out _ st3.out.bel).mono ?_; rintro e w4 ⟨rfl, hb⟩; have st4 := Lib.hid (st3.out.keep hb); clear hb l3; have sf := st4.out.zero)
        | (go_at_call 39; refine (CI.out _).mono ?_; rintro e w' ⟨rfl, rfl⟩))
      exact ret_two Tryd.results14 rfl rfl (st4.out.res.setRow _) rfl ⟨rfl, st4.out.fin _⟩
    · rw [decide_eq_false ha] at CA
      clear hok hk ha
      go_enter Tryd.func14, Tryd.ntmps14
      go_wp2_with (first
        | (go_at_call 42; refine (CK.out _).mono ?_; rintro e w3 ⟨rfl, hb⟩; have st3 := Lib.hid (st.out.keep hb); clear hb l2; have l3 := st3.out.box.loadF)
        | (go_at_call 30; refine (CA.out _ st3.out.bel).mono ?_; rintro e w4 ⟨rfl, hb⟩; have st4 := Lib.hid (st3.out.keep hb); clear hb l3; have sf := st4.out.zero))
      exact ret_two Tryd.results14 rfl rfl (st4.out.res.setRow _) rfl ⟨rfl, st4.out.fin _⟩
  · rw [decide_eq_false hk] at CK
    clear hok hk
    go_enter Tryd.func14, Tryd.ntmps14
    go_wp2_with (first
      | (go_at_call 42; refine (CK.out _).mono ?_; rintro e w3 ⟨rfl, hb⟩; have st3 := Lib.hid (st.out.keep hb); clear hb l2; have sf := st3.out.zero))
    exact ret_two Tryd.results14 rfl rfl (st3.out.res.setRow _) rfl ⟨rfl, st3.out.fin _⟩
theorem block_any (f : Fr) (c s : Int) (m : Nat) (hm : m < 18446744073709551616) (w : World) (ht : HdTab w) (hu : FrU f) :
    Calls Tryd.prog 14 #[Fr_.v f, .int .i64 c, .int .i64 s, .int .u64 (m : Int)] w fun e w' => e = .returned (.tuple #[Fr_.v (blkF f c s m), .bool (decide (okB f c s))]) ∧ Below w.heap.size w w' := by
  by_cases h : okB f c s
  · rw [decide_eq_true h, show blkF f c s m = mkF 16 0 f.fa f.ta (bw (bl c s m)) from if_pos h]
    exact block_yes f c s m hm w ht hu h
  · rw [decide_eq_false h, show blkF f c s m = Fr_.zf from if_neg h]
    exact block_no f c s m w ht hu h

/-! ### Reading -/
/-- How a body that was read to its end is judged. -/
def fin (σ : Sg) (c s : Int) : Int := if σ.1 = 0 then (if 0 < σ.2.length then 2 else if win c s then 0 else 4) else σ.1

set_option maxHeartbeats 2000000 in
theorem readStart11_any (b : Nat) (σ : Sg) (w : World) (h : Rs w b σ) :
    Calls Tryd.prog 45 #[.pointer (some ⟨b, 0, none⟩)] w fun e w' => e = .returned (.tuple #[.int .i64 (rN 1 σ).1, .int .i64 (rN 2 (rN 1 σ).2).1]) ∧ Rs w' b (rN 2 (rN 1 σ).2).2 ∧ But b w w' := by
  have C1 : Hid (∀ w, Rs w b σ → Calls Tryd.prog 47 #[.pointer (some ⟨b, 0, none⟩), .int .i64 1] w fun e w' => e = .returned (.int .i64 (rN 1 σ).1) ∧ Rs w' b (rN 1 σ).2 ∧ But b w w') := fun w h => num_tot 1 b σ w h ⟨by decide, by decide⟩
  have C2 : Hid (∀ w, Rs w b (rN 1 σ).2 → Calls Tryd.prog 47 #[.pointer (some ⟨b, 0, none⟩), .int .i64 2] w fun e w' => e = .returned (.int .i64 (rN 2 (rN 1 σ).2).1) ∧ Rs w' b (rN 2 (rN 1 σ).2).2 ∧ But b w w') := fun w h => num_tot 2 b _ w h ⟨by decide, by decide⟩
  have H := Lib.hid h
  clear h
  go_enter Tryd.func45, Tryd.ntmps45
  go_wp2_with (first
    | (go_at_call 47; with_reducible refine (C1.out _ H.out).mono ?_; rintro e w1 ⟨rfl, h1, b1⟩; have H1 := Lib.hid h1; have B1 := Lib.hid b1; clear h1 b1)
    | (go_at_call 47; with_reducible refine (C2.out _ H1.out).mono ?_; rintro e w2 ⟨rfl, h1, b1⟩; have H2 := Lib.hid h1; have B2 := Lib.hid (B1.out.trans b1); clear h1 b1))
  go_returns
  exact ⟨rfl, H2.out, B2.out⟩

set_option maxHeartbeats 2000000 in
theorem finish_any (b : Nat) (σ : Sg) (c s : Int) (w : World) (h : Rs w b σ) :
    Calls Tryd.prog 46 #[.pointer (some ⟨b, 0, none⟩), .int .i64 c, .int .i64 s] w fun e w' => e = .returned (.int .i64 (fin σ c s)) ∧ w = w' := by
  have CE := Lib.hid (end_tot b σ w h)
  have CI := Lib.hid (fun w => inRange_any c s w)
  unfold fin
  clear h
  by_cases he : σ.1 = 0
  · rw [if_pos he] at CE ⊢
    by_cases hl : 0 < σ.2.length
    · rw [if_pos hl] at CE ⊢
      clear he hl
      go_enter Tryd.func46, Tryd.ntmps46
      go_wp2_with (go_at_call 67; refine CE.out.mono ?_; rintro e w' ⟨rfl, rfl⟩)
      go_returns
      exact ⟨rfl, rfl⟩
    · rw [if_neg hl] at CE ⊢
      by_cases hw : win c s
      · rw [if_pos hw]
        rw [decide_eq_true hw] at CI
        clear he hl hw
        go_enter Tryd.func46, Tryd.ntmps46
        go_wp2_with (first | (go_at_call 67; refine CE.out.mono ?_; rintro e w' ⟨rfl, rfl⟩) | (go_at_call 39; refine (CI.out _).mono ?_; rintro e w' ⟨rfl, rfl⟩))
        go_returns
        exact ⟨rfl, rfl⟩
      · rw [if_neg hw]
        rw [decide_eq_false hw] at CI
        clear he hl hw
        go_enter Tryd.func46, Tryd.ntmps46
        go_wp2_with (first | (go_at_call 67; refine CE.out.mono ?_; rintro e w' ⟨rfl, rfl⟩) | (go_at_call 39; refine (CI.out _).mono ?_; rintro e w' ⟨rfl, rfl⟩))
        go_returns
        exact ⟨rfl, rfl⟩
  · rw [if_neg he] at CE ⊢
    have hb : (σ.1 != 0) = true := by rw [bne_iff_ne]; exact he
    clear he
    go_enter Tryd.func46, Tryd.ntmps46
    go_wp2_with (go_at_call 67; refine CE.out.mono ?_; rintro e w' ⟨rfl, rfl⟩)
    go_returns
    exact ⟨rfl, rfl⟩
end Go.Proofs.YtjnafojgabkjmaaDoor
