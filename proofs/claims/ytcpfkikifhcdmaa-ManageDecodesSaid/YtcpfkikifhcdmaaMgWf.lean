/-
  WALKS of package manage: writeFields.
-/
import Derived.Test.YtcpfkikifhcdmaaMgWrt
import Derived.Test.YtcpfkikifhcdmaaAdDoneB
namespace Go.Mg
open Go.Wr Go.Ad
def hs (u f : Int) : Bool := bits .and .i64 u f != 0
/-- The octets of the fields, as the landed code writes them. -/
def wF (u : Int) (b : Bd) : List UInt8 :=
  (if hs u 8 = true then ow b.nm.size 1 ++ b.nm.data.toList else []) ++ (wN (bits .andNot .i64 u 4096) b 14 ++ ((if hs u 64 = true then be b.od.toNat else []) ++ wN (bits .and .i64 u 4096) b 14))
theorem wF_rst {b : Bd} (h : isK b.kd) : wF (us b.kd) b = rst b := by
  unfold wF rst pln nmo
  generalize hd : b.kd = k at h
  rcases kinds h with rfl | rfl | rfl | rfl | rfl | rfl | rfl | rfl | rfl | rfl | rfl | rfl
  all_goals
    simp (config := { decide := true }) only [wN, if_true, if_false, List.append_nil, List.nil_append, List.append_assoc]
    try rfl
end Go.Mg
namespace Go.Proofs.Ytcpfkikifhcdmaa
open Go.RowKit Go.Mg Go.Wr Go.Ad
attribute [local go_sem ↓ high] Bd_.loadF Bd_.storeF Bd_.v_cells Bd_.v_match Bd_.loadP
attribute [local go_sem] Bd_.C0 Bd_.C4 Bd_.C7 Bd_.loadF_new

/-- The body's copy, the Writer at gw, all else as it was. -/
structure Wfs (w : World) (gw : Nat) (b : Bd) (L : List UInt8) (wi : World) : Prop where
  box : Bd_.Box wi w.heap.size b
  wr : Wr wi gw L
  bt : But gw w wi
  lt : gw < w.heap.size
theorem Wfs.put {w wi w' : World} {gw : Nat} {b : Bd} {L L' : List UInt8} (h : Wfs w gw b L wi) (h1 : Wr w' gw L') (h2 : But gw wi w') : Wfs w gw b L' w' := by
  have hlt := h.lt
  exact ⟨(h2.block _ h.box.lt (by omega)).trans h.box, h1, h.bt.trans h2, h.lt⟩
theorem Wfs.new {w : World} {gw : Nat} {L : List UInt8} (h : Wr w gw L) (b : Bd) : Wfs w gw b L (w.alloc (.cells (Bd_.C b) 27)) := by
  have hb : Below w.heap.size w (w.alloc (.cells (Bd_.C b) 27)) := (Below.refl _ _).alloc (Nat.le_refl _) _
  exact ⟨Bd_.Box.new w b, h.below hb, But.of_below hb (Nat.le_refl _), h.lt⟩

set_option maxRecDepth 100000 in
set_option maxHeartbeats 8000000 in
theorem mgWriteF_any (b : Bd) (gw : Nat) (L : List UInt8) (w : World) (h : Wr w gw L) (hf : Fit b) (hL : L.length ≤ 10) :
    Calls Try.prog 18 #[.pointer (some ⟨gw, 0, none⟩), Bd_.v b] w fun e w' => e = .returned (.tuple #[]) ∧ Wr w' gw (L ++ wF (us b.kd) b) ∧ But gw w w' := by
  obtain ⟨w1, hw1⟩ : ∃ w1, w.alloc (.cells (Bd_.C b) 27) = w1 := ⟨_, rfl⟩
  have S1 := Lib.hid (show Wfs w gw b L w1 from hw1 ▸ Wfs.new h b)
  have e1 := S1.out.box.all
  have lf1 := S1.out.box.loadF
  have CU := Lib.hid fun w => mgUsed_any b.kd w
  have CH8 := Lib.hid fun w => mgHas_any (us b.kd) 8 w
  have CH64 := Lib.hid fun w => mgHas_any (us b.kd) 64 w
  have hn := hf.nm
  have ho := hf.od
  have HWF : Hid (wF (us b.kd) b = (if hs (us b.kd) 8 = true then ow b.nm.size 1 ++ b.nm.data.toList else []) ++ (wN (bits .andNot .i64 (us b.kd) 4096) b 14 ++ ((if hs (us b.kd) 64 = true then be b.od.toNat else []) ++ wN (bits .and .i64 (us b.kd) 4096) b 14))) := rfl
  have CP : Hid (∀ w1, Wfs w gw b L w1 → Calls Try.prog 17 #[.pointer (some ⟨gw, 0, none⟩), .int .i64 b.nm.size, .int .i64 1] w1 fun e w' => e = .returned (.tuple #[]) ∧ Wfs w gw b (L ++ ow b.nm.size 1) w') := fun w1 h1 => by
    have c := put_ok gw L b.nm.size 1 w1 h1.wr (by decide) (by decide) (by rw [show pow 1 = 256 from by decide]; omega) (by omega)
    exact c.mono fun _ _ q => ⟨q.1, h1.put q.2.1 q.2.2⟩
  have CT : Hid (∀ w1, Wfs w gw b (L ++ ow b.nm.size 1) w1 → Calls Try.prog 39 #[.pointer (some ⟨gw, 0, none⟩), .string b.nm] w1 fun e w' => e = .returned (.tuple #[]) ∧ Wfs w gw b (L ++ ow b.nm.size 1 ++ b.nm.data.toList) w') := fun w1 h1 => by
    have c := text_ok gw _ b.nm w1 h1.wr (by rw [List.length_append, ow_len]; omega)
    exact c.mono fun _ _ q => ⟨q.1, h1.put q.2.1 q.2.2⟩
  have CN : Hid (∀ s K w1, K.length ≤ 1000 → Wfs w gw b K w1 → Calls Try.prog 40 #[.pointer (some ⟨gw, 0, none⟩), Bd_.v b, .int .i64 s] w1 fun e w' => e = .returned (.tuple #[]) ∧ Wfs w gw b (K ++ wN s b 14) w') := fun s K w1 hK h1 => by
    have c := mgWriteN_any s b gw K w1 h1.wr hf (by omega)
    exact c.mono fun _ _ q => ⟨q.1, h1.put q.2.1 q.2.2⟩
  have CA : Hid (∀ K w1, K.length ≤ 1000 → Wfs w gw b K w1 → Calls Try.prog 41 #[.pointer (some ⟨gw, 0, none⟩), .int .u64 b.od] w1 fun e w' => e = .returned (.tuple #[]) ∧ Wfs w gw b (K ++ be b.od.toNat) w') := fun K w1 hK h1 => by
    have c := write_ok gw K b.od.toNat w1 h1.wr (by omega) hK
    rw [Int.toNat_of_nonneg ho.1] at c
    exact c.mono fun _ _ q => ⟨q.1, h1.put q.2.1 q.2.2⟩
  have HLN := Lib.hid fun s => wN_len s b 14 (Nat.le_refl _)
  have hK1 : Hid ((L ++ ow b.nm.size 1 ++ b.nm.data.toList).length ≤ 100) := by
    unfold Hid; rw [List.length_append, List.length_append, ow_len, nm_len]; omega
  have hK0 : Hid (L.length ≤ 100) := by unfold Hid; omega
  have HL4 : ∀ (K M : List UInt8), K.length ≤ 100 → M.length ≤ 6 * 14 → (K ++ M).length ≤ 500 := fun K M h1 h2 => by rw [List.length_append]; omega
  have HL5 : ∀ (K M : List UInt8), K.length ≤ 500 → M.length = 6 → (K ++ M).length ≤ 1000 := fun K M h1 h2 => by rw [List.length_append]; omega
  have HAL := Lib.hid (be_len b.od.toNat)
  generalize us b.kd = u at *
  clear hn ho hf h hL
  unfold hs at HWF
  obtain ⟨T, hT⟩ : ∃ T : Int → List UInt8, ∀ s, wN s b 14 = T s := ⟨_, fun _ => rfl⟩
  simp only [hT] at CN HWF HLN
  clear hT
  generalize hN : ow b.nm.size 1 = oN at *
  generalize hM : b.nm.data.toList = oM at *
  clear hN hM
  generalize be b.od.toNat = oA at *
  cases g8 : (bits .and .i64 u 8 != 0) <;> rw [g8] at CH8 HWF <;> clear g8 <;> cases g64 : (bits .and .i64 u 64 != 0) <;> rw [g64] at CH64 HWF <;> clear g64
  all_goals
    simp only [if_true, if_false, Bool.false_eq_true, List.nil_append] at HWF
    go_enter Try.func18, Try.ntmps18
    go_wp2_with (first
      | (go_at_call 21; refine (CU.out _).mono ?_; rintro e w' ⟨rfl, rfl⟩)
      | (go_at_call 38; with_reducible refine (CH8.out _).mono ?_; rintro e w' ⟨rfl, rfl⟩)
      | (go_at_call 38; with_reducible refine (CH64.out _).mono ?_; rintro e w' ⟨rfl, rfl⟩)
      | (go_at_call 17; refine (CP.out _ S1.out).mono ?_; rintro e w2 ⟨rfl, h2⟩; have S2 := Lib.hid h2; have e2 := h2.box.all; clear h2)
      | (go_at_call 39; refine (CT.out _ S2.out).mono ?_; rintro e w3 ⟨rfl, h2⟩; have S3 := Lib.hid h2; have lf3 := h2.box.loadF; clear h2)
      | (go_at_call 40; refine (CN.out _ _ _ (HK5.out) S5.out).mono ?_; rintro e w6 ⟨rfl, h2⟩; have S6 := Lib.hid h2; clear h2)
      | (go_at_call 40; refine (CN.out _ _ _ (Nat.le_trans HK4.out (by decide)) S4.out).mono ?_; rintro e w6 ⟨rfl, h2⟩; have S6 := Lib.hid h2; clear h2)
      | (go_at_call 40; refine (CN.out _ _ _ (by have := hK1.out; omega) S3.out).mono ?_; rintro e w4 ⟨rfl, h2⟩; have S4 := Lib.hid h2; have e4 := h2.box.all; have lf4 := h2.box.loadF; have HK4 := Lib.hid (HL4 _ _ hK1.out (HLN.out (bits .andNot .i64 u 4096))); clear h2)
      | (go_at_call 40; refine (CN.out _ _ _ (by have := hK0.out; omega) S1.out).mono ?_; rintro e w4 ⟨rfl, h2⟩; have S4 := Lib.hid h2; have e4 := h2.box.all; have lf4 := h2.box.loadF; have HK4 := Lib.hid (HL4 _ _ hK0.out (HLN.out (bits .andNot .i64 u 4096))); clear h2)
      | (go_at_call 41; refine (CA.out _ _ (Nat.le_trans HK4.out (by decide)) S4.out).mono ?_; rintro e w5 ⟨rfl, h2⟩; have S5 := Lib.hid h2; have lf5 := h2.box.loadF; have HK5 := Lib.hid (HL5 _ _ HK4.out HAL.out); clear h2))
    go_returns
    have hw6 := S6.out.wr
    rw [HWF.out]
    simp only [List.append_assoc] at hw6 ⊢
    exact ⟨trivial, hw6, S6.out.bt⟩
end Go.Proofs.Ytcpfkikifhcdmaa
