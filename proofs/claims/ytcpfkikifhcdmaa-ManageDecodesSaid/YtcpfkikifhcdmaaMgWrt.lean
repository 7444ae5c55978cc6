/-
  WALKS of package manage: writeNumbers.
-/
import Derived.Test.YtcpfkikifhcdmaaMgNum
import Derived.Deep.RegionHeld3
namespace Go.Mg
open Go.Wr
/-- The octets of the first numbers that are in the set. -/
def wN (s : Int) (b : Bd) : Nat → List UInt8
  | 0 => []
  | k + 1 => wN s b k ++ (if (bits .and .i64 s (fk k) != 0) = true then ow (fv b k) (fz k) else [])
theorem wN_len (s : Int) (b : Bd) (k : Nat) (hk : k ≤ 14) : (wN s b k).length ≤ 6 * k := by
  induction k with
  | zero => exact Nat.le_refl _
  | succ k ih =>
    have hz : fz k ≤ 6 := by
      rcases (show k = 0 ∨ k = 1 ∨ k = 2 ∨ k = 3 ∨ k = 4 ∨ k = 5 ∨ k = 6 ∨ k = 7 ∨ k = 8 ∨ k = 9 ∨ k = 10 ∨ k = 11 ∨ k = 12 ∨ k = 13 by omega) with rfl | rfl | rfl | rfl | rfl | rfl | rfl | rfl | rfl | rfl | rfl | rfl | rfl | rfl <;> decide
    rw [wN, List.length_append]
    have := ih (by omega)
    split
    · rw [ow_len]; omega
    · simp only [List.length_nil]; omega
end Go.Mg
namespace Go.Proofs.Ytcpfkikifhcdmaa
open Go.RowKit Go.Mg Go.Wr
attribute [local go_sem ↓ high] Bd_.loadF Bd_.storeF Bd_.v_cells Bd_.v_match Bd_.loadP loadN

/-- The body's copy, the row of its numbers, the Writer at gw, all else as it was. -/
structure Wst (w : World) (gw : Nat) (b : Bd) (L : List UInt8) (wi : World) : Prop where
  box : Bd_.Box wi w.heap.size b
  row : Blk wi (w.heap.size + 1) 89 (NC w.heap.size)
  wr : Wr wi gw L
  bt : But gw w wi
  lt : gw < w.heap.size
theorem Wst.keep {w wi w' : World} {gw : Nat} {b : Bd} {L : List UInt8} (h : Wst w gw b L wi) (hb : Below wi.heap.size wi w') : Wst w gw b L w' :=
  ⟨h.box.below hb h.box.lt, h.row.of_block (hb.block _ h.row.lt), h.wr.below hb, h.bt.trans (But.of_below hb (Nat.le_refl _)), h.lt⟩
theorem Wst.put {w wi w' : World} {gw : Nat} {b : Bd} {L L' : List UInt8} (h : Wst w gw b L wi) (h1 : Wr w' gw L') (h2 : But gw wi w') : Wst w gw b L' w' := by
  have hlt := h.lt
  exact ⟨(h2.block _ h.box.lt (by omega)).trans h.box, h2.blk h.row (by omega), h1, h.bt.trans h2, h.lt⟩
/-- In a round: the number's copy too. -/
structure Wrd (w : World) (gw : Nat) (b : Bd) (L : List UInt8) (nb k : Nat) (wi : World) : Prop where
  st : Wst w gw b L wi
  num : Blk wi nb 89 [.int .i64 (fk k), .pointer (some ⟨w.heap.size, fo k, none⟩), .int .i64 (fz k : Int)]
  le : w.heap.size ≤ nb
theorem Wrd.keep {w wi w' : World} {gw : Nat} {b : Bd} {L : List UInt8} {nb k : Nat} (h : Wrd w gw b L nb k wi) (hb : Below wi.heap.size wi w') : Wrd w gw b L nb k w' :=
  ⟨h.st.keep hb, h.num.of_block (hb.block _ h.num.lt), h.le⟩
theorem Wrd.put {w wi w' : World} {gw : Nat} {b : Bd} {L L' : List UInt8} {nb k : Nat} (h : Wrd w gw b L nb k wi) (h1 : Wr w' gw L') (h2 : But gw wi w') : Wrd w gw b L' nb k w' := by
  have hlt := h.st.lt
  have hle := h.le
  exact ⟨h.st.put h1 h2, h2.blk h.num (by omega), h.le⟩
theorem Wrd.new {w wi : World} {gw : Nat} {b : Bd} {L : List UInt8} (h : Wst w gw b L wi) (k : Nat) :
    Wrd w gw b L wi.heap.size k (wi.alloc (.cells #[.int .i64 (fk k), .pointer (some ⟨w.heap.size, fo k, none⟩), .int .i64 (fz k : Int)] 89)) :=
  ⟨h.keep ((Below.refl _ _).alloc (Nat.le_refl _) _), Blk.new wi _ _ _ rfl, h.bt.size⟩
theorem Wrd.c {w wi : World} {gw : Nat} {b : Bd} {L : List UInt8} {nb k : Nat} (h : Wrd w gw b L nb k wi) (hk : k < 14) : wi.cell? ⟨nb, 0, none⟩ = some (.int .i64 (fk k)) ∧ wi.cell? ⟨nb, 1, none⟩ = some (.pointer (some ⟨w.heap.size, fo k, none⟩)) ∧ wi.cell? ⟨nb, 2, none⟩ = some (.int .i64 (fz k : Int)) ∧ wi.cell? ⟨w.heap.size, fo k, none⟩ = some (.int .i64 (fv b k)) :=
  ⟨h.num.cell 0 _ rfl, h.num.cell 1 _ rfl, h.num.cell 2 _ rfl, (h.st.box.all _).trans (cell_at b k hk)⟩

set_option maxRecDepth 100000 in
set_option maxHeartbeats 4000000 in
theorem mgWriteN_any (s : Int) (b : Bd) (gw : Nat) (L : List UInt8) (w : World) (h : Wr w gw L) (hf : Fit b) (hL : L.length ≤ 10000) :
    Calls Try.prog 40 #[.pointer (some ⟨gw, 0, none⟩), Bd_.v b, .int .i64 s] w fun e w' => e = .returned (.tuple #[]) ∧ Wr w' gw (L ++ wN s b 14) ∧ But gw w w' := by
  obtain ⟨w1, hw1⟩ : ∃ w1, w.alloc (.cells (Bd_.C b) 27) = w1 := ⟨_, rfl⟩
  have S1 := Lib.hid (show Stb w b w1 from hw1 ▸ Stb.new w b)
  have Z1 : Hid (w1.heap.size = w.heap.size + 1) := by unfold Hid; rw [← hw1]; simp
  have CN : Hid (Calls Try.prog 63 #[.pointer (some ⟨w.heap.size, 0, none⟩)] w1 fun e w' => e = .returned (.slice (some ⟨w.heap.size + 1, 0, none⟩) 14 14) ∧ Wst w gw b (L ++ wN s b 0) w') := by
    have := mgNumbers_any w.heap.size w1
    rw [Z1.out] at this
    refine this.mono ?_
    rintro e w2 ⟨he, hr, hb⟩
    have hb' : Below w1.heap.size w1 w2 := by rw [Z1.out]; exact hb
    rw [wN, List.append_nil]
    have S2 := S1.out.keep hb'
    exact ⟨he, S2.box, hr, h.below S2.bel, But.of_below S2.bel (Nat.le_refl _), h.lt⟩
  have HS := Lib.hid (fun k => show wN s b (k + 1) = wN s b k ++ (if (bits .and .i64 s (fk k) != 0) = true then ow (fv b k) (fz k) else []) from rfl)
  have HW := Lib.hid (wN_len s b)
  have CH := Lib.hid fun f w => mgHas_any s f w
  have HLL := Lib.hid hL
  have HFF := Lib.hid hf
  clear h hL hf
  go_enter Try.func40, Try.ntmps40
  go_wp2_with (first
    | (go_at_call 63; refine CN.out.mono ?_; rintro e w2 ⟨rfl, h2⟩; have S2 := Lib.hid h2; clear h2))
  go_loopw [10] (fun i wr => ∃ k : Nat, k ≤ 14 ∧ i = .int .i64 k ∧ Wst w gw b (L ++ wN s b k) wr) (fun i _ => 14 - (intOf i).toNat)
  case atStart => exact ⟨0, by omega, rfl, S2.out⟩
  case round =>
    rename_i wr
    obtain ⟨k, hk, rfl, hs⟩ := hrel
    by_cases h14 : k < 14
    · have ln := loadN_at hs.row k h14
      have R1 := Lib.hid (Wrd.new hs k)
      obtain ⟨c0, c1, c2, c3⟩ := R1.out.c h14
      have hz := fz_in k h14
      have hv := fv_fit HFF.out k h14
      have CP : Hid (∀ w1, Wrd w gw b (L ++ wN s b k) wr.heap.size k w1 → Calls Try.prog 17 #[.pointer (some ⟨gw, 0, none⟩), .int .i64 (fv b k), .int .i64 (fz k : Int)] w1 fun e w' => e = .returned (.tuple #[]) ∧ Wrd w gw b (L ++ wN s b k ++ ow (fv b k) (fz k)) wr.heap.size k w') := fun w1 h1 => by
        have c := put_ok gw (L ++ wN s b k) (fv b k).toNat (fz k) w1 h1.st.wr hz.1 hz.2 (by omega) (by have := HW.out k hk; have := HLL.out; rw [List.length_append]; omega)
        rw [Int.toNat_of_nonneg hv.1] at c
        exact c.mono fun _ _ q => ⟨q.1, h1.put q.2.1 q.2.2⟩
      have HSk := Lib.hid (HS.out k)
      have HC := Lib.hid (cell_at b k h14)
      have CHk := Lib.hid fun w => CH.out (fk k) w
      clear hs hz hv
      cases hb : (bits .and .i64 s (fk k) != 0) <;> rw [hb] at CHk HSk <;> clear hb
      · generalize fk k = fkk at *
        generalize fo k = fok at *
        generalize fz k = fzk at *
        generalize fv b k = fvk at *
        go_wp2_with (go_at_call 38; refine (CHk.out _).mono ?_; rintro e w3 ⟨rfl, rfl⟩)
        go_roundw
        case rel => exact ⟨k + 1, by omega, by go_num, by rw [HSk.out, if_neg (by decide), List.append_nil]; exact R1.out.st⟩
        case measure => simp [intOf]; omega
      · have HR : Hid (∀ wi, Wrd w gw b (L ++ wN s b k ++ ow (fv b k) (fz k)) wr.heap.size k wi → Wst w gw b (L ++ wN s b (k + 1)) wi) := fun wi hh => by
          rw [HSk.out, if_pos rfl, ← List.append_assoc]; exact hh.st
        generalize ow (fv b k) (fz k) = oo at *
        generalize L ++ wN s b k = LL at *
        clear HSk HS CH
        generalize fv b k = fvk at *
        go_wp2_with (go_at_call 38; refine (CHk.out _).mono ?_; rintro e w3 ⟨rfl, rfl⟩)
        have g0 := R1.out.keep (Below.refl _ _).drew
        have i1 := g0.num.cell 1 _ rfl
        have i2 := g0.num.cell 2 _ rfl
        have i3 := (g0.st.box.all _).trans HC.out
        go_region_held3 (fun w' => w'.cell? ⟨wr.heap.size, 1, none⟩ = some (.pointer (some ⟨w.heap.size, fo k, none⟩)) ∧ w'.cell? ⟨wr.heap.size, 2, none⟩ = some (.int .i64 (fz k : Int)) ∧ w'.cell? ⟨w.heap.size, fo k, none⟩ = some (.int .i64 fvk) ∧ (Wrd w gw b LL wr.heap.size k w' ∨ Wrd w gw b (LL ++ oo) wr.heap.size k w')) (first | exact ⟨by assumption, by assumption, by assumption, .inr (by assumption)⟩ | exact ⟨by assumption, by assumption, by assumption, .inl (by assumption)⟩ | go_keep)
          (first | (go_at_call 17; refine (CP.out _ g0).mono ?_; rintro e w5 ⟨rfl, g4⟩; have j1 := g4.num.cell 1 _ rfl; have j2 := g4.num.cell 2 _ rfl; have j3 := (g4.st.box.all _).trans HC.out))
        go_wp2
        go_roundw
        case rel => exact ⟨k + 1, by omega, by go_num, HR.out _ g4⟩
        case measure => simp [intOf]; omega
    · obtain rfl : k = 14 := by omega
      go_wp2
      go_returns
      exact ⟨rfl, hs.wr, hs.bt⟩
end Go.Proofs.Ytcpfkikifhcdmaa
