/-
  THE WALK of the law AddressReads.
-/
import Derived.Test.YtnbcphpjgahgoaaAdLaws2
import Derived.Deep.RegionHeld3
namespace Go.Proofs.Ytnbcphpjgahgoaa
open Go.RowKit Go.Wr Go.Ad

/-- A block is as it was. -/
def SameBlk (w w' : World) (r : Nat) : Prop := w.heap[r]? = w'.heap[r]?

set_option maxRecDepth 100000 in
set_option maxHeartbeats 4000000 in
/-- The law behind the length test, for a reading that both sides make alike. -/
theorem reads_via (D : Does) (s s' : ByteArray) (e n : Int) (v : Nat) (W : World) (hs : ¬ (200 : Int) < s.size) (hv : v < 18446744073709551616)
    (hR : ∀ b w, Rd w b 0 s → Calls Try.prog 14 #[.pointer (some ⟨b, 0, none⟩)] w fun x w' => x = .returned (.int .u64 v) ∧ (w'.cell? ⟨b, 0, none⟩ = some (.int .i64 e) ∧ ∀ w2, w2.heap[b]? = w'.heap[b]? → Calls Try.prog 27 #[.pointer (some ⟨b, 0, none⟩)] w2 fun x w3 => x = .returned (.int .i64 n) ∧ w2 = w3) ∧ But b w w')
    (hQ : ∀ w, Calls Try.prog 25 #[rv s 0] w fun r w' => r = .returned (.tuple #[rv s' e, .int .u64 v]) ∧ Below w.heap.size w w')
    (hL : ∀ w, Calls Try.prog 28 #[rv s' e] w fun r w' => r = .returned (.int .i64 n) ∧ Below w.heap.size w w') :
    Calls Try.prog 7 #[.string s] W fun e w' => e = .returned (.bool true) ∧ Below W.heap.size W w' := by
  have LV := Lib.hid (lives_any D)
  have HR := Lib.hid hR
  have HQ := Lib.hid hQ
  have HL := Lib.hid hL
  have HWN := Lib.hid (fun w => D.write_nil v w hv)
  have HRN := Lib.hid D.read_nil
  unfold rv at HQ HL
  clear hR hQ hL hv
  go_enter Try.func7, Try.ntmps7
  go_wp2_with fail
  refine (new_any s W).mono ?_
  rintro x w1 ⟨rfl, rfl⟩
  have hrd : Rd (W.alloc (.cells #[.int .i64 0, .string s] 62)) W.heap.size 0 s := Blk.new W _ 62 [.int .i64 0, .string s] rfl
  have hb1 : Below W.heap.size W (W.alloc (.cells #[.int .i64 0, .string s] 62)) := (Below.refl _ _).alloc (Nat.le_refl _) _
  generalize W.alloc (.cells #[.int .i64 0, .string s] 62) = w1 at *
  go_wp2_with fail
  refine (HQ.out _).mono ?_
  rintro x w2 ⟨rfl, hb2⟩
  have hrd2 := hrd.below hb2
  have hb2' := hb1.trans (hb2.mono hb1.size)
  clear hrd hb1 hb2 HQ
  go_wp2_with fail
  have hrd3 : Rd (w2.alloc (.cells #[.string s', .int .i64 e] 49)) W.heap.size 0 s := Blk.alloc hrd2 _
  have m0 : (w2.alloc (.cells #[.string s', .int .i64 e] 49)).cell? ⟨w2.heap.size, 0, none⟩ = some (.string s') := by simp
  have m1 : (w2.alloc (.cells #[.string s', .int .i64 e] 49)).cell? ⟨w2.heap.size, 1, none⟩ = some (.int .i64 e) := by simp
  have hg : w2.heap.size < (w2.alloc (.cells #[.string s', .int .i64 e] 49)).heap.size := by simp
  have hrg : W.heap.size < w2.heap.size := Blk.lt hrd2
  have hb2a : Below W.heap.size W (w2.alloc (.cells #[.string s', .int .i64 e] 49)) := hb2'.alloc hb2'.size _
  generalize w2.alloc (.cells #[.string s', .int .i64 e] 49) = w2a at *
  generalize w2.heap.size = g at *
  clear hrd2 hb2'
  refine (HR.out _ _ hrd3).mono ?_
  rintro x w3 ⟨rfl, ⟨hce, hle⟩, hbt⟩
  have hb3 := hb2a.trans (hbt.below hb2a.size (Nat.le_refl _))
  have n0 := (hbt.cell (p := ⟨g, 0, none⟩) hg (by show g ≠ _; omega)).trans m0
  have n1 := (hbt.cell (p := ⟨g, 1, none⟩) hg (by show g ≠ _; omega)).trans m1
  have hg3 : g < w3.heap.size := Nat.lt_of_lt_of_le hg hbt.size
  have HLE := Lib.hid hle
  clear hrd3 m0 m1 hg hb2a hbt hle HR
  go_wp2_with fail
  refine (HWN.out _).mono ?_
  rintro x w4 ⟨rfl, hb4⟩
  have k0 := (hb4.cell (p := ⟨g, 0, none⟩) hg3).trans n0
  have k1 := (hb4.cell (p := ⟨g, 1, none⟩) hg3).trans n1
  have k2 : SameBlk w4 w3 W.heap.size := hb4.block _ (by omega)
  have k7 : SameBlk w4.drew w3 W.heap.size := k2
  have k3 : W.heap.size < w4.heap.size := Nat.lt_of_lt_of_le (Nat.lt_trans hrg hg3) hb4.size
  have k4 : g < w4.heap.size := Nat.lt_of_lt_of_le hg3 hb4.size
  have k5 := hb3.trans (hb4.mono hb3.size)
  have k6 := k5.drew
  obtain ⟨r, hr⟩ : ∃ r, r = W.heap.size := ⟨_, rfl⟩
  rw [← hr] at k2 k3 k5 k6 k7 hce HLE hrg hb3
  have HST : Hid (∀ w w' : World, (w.cell? ⟨g, 0, none⟩ = some (.string s') ∧ w.cell? ⟨g, 1, none⟩ = some (.int .i64 e) ∧ SameBlk w w3 r ∧ r < w.heap.size ∧ g < w.heap.size ∧ Below r W w) → Below w.heap.size w w' → (w'.cell? ⟨g, 0, none⟩ = some (.string s') ∧ w'.cell? ⟨g, 1, none⟩ = some (.int .i64 e) ∧ SameBlk w' w3 r ∧ r < w'.heap.size ∧ g < w'.heap.size ∧ Below r W w')) := fun w w' h hb =>
    ⟨(hb.cell (p := ⟨g, 0, none⟩) h.2.2.2.2.1).trans h.1, (hb.cell (p := ⟨g, 1, none⟩) h.2.2.2.2.1).trans h.2.1, (hb.block r h.2.2.2.1).trans h.2.2.1, Nat.lt_of_lt_of_le h.2.2.2.1 hb.size, Nat.lt_of_lt_of_le h.2.2.2.2.1 hb.size, h.2.2.2.2.2.trans (hb.mono (Nat.le_of_lt h.2.2.2.1))⟩
  have CE : Hid (∀ w : World, (w.cell? ⟨g, 0, none⟩ = some (.string s') ∧ w.cell? ⟨g, 1, none⟩ = some (.int .i64 e) ∧ SameBlk w w3 r ∧ r < w.heap.size ∧ g < w.heap.size ∧ Below r W w) → Calls Try.prog 26 #[.pointer (some ⟨r, 0, none⟩)] w fun x w' => x = .returned (.int .i64 e) ∧ w = w') := fun w h => err_any r e w ((show w.cell? ⟨r, 0, none⟩ = w3.cell? ⟨r, 0, none⟩ from World.cell?_of_block h.2.2.1).trans hce)
  have CL : Hid (∀ w : World, (w.cell? ⟨g, 0, none⟩ = some (.string s') ∧ w.cell? ⟨g, 1, none⟩ = some (.int .i64 e) ∧ SameBlk w w3 r ∧ r < w.heap.size ∧ g < w.heap.size ∧ Below r W w) → Calls Try.prog 27 #[.pointer (some ⟨r, 0, none⟩)] w fun x w' => x = .returned (.int .i64 n) ∧ w = w') := fun w h => HLE.out w h.2.2.1
  have CQ : Hid (∀ w : World, (w.cell? ⟨g, 0, none⟩ = some (.string s') ∧ w.cell? ⟨g, 1, none⟩ = some (.int .i64 e) ∧ SameBlk w w3 r ∧ r < w.heap.size ∧ g < w.heap.size ∧ Below r W w) → Calls Try.prog 28 #[.agg #[.string s', .int .i64 e]] w fun x w' => x = .returned (.int .i64 n) ∧ (w'.cell? ⟨g, 0, none⟩ = some (.string s') ∧ w'.cell? ⟨g, 1, none⟩ = some (.int .i64 e) ∧ SameBlk w' w3 r ∧ r < w'.heap.size ∧ g < w'.heap.size ∧ Below r W w')) := fun w h => (HL.out w).mono fun x w' h' => ⟨h'.1, HST.out w w' h h'.2⟩
  have CN : Hid (∀ w : World, (w.cell? ⟨g, 0, none⟩ = some (.string s') ∧ w.cell? ⟨g, 1, none⟩ = some (.int .i64 e) ∧ SameBlk w w3 r ∧ r < w.heap.size ∧ g < w.heap.size ∧ Below r W w) → Calls Try.prog 14 #[.pointer none] w fun x w' => x = .returned (.int .u64 0) ∧ (w'.cell? ⟨g, 0, none⟩ = some (.string s') ∧ w'.cell? ⟨g, 1, none⟩ = some (.int .i64 e) ∧ SameBlk w' w3 r ∧ r < w'.heap.size ∧ g < w'.heap.size ∧ Below r W w')) := fun w h => (HRN.out w).mono fun x w' h' => ⟨h'.1, HST.out w w' h h'.2⟩
  have CV : Hid (∀ w : World, (w.cell? ⟨g, 0, none⟩ = some (.string s') ∧ w.cell? ⟨g, 1, none⟩ = some (.int .i64 e) ∧ SameBlk w w3 r ∧ r < w.heap.size ∧ g < w.heap.size ∧ Below r W w) → Calls Try.prog 10 #[] w fun x w' => x = .returned (.bool true) ∧ (w'.cell? ⟨g, 0, none⟩ = some (.string s') ∧ w'.cell? ⟨g, 1, none⟩ = some (.int .i64 e) ∧ SameBlk w' w3 r ∧ r < w'.heap.size ∧ g < w'.heap.size ∧ Below r W w')) := fun w h => (LV.out w).mono fun x w' h' => ⟨h'.1, HST.out w w' h h'.2⟩
  rw [← hr]
  have HRR := Lib.hid hr
  clear hr hb4 n0 n1 hg3 hb3 HWN HRN HL LV HLE HST hce k5 hrg hs
  go_wp2_with fail
  go_region_held3 (fun w' => w'.cell? ⟨g, 0, none⟩ = some (.string s') ∧ w'.cell? ⟨g, 1, none⟩ = some (.int .i64 e) ∧ SameBlk w' w3 r ∧ r < w'.heap.size ∧ g < w'.heap.size ∧ Below r W w') (go_keep)
    (first
    | (go_at_call 26; refine (CE.out _ ?_).mono ?_; (first | assumption | exact ⟨by assumption, by assumption, by assumption, by assumption, by assumption, by assumption⟩); rintro x w' ⟨rfl, rfl⟩)
    | (go_at_call 27; refine (CL.out _ ?_).mono ?_; (first | assumption | exact ⟨by assumption, by assumption, by assumption, by assumption, by assumption, by assumption⟩); rintro x w' ⟨rfl, rfl⟩)
    | (go_at_call 28; refine (CQ.out _ ?_).mono ?_; (first | assumption | exact ⟨by assumption, by assumption, by assumption, by assumption, by assumption, by assumption⟩); rintro x w5 ⟨rfl, q0, q1, q2, q3, q4, q5⟩)
    | (go_at_call 14; refine (CN.out _ ?_).mono ?_; (first | assumption | exact ⟨by assumption, by assumption, by assumption, by assumption, by assumption, by assumption⟩); rintro x w6 ⟨rfl, r0, r1, r2, r3, r4, r5⟩)
    | (go_at_call 10; refine (CV.out _ ?_).mono ?_; (first | assumption | exact ⟨by assumption, by assumption, by assumption, by assumption, by assumption, by assumption⟩); rintro x w7 ⟨rfl, s0, s1, s2, s3, s4, s5⟩))
  all_goals
    have hf := s5
    rw [HRR.out] at hf
    clear s5
    go_wp2
    go_returns
    exact ⟨rfl, hf⟩

set_option maxRecDepth 100000 in
set_option maxHeartbeats 1000000 in
theorem addressReads_walk1 (D : Does) (s : ByteArray) (_hs : s.size ≤ 140737488351232) (W : World) :
    Calls Try.prog 7 #[.string s] W fun e w' => e = .returned (.bool true) ∧ Below W.heap.size W w' := by
  have LV := Lib.hid (lives_any D)
  by_cases h2 : (200 : Int) < s.size
  · go_enter Try.func7, Try.ntmps7
    go_wp2_with (go_at_call 10; refine (LV.out _).mono ?_; rintro e w1 ⟨rfl, hb1⟩)
    go_returns
    exact ⟨rfl, hb1⟩
  by_cases h6 : 6 ≤ s.size
  · refine reads_via D s (s.extract 6 s.size) 0 ((s.extract 6 s.size).size : Int) (bev (s.extract 0 6).data.toList) W h2 ?_ (fun b w h => ?_) (fun w => refRead_ok s w h6) (fun w => ?_)
    · have := bev_lt (s.extract 0 6).data.toList
      have hl : (s.extract 0 6).data.toList.length ≤ 6 := by simp; omega
      exact Nat.lt_of_lt_of_le this (Nat.le_trans (Nat.pow_le_pow_right (by decide) hl) (by decide))
    · refine (D.read_ok b s w h h6).mono fun x w' h' => ⟨h'.1, ⟨h'.2.1.c0, fun w2 hh => ?_⟩, h'.2.2⟩
      exact left_ok b _ w2 (Blk.of_block h'.2.1 hh)
    · have := refLeft_any (s.extract 6 s.size) 0 w
      rw [if_pos rfl] at this
      exact this
  · refine reads_via D s ⟨#[]⟩ 1 0 0 W h2 (by decide) (fun b w h => ?_) (fun w => refRead_short s w (by omega)) (fun w => ?_)
    · refine (D.read_short b s w h (by omega)).mono fun x w' h' => ⟨h'.1, ⟨h'.2.1, fun w2 hh => ?_⟩, h'.2.2⟩
      exact left_bad b 1 w2 ((show w2.cell? ⟨b, 0, none⟩ = w'.cell? ⟨b, 0, none⟩ from World.cell?_of_block hh).trans h'.2.1) (by decide)
    · have := refLeft_any ⟨#[]⟩ 1 w
      rw [if_neg (by decide)] at this
      exact this
end Go.Proofs.Ytnbcphpjgahgoaa
