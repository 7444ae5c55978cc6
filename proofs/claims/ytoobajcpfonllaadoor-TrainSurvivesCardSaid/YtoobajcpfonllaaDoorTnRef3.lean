/-
  THE WALK of the reference of layer 17: Decode.
-/
import Derived.Test.YtoobajcpfonllaaDoorTnRef2
import Derived.Test.YtoobajcpfonllaaDoorTnDec2
namespace Go.Proofs.YtoobajcpfonllaaDoor
open Go.RowKit Go.Tn Go.Wr Go.Ck

/-- What the reference's Decode hands back. -/
def RDecPost (u : List UInt8) (w : World) (e : Ending) (w' : World) : Prop :=
  ∃ v0 c, e = .returned (.slice v0 (dec u).length c) ∧ Rr_.Sl w' v0 (dec u) c ∧ Below w.heap.size w w'
theorem rdecPost17 {u : List UInt8} {w w' : World} {e : Ending} {L : List Cr} {v0 : Option Addr} {c : Nat} (h : dec u = L) (he : e = .returned (.slice v0 L.length c)) (ha : Rr_.Sl w' v0 L c) (hb : Below w.heap.size w w') : RDecPost u w e w' :=
  ⟨v0, c, by rw [h, he], by rw [h]; exact ha, hb⟩
theorem rdec_sums {p n : Nat} (h : p ≤ 200000) (h2 : n ≤ 2300) : wrap64 ((p : Int) + 4) = p + 4 ∧ wrap64 ((p : Int) + 4 + (n : Int)) = p + 4 + (n : Int) := ⟨IntWalk.wrap64_in _ (by omega), IntWalk.wrap64_in _ (by omega)⟩
theorem rdec_meas {p q a : Nat} (h : p + 4 ≤ a) (h2 : p + 4 ≤ q) : a + 20 - q < a + 20 - p := by omega
theorem rdec_z {a : Nat} {n : Int} {k : Nat} (h : n = k) : a + 20 - n.toNat = a + 20 - k := by rw [h, Int.toNat_natCast]
def mzr (n : Nat) (v : Value) : Nat := n + 20 - (intOf v).toNat
theorem mzr_lt {n p q : Nat} {z1 z2 : Int} (e1 : z1 = q) (e2 : z2 = p) (h : p + 4 ≤ n) (h2 : p + 4 ≤ q) : mzr n (.int .i64 z1) < mzr n (.int .i64 z2) := by
  show n + 20 - z1.toNat < n + 20 - z2.toNat
  rw [e1, e2, Int.toNat_natCast, Int.toNat_natCast]
  exact rdec_meas h h2

set_option maxRecDepth 100000 in
set_option maxHeartbeats 4000000 in
theorem r17Decode_any (s : ByteArray) (w : World) (hs : s.size ≤ 100000) :
    Calls Tryd.prog 17 #[.string s] w fun e w' => RDecPost s.data.toList w e w' := by
  have HI := Lib.hid (info_parts Rr_.info)
  have hl : s.data.toList.length = s.size := Array.length_toList
  have HSZ := Lib.hid hs
  have HUL := Lib.hid hl
  go_enter Tryd.func17, Tryd.ntmps17
  go_wp2
  go_loopw [3, 4] (fun v i wr => ∃ (L : List Cr) (p : Nat), Inv s.data.toList L p ∧ p ≤ s.size + 8 ∧ i = .int .i64 p ∧ wr.ownsRow w.heap.size 50 2 v L.length (Rr_.flat L) ∧ Below w.heap.size w wr) (fun _ i _ => mzr s.size i)
  case atStart => exact ⟨[], 0, inv_start _, by omega, rfl, World.ownsRow_nil _ _ _ _, Below.refl _ _⟩
  case round =>
    rename World => w1
    obtain ⟨L, p, hinv, hp, rfl, hown, hb⟩ := hrel
    have HB := Lib.hid hb
    have hL := hinv.1
    have hpp : p ≤ 200000 := by omega
    obtain ⟨v0, c, rfl⟩ := Rr_.slice_form hown
    obtain ⟨hw4, -⟩ := rdec_sums (n := 0) hpp (by decide)
    by_cases hA : s.size < p + 4
    · have HE := Lib.hid (inv_end hinv (.inl (by rw [hl]; exact hA)))
      have HO : Hid (Rr_.Sl w1 v0 L c) := Rr_.sl_owns hown
      have hA' : ¬ (p : Int) + 4 ≤ (s.size : Int) := by omega
      clear hinv hb hp hpp hL hown hA hl hs
      go_wp2
      go_returns
      exact rdecPost17 HE.out rfl HO.out HB.out
    have hA' : (p : Int) + 4 ≤ (s.size : Int) := by omega
    by_cases h64 : L.length = 64
    · have HE := Lib.hid (inv_end hinv (.inr h64))
      have HO : Hid (Rr_.Sl w1 v0 L c) := Rr_.sl_owns hown
      have h64' : ¬ (L.length : Int) < 64 := by omega
      clear hinv hb hp hpp hL hown hA hl hs h64
      go_wp2
      go_returns
      exact rdecPost17 HE.out rfl HO.out HB.out
    have h64' : (L.length : Int) < 64 := by omega
    have hps : p + 4 ≤ s.size := by omega
    have CA := Lib.hid (r17At_any s p w1 hps hs)
    have HSk := Lib.hid (inv_skip hinv (by rw [hl]; omega) h64)
    have HFd := Lib.hid (inv_found hinv (by rw [hl]; omega) h64)
    have hfn : fN (s.data.toList.drop p) ≤ 2300 := by
      by_cases h0 : fN (s.data.toList.drop p) = 0
      · omega
      · exact (fN_pos h0).2.2.1
    have HFL : Hid (¬ fN (s.data.toList.drop p) = 0 → p + 4 + fN (s.data.toList.drop p) ≤ s.size) := fun h => by
      have := (fN_pos h).2.2.2.2
      rw [List.length_drop, hl] at this
      omega
    have HT : Hid (∀ n, s.extract (p + 4) (p + 4 + n) = ⟨((s.data.toList.drop (p + 4)).take n).toArray⟩) := fun n => by
      apply ba_ext17
      rw [ext_list17, show p + 4 + n - (p + 4) = n by omega]
    generalize fN (s.data.toList.drop p) = n at *
    obtain ⟨-, hw5⟩ := rdec_sums hpp hfn
    by_cases h0 : n = 0
    · subst h0
      have HN := Lib.hid (HSk.out rfl)
      have HLT := Lib.hid hps
      have HO := Lib.hid hown
      have HW := Lib.hid hw4
      clear hinv hb hp hpp hL hown hA hl hs h64 HFd HSk hfn HT HFL hw5 hps
      go_wp2_with (go_at_call 26; refine CA.out.mono ?_; rintro e w2 ⟨rfl, h⟩; have HB2 := Lib.hid h; clear h)
      go_roundw
      case rel => exact ⟨L, p + 4, HN.out, by have := HLT.out; omega, by rw [HW.out]; rfl, owns_below17 HO.out HB2.out, HB.out.trans (HB2.out.mono HB.out.size)⟩
      case measure => exact mzr_lt (q := p + 4) HW.out rfl HLT.out (Nat.le_refl _)
    · have HN := Lib.hid (HFd.out h0)
      rw [← HT.out] at HN
      have HPL := Lib.hid (HFL.out h0)
      have hsl := slice17 s (p + 4) (p + 4 + n) (Nat.le_add_right _ _) HPL.out
      rw [show ((p + 4 + n : Nat) : Int) = (p : Int) + 4 + (n : Int) from dec_cast p n, show ((p + 4 : Nat) : Int) = (p : Int) + 4 from rfl] at hsl
      generalize s.extract (p + 4) (p + 4 + n) = T at *
      have CU : Hid (∀ w, Calls Tryd.prog 23 #[.int .i64 ((p : Int) + 4 + (n : Int))] w fun e w' => e = .returned (.int .i64 (Tn.up (p + 4 + n) : Nat)) ∧ w = w') := fun w => by
        have := r17Up_any (p + 4 + n) w (dec_small hpp hfn)
        rwa [dec_cast] at this
      have HUG := Lib.hid (Tn.up_ge (p + 4 + n))
      have HUL2 := Lib.hid (Tn.up_lt (p + 4 + n))
      have h0' : ((n : Int) == 0) = false := by rw [beq_eq_false_iff_ne]; omega
      have HLT := Lib.hid hps
      have HO := Lib.hid hown
      have HL := Lib.hid hL
      clear hinv hb hp hpp hl hs h64 h0 HFd HSk HFL HT hfn hA hown hps
      go_wp2_with (first
        | (go_at_call 26; refine CA.out.mono ?_; rintro e w2 ⟨rfl, h⟩; have HB2 := Lib.hid (HB.out.trans (h.mono HB.out.size)); have hown2 := owns_below17 HO.out h; clear h)
        | (go_at_call 23; refine (CU.out _).mono ?_; rintro e w' ⟨rfl, rfl⟩)
        | (at_builtin; obtain ⟨i0, hi, hz0, hz1, hz2⟩ := HI.out; refine wpList_append_own _ rfl _ _ 40 rfl w.heap.size 50 i0 (.agg #[.int .i64 0, .string ⟨#[]⟩]) 2 24 Tryd.underlying40 hi hz0 hz1 hz2 rfl (by decide) _ _ _ rfl (hown2.alloc _) ⟨w2.heap.size, 0, none⟩ 1 1 [.int .i64 ((p : Int) + 4), .string T] rfl rfl ?c1 ?c2 ?c3 ?c4 ?c5 ?_))
      case c1 =>
        intro j u hj
        match j, hj with
        | 0, hj => simp at hj; subst hj; simp [Addr.add]
        | 1, hj => simp at hj; subst hj; simp [Addr.add]
      case c2 => intro u hu; simp at hu; rcases hu with rfl | rfl <;> rfl
      case c3 => exact dec_max hL
      case c4 => exact dec_max2 hL
      case c5 => have := HB2.out.size; simp; omega
      intro v4 w4 hown4 hgrow hn'
      clear hi hz0 hz1 hz2
      have R : w4.ownsRow w.heap.size 50 2 v4 (L ++ [(⟨((p + 4 : Nat) : Int), T⟩ : Cr)]).length (Rr_.flat (L ++ [(⟨((p + 4 : Nat) : Int), T⟩ : Cr)])) ∧ Below w.heap.size w w4 := by
        refine ⟨?_, ?_⟩
        · rw [Rr_.flat_snoc, List.length_append]
          exact hown4
        · refine Below.grown (HB2.out.alloc HB2.out.size _) hgrow (by simp; have := HB2.out.size; omega) (fun j hj => ?_)
          exact (hown2.lt j hj).1
      have HO4 := Lib.hid R.1
      have HB4 := Lib.hid R.2
      clear hown2 hown4 hgrow hn' R
      go_wp2_with (go_at_call 23; refine (CU.out _).mono ?_; rintro e w' ⟨rfl, rfl⟩)
      go_roundw
      case rel => exact ⟨L ++ [(⟨((p + 4 : Nat) : Int), T⟩ : Cr)], Tn.up (p + 4 + n), HN.out, dec_up HPL.out HUL2.out, rfl, HO4.out, HB4.out⟩
      case measure => exact mzr_lt (q := Tn.up (p + 4 + n)) rfl rfl HLT.out (Nat.le_trans (Nat.le_add_right _ _) HUG.out)
end Go.Proofs.YtoobajcpfonllaaDoor
