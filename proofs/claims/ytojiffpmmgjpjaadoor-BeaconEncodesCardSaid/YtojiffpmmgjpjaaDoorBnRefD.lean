/-
  THE WALK of the reference of layer 14: Decode, over the contract of fields.
-/
import Derived.Test.YtojiffpmmgjpjaaDoorBnRefK
import Derived.Test.YtojiffpmmgjpjaaDoorBnRefF
import Derived.Test.YtojiffpmmgjpjaaDoorBnRefC
import Derived.Test.YtojiffpmmgjpjaaDoorElRef3
namespace Go.Proofs.YtojiffpmmgjpjaaDoor
open Go.RowKit Go.Bn Go.Wr
attribute [local go_sem ↓ high] Bn_.loadF Bn_.storeF Bn_.v_cells Bn_.v_match
attribute [local go_sem] Bn_.loadF_new Bn_.storeF_zero

/-- The contract of fields. -/
def FdC : Prop := ∀ (b0 : Bn) (K : List Go.Em.El) (sa : Option Addr) (c : Nat) (w : World), El_.At w sa K → ord K = true → (∀ x ∈ K, x.s.size ≤ 100000) →
    Calls Tryd.prog 33 #[Bn_.v b0, .slice sa K.length c] w fun e w' => FdPost b0 K w e w'

set_option maxRecDepth 100000 in
set_option maxHeartbeats 16000000 in
theorem refDecode14_of (CF0 : FdC) (s : ByteArray) (w : World) (h4 : s.size ≤ 10006) :
    Calls Tryd.prog 15 #[.string s] w fun e w' => e = .returned (.tuple #[Bn_.v (decB s), .int .i64 (decE s)]) ∧ Below w.heap.size w w' := by
  obtain ⟨w1, hw1⟩ : ∃ w1, w.alloc (.cells (Bn_.C zb) 31) = w1 := ⟨_, rfl⟩
  have hw1' : w.alloc (.cells #[.int .i64 0, .int .i64 0, .string ⟨#[]⟩, .int .i64 0, .int .i64 0, .int .i64 0, .int .i64 0, .bool false, .int .u64 0, .int .i64 0, .int .i64 0, .int .i64 0, .int .i64 0, .int .i64 0, .int .i64 0, .int .i64 0, .int .i64 0, .int .i64 0, .int .i64 0, .int .i64 0, .int .i64 0, .int .i64 0, .int .i64 0, .int .i64 0, .int .i64 0, .int .i64 0, .int .i64 0] 31) = w1 := hw1
  have S1 := Lib.hid (show Stb w zb w1 from hw1 ▸ Stb.new w zb)
  have HZ : Hid (∀ (wi : World), Bn_.Box wi w.heap.size zb → (Bn_.StoreF ⟨w.heap.size, 0, none⟩ (.agg #[.int .i64 0, .int .i64 0, .string ⟨#[]⟩, .int .i64 0, .int .i64 0, .int .i64 0, .int .i64 0, .bool false, .int .u64 0, .int .i64 0, .int .i64 0, .int .i64 0, .int .i64 0, .int .i64 0, .int .i64 0, .int .i64 0, .int .i64 0, .int .i64 0, .int .i64 0, .int .i64 0, .int .i64 0, .int .i64 0, .int .i64 0, .int .i64 0, .int .i64 0, .int .i64 0, .int .i64 0])).run Tryd.prog wi = .ok () (wi.setRow w.heap.size (Bn_.C zb))) := fun wi h => h.storeF zb
  have HNO : Hid (∀ (r : Int) (w' : World), rdE s = r → ¬ r = 0 → Stb w zb w' → (Ending.returned (.tuple #[Bn_.v zb, .int .i64 r]) = .returned (.tuple #[Bn_.v (decB s), .int .i64 (decE s)]) ∧ Below w.heap.size w (w'.setRow w.heap.size (Bn_.C zb)))) := fun r w' h1 h2 h3 => by
    have e1 : decE s = r := (if_neg (by rw [h1]; exact h2)).trans h1
    have e2 : decB s = zb := if_neg (by rw [e1]; exact h2)
    exact ⟨by rw [e1, e2], below_setRow h3.bel (Nat.le_refl _)⟩
  by_cases h6 : s.size < 6
  · have HR := Lib.hid (rdE_short h6)
    have h6' : (s.size : Int) < 6 := by omega
    have sf := HZ.out _ S1.out.box
    clear h6 hw1
    go_enter Tryd.func15, Tryd.ntmps15
    go_wp2
    exact ret_bn Tryd.results15 rfl rfl (S1.out.box.setRow zb) rfl (HNO.out _ _ HR.out (by decide) S1.out)
  have h6' : ¬ (s.size : Int) < 6 := by omega
  have hsl := fun W => slice_tail s 6 (by omega) (by omega) W
  rw [show (6 : Int).toNat = 6 from rfl] at hsl
  have hf : (.agg #[.int .i64 (num s 0 4), .int .i64 (num s 4 2), .string ⟨#[]⟩, .int .i64 0, .int .i64 0, .int .i64 0, .int .i64 0, .bool false, .int .u64 0, .int .i64 0, .int .i64 0, .int .i64 0, .int .i64 0, .int .i64 0, .int .i64 0, .int .i64 0, .int .i64 0, .int .i64 0, .int .i64 0, .int .i64 0, .int .i64 0, .int .i64 0, .int .i64 0, .int .i64 0, .int .i64 0, .int .i64 0, .int .i64 0] : Value) = Bn_.v (hdB s) := rfl
  have N1 : Hid (∀ w, Calls Tryd.prog 34 #[.string s, .int .i64 0, .int .i64 4] w fun e w' => e = .returned (.int .i64 (num s 0 4)) ∧ Below w.heap.size w w') := fun w => refNumber14_any s 0 4 w (by decide) (by omega)
  have N2 : Hid (∀ w, Calls Tryd.prog 34 #[.string s, .int .i64 4, .int .i64 2] w fun e w' => e = .returned (.int .i64 (num s 4 2)) ∧ Below w.heap.size w w') := fun w => refNumber14_any s 4 2 w (by decide) (by omega)
  have HEL := Lib.hid fun hd => rdE_el h6 hd
  have HOR := Lib.hid fun hd ho => rdE_ord h6 hd ho
  have HIN := Lib.hid fun hd ho => rdE_in h6 hd ho
  have HRB : Hid (rdB s = lsB (hdB s) (knl (Go.Em.dec (s.extract 6 s.size)).1)) := rfl
  have HTM := Lib.hid fun h => rdB_tm (s := s) h
  have CD := Lib.hid fun w => refDecode_any (s.extract 6 s.size) w (by rw [ByteArray.size_extract]; omega)
  have HSZ := Lib.hid fun hd => dec_sizes (s := s.extract 6 s.size) hd
  have HDL := Lib.hid (Go.Em.dec_len (s.extract 6 s.size))
  unfold DecPost at CD
  generalize s.extract 6 s.size = t at *
  generalize Go.Em.dec t = q at *
  obtain ⟨L, r⟩ := q
  simp only at HEL HOR HIN HRB CD HSZ HDL
  clear h6 h4 hw1
  by_cases hr : r = 0
  case neg =>
    have hr' : (r != 0) = true := by simp [hr]
    have HR := Lib.hid (HEL.out hr)
    have HN := Lib.hid hr
    clear HOR HIN HSZ HEL hr HTM HRB N1 N2
    go_enter Tryd.func15, Tryd.ntmps15
    go_wp2_with (first
      | (go_at_call 16; refine (CD.out _).mono ?_; rintro e w5 ⟨v0, c, rfl, hsl, hb⟩; have S2 := Lib.hid (S1.out.keep hb); have sf := HZ.out _ S2.out.box; clear hb hsl))
    exact ret_bn Tryd.results15 rfl rfl (S2.out.box.setRow zb) rfl (HNO.out _ _ HR.out HN.out S2.out)
  subst hr
  have CK := Lib.hid fun w sa c h => refKnown14_any L sa c w h (Nat.le_trans HDL.out (by decide))
  unfold KnPost at CK
  have HKM : Hid (∀ x ∈ knl L, x.s.size ≤ 100000) := fun x hx => by have := HSZ.out rfl x (knl_mem hx).1; omega
  generalize knl L = K at *
  cases ho : ord K
  · have HR := Lib.hid (HOR.out rfl ho)
    have HO := Lib.hid ho
    clear HOR HIN HSZ HEL HTM HRB N1 N2 ho
    go_enter Tryd.func15, Tryd.ntmps15
    go_wp2_with (first
      | (go_at_call 16; refine (CD.out _).mono ?_; rintro e w5 ⟨v0, c, rfl, hsl, hb⟩; have S2 := Lib.hid (S1.out.keep hb); have HSL := Lib.hid hsl.lies; clear hb hsl)
      | (go_at_call 32; refine (CK.out _ _ _ HSL.out).mono ?_; rintro e w6 ⟨hb, -, hno⟩; obtain ⟨u, rfl⟩ := hno HO.out; have S3 := Lib.hid (S2.out.keep hb); have sf := HZ.out _ S3.out.box; clear hb hno))
    exact ret_bn Tryd.results15 rfl rfl (S3.out.box.setRow zb) rfl (HNO.out _ _ HR.out (by decide) S3.out)
  have HR := Lib.hid (HIN.out rfl ho)
  have HO := Lib.hid ho
  have CF := Lib.hid fun w sa c h => CF0 (hdB s) K sa c w h HO.out HKM.out
  unfold FdPost at CF
  rw [← HR.out, ← HRB.out] at CF
  clear HOR HIN HSZ HEL HRB ho CF0 HKM
  by_cases hz : rdE s = 0
  case neg =>
    have HN := Lib.hid hz
    have hz' : (rdE s != 0) = true := by simp [hz]
    have HRR : Hid (rdE s = rdE s) := rfl
    clear hz HTM HR
    obtain ⟨r, hr⟩ : ∃ r, rdE s = r := ⟨_, rfl⟩
    rw [hr] at CF HN hz'
    have HRE := Lib.hid hr
    clear hr HRR
    generalize num s 0 4 = z1 at *
    generalize num s 4 2 = z2 at *
    generalize hdB s = y0 at *
    go_enter Tryd.func15, Tryd.ntmps15
    go_wp2_with (first
      | (go_at_call 16; refine (CD.out _).mono ?_; rintro e w5 ⟨v0, c, rfl, hsl, hb⟩; have S2 := Lib.hid (S1.out.keep hb); have HSL := Lib.hid hsl.lies; clear hb hsl)
      | (go_at_call 32; refine (CK.out _ _ _ HSL.out).mono ?_; rintro e w6 ⟨hb, hyes, -⟩; obtain ⟨v1, c1, rfl, hat⟩ := hyes HO.out; have S3 := Lib.hid (S2.out.keep hb); have HAT := Lib.hid hat; clear hb hyes hat)
      | (go_at_call 34; with_reducible refine (N1.out _).mono ?_; rintro e w7 ⟨rfl, hb⟩; have S4 := Lib.hid (S3.out.keep hb); have HA4 := Lib.hid (HAT.out.below hb); clear hb)
      | (go_at_call 34; with_reducible refine (N2.out _).mono ?_; rintro e w8 ⟨rfl, hb⟩; have S5 := Lib.hid (S4.out.keep hb); have HA5 := Lib.hid (HA4.out.below hb); clear hb)
      | (go_at_call 33; refine (CF.out _ _ _ HA5.out).mono ?_; rintro e w9 ⟨y, rfl, -, hb⟩; have S6 := Lib.hid ((S5.out.keep hb).keep ((Below.refl _ _).alloc (Nat.le_refl _) (.cells (Bn_.C y) 31))); have sf := HZ.out _ S6.out.box; clear hb))
    exact ret_bn Tryd.results15 rfl rfl (S6.out.box.setRow zb) rfl (HNO.out _ _ HRE.out HN.out S6.out)
  have CC := Lib.hid fun w => refCheck14_any (rdB s) w (HTM.out hz)
  have HE : Hid (decE s = chk (rdB s)) := if_pos hz
  have HB0 : Hid (chk (rdB s) = 0 → decB s = rdB s) := fun h => if_pos (HE.out.trans h)
  have HB1 : Hid (¬ chk (rdB s) = 0 → decB s = zb) := fun h => if_neg (by rw [HE.out]; exact h)
  rw [hz] at CF
  clear hz HTM HR HNO
  generalize num s 0 4 = z1 at *
  generalize num s 4 2 = z2 at *
  generalize hdB s = y0 at *
  generalize rdB s = yy at *
  generalize chk yy = r at *
  by_cases h0 : r = 0
  case pos =>
    subst h0
    have HB := Lib.hid (HB0.out rfl)
    clear HB0 HB1
    go_enter Tryd.func15, Tryd.ntmps15
    go_wp2_with (first
      | (go_at_call 16; refine (CD.out _).mono ?_; rintro e w5 ⟨v0, c, rfl, hsl, hb⟩; have S2 := Lib.hid (S1.out.keep hb); have HSL := Lib.hid hsl.lies; clear hb hsl)
      | (go_at_call 32; refine (CK.out _ _ _ HSL.out).mono ?_; rintro e w6 ⟨hb, hyes, -⟩; obtain ⟨v1, c1, rfl, hat⟩ := hyes HO.out; have S3 := Lib.hid (S2.out.keep hb); have HAT := Lib.hid hat; clear hb hyes hat)
      | (go_at_call 34; with_reducible refine (N1.out _).mono ?_; rintro e w7 ⟨rfl, hb⟩; have S4 := Lib.hid (S3.out.keep hb); have HA4 := Lib.hid (HAT.out.below hb); clear hb)
      | (go_at_call 34; with_reducible refine (N2.out _).mono ?_; rintro e w8 ⟨rfl, hb⟩; have S5 := Lib.hid (S4.out.keep hb); have HA5 := Lib.hid (HA4.out.below hb); clear hb)
      | (go_at_call 33; refine (CF.out _ _ _ HA5.out).mono ?_; rintro e w9 ⟨y, rfl, hy, hb⟩; have hyy := (hy (by simp)).symm; subst hyy; have S6 := Lib.hid (S5.out.keep hb); clear hb hy)
      | (go_at_call 31; refine (CC.out _).mono ?_; rintro e w10 ⟨rfl, hb⟩; have S7 := Lib.hid ((S6.out.keep ((Below.refl _ _).alloc (Nat.le_refl _) _)).keep hb); have lf := ((Bn_.Box.new w9 yy).below hb (by simp)).loadF; have sf := S7.out.box.storeF yy; clear hb))
    exact ret_bn Tryd.results15 rfl rfl (S7.out.box.setRow yy) rfl ⟨by rw [HE.out, HB.out]; rfl, below_setRow S7.out.bel (Nat.le_refl _)⟩
  have HB := Lib.hid (HB1.out h0)
  have h0' : (r != 0) = true := by simp [h0]
  clear HB0 HB1 h0
  go_enter Tryd.func15, Tryd.ntmps15
  go_wp2_with (first
      | (go_at_call 16; refine (CD.out _).mono ?_; rintro e w5 ⟨v0, c, rfl, hsl, hb⟩; have S2 := Lib.hid (S1.out.keep hb); have HSL := Lib.hid hsl.lies; clear hb hsl)
      | (go_at_call 32; refine (CK.out _ _ _ HSL.out).mono ?_; rintro e w6 ⟨hb, hyes, -⟩; obtain ⟨v1, c1, rfl, hat⟩ := hyes HO.out; have S3 := Lib.hid (S2.out.keep hb); have HAT := Lib.hid hat; clear hb hyes hat)
      | (go_at_call 34; with_reducible refine (N1.out _).mono ?_; rintro e w7 ⟨rfl, hb⟩; have S4 := Lib.hid (S3.out.keep hb); have HA4 := Lib.hid (HAT.out.below hb); clear hb)
      | (go_at_call 34; with_reducible refine (N2.out _).mono ?_; rintro e w8 ⟨rfl, hb⟩; have S5 := Lib.hid (S4.out.keep hb); have HA5 := Lib.hid (HA4.out.below hb); clear hb)
      | (go_at_call 33; refine (CF.out _ _ _ HA5.out).mono ?_; rintro e w9 ⟨y, rfl, hy, hb⟩; have hyy := (hy (by simp)).symm; subst hyy; have S6 := Lib.hid (S5.out.keep hb); clear hb hy)
      | (go_at_call 31; refine (CC.out _).mono ?_; rintro e w10 ⟨rfl, hb⟩; have S7 := Lib.hid ((S6.out.keep ((Below.refl _ _).alloc (Nat.le_refl _) _)).keep hb); have sf := HZ.out _ S7.out.box; clear hb))
  exact ret_bn Tryd.results15 rfl rfl (S7.out.box.setRow zb) rfl ⟨by rw [HE.out, HB.out]; rfl, below_setRow S7.out.bel (Nat.le_refl _)⟩
end Go.Proofs.YtojiffpmmgjpjaaDoor
