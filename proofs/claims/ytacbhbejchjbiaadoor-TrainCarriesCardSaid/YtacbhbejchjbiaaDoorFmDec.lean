/-
  WALKS of the landed package frame (900e12d): Length, Encode, Decode.
  ROUND TRIPS of layer 12: what is encoded is decoded, and nothing else is; changed bits are found.
-/
import Derived.Test.YtacbhbejchjbiaaDoorFmMath
import Derived.Test.YtacbhbejchjbiaaDoorHdFlags
import Derived.Test.YtacbhbejchjbiaaDoorHdProgCheck
import Derived.Test.YtacbhbejchjbiaaDoorFmSum
import Derived.Test.YtacbhbejchjbiaaDoorHdProgLen
import Derived.Test.YtacbhbejchjbiaaDoorHdWrite
import Derived.Test.YtacbhbejchjbiaaDoorHdRdMath
import Derived.Test.YtacbhbejchjbiaaDoorFrRet
import Derived.Lib.LaidTab
namespace Go.Proofs.YtacbhbejchjbiaaDoor
open Go.RowKit Go.Hd Go.Wr Go.Ad Go.Ck Go.Fm
attribute [local go_sem ↓ high] Fr_.loadF Fr_.storeF Fr_.v_cells Fr_.v_match
attribute [local go_sem] Fr_.C0 Fr_.C1 Fr_.C2 Fr_.C3 Fr_.C4 Fr_.C5 Fr_.C6 Fr_.C7 Fr_.C8 Fr_.C9 Fr_.C10 Fr_.C11 Fr_.C12 Fr_.C13 Fr_.C14 Fr_.C15 Fr_.C16 Fr_.C17 Fr_.storeF_zero

theorem Stf.but {w wi w' : World} {g b : Nat} {f : Fr} (h : Stf w g f wi) (hb : But b wi w') (hne : g ≠ b) (hle : w.heap.size ≤ b) : Stf w g f w' :=
  ⟨(hb.block _ h.box.lt hne).trans h.box, h.bel.trans (hb.below h.bel.size hle)⟩

set_option maxRecDepth 100000 in
set_option maxHeartbeats 4000000 in
theorem encode_any (f : Fr) (w : World) (ht : HdTab w) (hk : CkTab w) (hu : FrU f) :
    Calls Tryd.prog 5 #[Fr_.v f] w fun e w' => e = .returned (.tuple #[.string (enc f), .int .i64 (chk f)]) ∧ Below w.heap.size w w' := by
  have CC := Lib.hid (fun w' (hb : Below w.heap.size w w') => progCheck_any f w' (HdTab.below ht hb (Nat.le_refl _)) hu)
  have S1 := Lib.hid (Stf.new w f)
  have e1 := S1.out.box.loadF
  have HZ : Hid (w.heap.size < (w.alloc (.cells (Fr_.C f) 34)).heap.size) := by unfold Hid; simp
  by_cases h0 : chk f = 0
  · have hb0 := bo_le h0
    have hl2 := oct_len f
    have hok := okf_of h0
    rw [show enc f = Go.Fm.st (sealed (body f)) from if_pos h0]
    have hbs : f.bo.data.toList.length = f.bo.size := Array.length_toList
    rw [h0] at CC ⊢
    have CW : Hid (∀ w' b, Below w.heap.size w w' → Wr w' b [] → Calls Tryd.prog 11 #[.pointer (some ⟨b, 0, none⟩), Fr_.v f] w' fun e w'' => e = .returned (.tuple #[]) ∧ Wr w'' b (oct f) ∧ But b w' w'') := fun w' b hb h => progWrite_any f w' b [] (HdTab.below ht hb (Nat.le_refl _)) hok h (by decide)
    have CT : Hid (∀ w' b, Wr w' b (oct f) → Calls Tryd.prog 12 #[.pointer (some ⟨b, 0, none⟩), .string f.bo] w' fun e w'' => e = .returned (.tuple #[]) ∧ Wr w'' b (body f) ∧ But b w' w'') := fun w' b h => text_ok b (oct f) f.bo w' h (by omega)
    have CD : Hid (∀ w' b, Wr w' b (body f) → Calls Tryd.prog 13 #[.pointer (some ⟨b, 0, none⟩)] w' fun e w'' => e = .returned (.tuple #[.string (Go.Fm.st (body f)), .int .i64 0]) ∧ Below w'.heap.size w' w'') := fun w' b h => done_ok b (body f) w' h (by unfold body; rw [List.length_append]; omega)
    have CS : Hid (∀ w', Below w.heap.size w w' → Calls Tryd.prog 14 #[.string (Go.Fm.st (body f))] w' fun e w'' => e = .returned (.string (Go.Fm.st (sealed (body f)))) ∧ Below w'.heap.size w' w'') := fun w' hb => by
      have := seal_any (Go.Fm.st (body f)) w' (by rw [st_size]; unfold body; rw [List.length_append]; omega) (CkTab.below hk hb (Nat.le_refl _))
      rw [st_data] at this
      exact this
    generalize Go.Fm.st (sealed (body f)) = z at *
    generalize Go.Fm.st (body f) = y at *
    generalize body f = B at *
    generalize oct f = O at *
    clear ht hk hu h0 hl2 hb0 hok hbs
    go_enter Tryd.func5, Tryd.ntmps5
    go_wp2_with (first
      | (go_at_call 10; refine (CC.out _ S1.out.bel).mono ?_; rintro e w2 ⟨rfl, hb⟩; have S2 := Lib.hid (Stf.keep _ _ S1.out hb); have Z2 : Hid (w.heap.size < w2.heap.size) := Nat.lt_of_lt_of_le HZ.out hb.size; clear hb e1
         obtain ⟨w3, hw3⟩ : ∃ w3, w2.alloc (.cells #[.int .i64 0, .pointer none, .string ⟨#[]⟩] 50) = w3 := ⟨_, rfl⟩
         have S3 := Lib.hid (show Stf w w.heap.size f w3 from hw3 ▸ Stf.keep _ _ S2.out ((Below.refl _ _).alloc (Nat.le_refl _) _))
         have W3 := Lib.hid (show Wr w3 w2.heap.size [] from hw3 ▸ wr_new w2)
         have l3 := S3.out.box.loadF)
      | (go_at_call 11; refine (CW.out _ _ S3.out.bel W3.out).mono ?_; rintro e w4 ⟨rfl, h4, b4⟩; have W4 := Lib.hid h4; have S4 := Lib.hid (Stf.but S3.out b4 (Nat.ne_of_lt Z2.out) (Nat.le_of_lt Z2.out)); clear h4 b4 l3; have e4 := S4.out.box.all)
      | (go_at_call 12; refine (CT.out _ _ W4.out).mono ?_; rintro e w5 ⟨rfl, h5, b5⟩; have W5 := Lib.hid h5; have S5 := Lib.hid (Stf.but S4.out b5 (Nat.ne_of_lt Z2.out) (Nat.le_of_lt Z2.out)); clear h5 b5 e4)
      | (go_at_call 13; refine (CD.out _ _ W5.out).mono ?_; rintro e w6 ⟨rfl, hb⟩; have S6 := Lib.hid (Stf.keep _ _ S5.out hb); clear hb)
      | (go_at_call 14; refine (CS.out _ S6.out.bel).mono ?_; rintro e w7 ⟨rfl, hb⟩; have S7 := Lib.hid (Stf.keep _ _ S6.out hb); clear hb))
    go_returns
    exact ⟨rfl, S7.out.bel⟩
  · rw [show enc f = ⟨#[]⟩ from if_neg h0]
    have hne : (chk f != 0) = true := by rw [bne_iff_ne]; exact h0
    generalize chk f = c at *
    clear ht hk hu h0
    go_enter Tryd.func5, Tryd.ntmps5
    go_wp2_with (go_at_call 10; refine (CC.out _ S1.out.bel).mono ?_; rintro e w2 ⟨rfl, hb⟩; have S2 := Lib.hid (Stf.keep _ _ S1.out hb); clear hb e1)
    go_returns
    exact ⟨rfl, S2.out.bel⟩
end Go.Proofs.YtacbhbejchjbiaaDoor

namespace Go.Proofs.YtacbhbejchjbiaaDoor
open Go.RowKit Go.Hd Go.Wr Go.Ad Go.Ck Go.Fm
attribute [local go_sem ↓ high] Fr_.loadF Fr_.storeF Fr_.v_cells Fr_.v_match
attribute [local go_sem] Fr_.C0 Fr_.C1 Fr_.C2 Fr_.C3 Fr_.C4 Fr_.C5 Fr_.C6 Fr_.C7 Fr_.C8 Fr_.C9 Fr_.C10 Fr_.C11 Fr_.C12 Fr_.C13 Fr_.C14 Fr_.C15 Fr_.C16 Fr_.C17 Fr_.storeF_zero

/-- What opening a string gives. -/
def opn (s : ByteArray) : ByteArray × Int :=
  if s.size < 4 then (⟨#[]⟩, 1)
  else if ((s.extract (s.size - 4) s.size).toList == (⟨(le (crc (s.extract 0 (s.size - 4)).data.toList) 4).toArray⟩ : ByteArray).toList) = true then (s.extract 0 (s.size - 4), 0) else (⟨#[]⟩, 5)
theorem open_any (s : ByteArray) (w : World) (hs : s.size ≤ 140737488351232) (ht : CkTab w) :
    Calls Tryd.prog 19 #[.string s] w fun e w' => e = .returned (.tuple #[.string (opn s).1, .int .i64 (opn s).2]) ∧ Below w.heap.size w w' := by
  unfold opn
  by_cases h4 : s.size < 4
  · rw [if_pos h4]; exact open_short s w h4
  · rw [if_neg h4]
    have := open_long s (s.size - 4) _ w ht (by omega) hs rfl
    refine this.mono ?_
    rintro e w' ⟨rfl, hb⟩
    refine ⟨?_, hb⟩
    split <;> rfl
/-- A frame's end: its body, and the check. -/
def fin (y : Fr) (R : List UInt8) : Fr × Int :=
  if 2048 < R.length then (Fr_.zf, 2) else if chk { y with bo := bz R } = 0 then ({ y with bo := bz R }, 0) else (Fr_.zf, chk { y with bo := bz R })
def dec1 (l : List UInt8) : Fr × Int := if (rdP (0, l)).2.1 = 0 then fin (rdP (0, l)).1 (rdP (0, l)).2.2 else (Fr_.zf, (rdP (0, l)).2.1)
def dec (s : ByteArray) : Fr × Int := if (opn s).2 = 0 then dec1 (opn s).1.data.toList else (Fr_.zf, (opn s).2)

theorem rest_tot (b : Nat) (l : List UInt8) (w : World) (h : Rs w b (0, l)) :
    Calls Tryd.prog 24 #[.pointer (some ⟨b, 0, none⟩)] w fun e w' => e = .returned (.string (bz l)) ∧ But b w w' :=
  (rest_ok b (bz l) w h).mono fun _ _ q => ⟨q.1, q.2 ▸ But.set1 _ _ _ _⟩

/-- The result's cell holds the zero frame, the Reader lies in its block, behind it the frame that is read. -/
structure Dst (wb : World) (b : Nat) (σ : Sg) (wi : World) : Prop where
  st : Gst wb wb.heap.size wi
  rd : Rs wi b σ
  lt : wb.heap.size < b
theorem Dst.keep {wb wi w' : World} {b : Nat} {σ : Sg} (h : Dst wb b σ wi) (hb : Below wi.heap.size wi w') : Dst wb b σ w' := ⟨h.st.keep hb, h.rd.blk (hb.block _ h.rd.lt), h.lt⟩
theorem Dst.call {wb wi w' : World} {b : Nat} {σ τ : Sg} (h : Dst wb b σ wi) (h1 : Rs w' b τ) (h2 : But b wi w') : Dst wb b τ w' := ⟨h.st.but h2 (Nat.ne_of_lt h.lt) (Nat.le_of_lt h.lt), h1, h.lt⟩

theorem Gst.zero {wb wi : World} {r : Nat} (h : Gst wb r wi) : (Fr_.StoreF ⟨r, 0, none⟩ (.agg #[.int .i64 0, .bool false, .bool false, .bool false, .bool false, .bool false, .bool false, .int .i64 0, .int .i64 0, .int .u64 0, .int .u64 0, .int .u64 0, .int .i64 0, .int .i64 0, .int .i64 0, .int .i64 0, .int .i64 0, .string ⟨#[]⟩])).run Tryd.prog wi = .ok () (wi.setRow r (Fr_.C Fr_.zf)) := h.res.storeF Fr_.zf

section
variable (s : ByteArray) (w : World) (ht : HdTab w) (hk : CkTab w) (hs : s.size ≤ 140737488351232)
include ht hk hs
set_option linter.unusedSectionVars false in
set_option maxRecDepth 100000 in
set_option maxHeartbeats 4000000 in
theorem decode_shut (h : ¬ (opn s).2 = 0) :
    Calls Tryd.prog 9 #[.string s] w fun e w' => e = .returned (.tuple #[Fr_.v (dec s).1, .int .i64 (dec s).2]) ∧ Below w.heap.size w w' := by
  rw [show dec s = (Fr_.zf, (opn s).2) from if_neg h]
  obtain ⟨w1, hw1⟩ : ∃ w1, w.alloc (.cells #[.int .i64 0, .bool false, .bool false, .bool false, .bool false, .bool false, .bool false, .int .i64 0, .int .i64 0, .int .u64 0, .int .u64 0, .int .u64 0, .int .i64 0, .int .i64 0, .int .i64 0, .int .i64 0, .int .i64 0, .string ⟨#[]⟩] 34) = w1 := ⟨_, rfl⟩
  have G1 := Lib.hid (show Gst w w.heap.size w1 from hw1 ▸ Gst.new w)
  have CO := Lib.hid (open_any s w1 hs (CkTab.below hk G1.out.bel (Nat.le_refl _)))
  have hne : ((opn s).2 != 0) = true := by rw [bne_iff_ne]; exact h
  generalize (opn s).1 = t at *
  generalize (opn s).2 = c at *
  clear ht hk hs h
  go_enter Tryd.func9, Tryd.ntmps9
  go_wp2_with (first
    | (go_at_call 19; refine CO.out.mono ?_; rintro e w2 ⟨rfl, hb⟩; have G2 := Lib.hid (G1.out.keep hb); clear hb; have sf := G2.out.zero))
  exact ret_two Tryd.results9 rfl rfl (G2.out.res.setRow _) rfl ⟨rfl, G2.out.fin _⟩

set_option maxRecDepth 100000 in
set_option maxHeartbeats 4000000 in
theorem decode_bad (h : (opn s).2 = 0) (h2 : ¬ (rdP (0, (opn s).1.data.toList)).2.1 = 0) :
    Calls Tryd.prog 9 #[.string s] w fun e w' => e = .returned (.tuple #[Fr_.v (dec s).1, .int .i64 (dec s).2]) ∧ Below w.heap.size w w' := by
  rw [show dec s = (Fr_.zf, (rdP (0, (opn s).1.data.toList)).2.1) from (if_pos h).trans (if_neg h2)]
  obtain ⟨w1, hw1⟩ : ∃ w1, w.alloc (.cells #[.int .i64 0, .bool false, .bool false, .bool false, .bool false, .bool false, .bool false, .int .i64 0, .int .i64 0, .int .u64 0, .int .u64 0, .int .u64 0, .int .i64 0, .int .i64 0, .int .i64 0, .int .i64 0, .int .i64 0, .string ⟨#[]⟩] 34) = w1 := ⟨_, rfl⟩
  have G1 := Lib.hid (show Gst w w.heap.size w1 from hw1 ▸ Gst.new w)
  have HZ : Hid (w.heap.size < w1.heap.size) := by rw [← hw1]; unfold Hid; simp
  have CO := Lib.hid (open_any s w1 hs (CkTab.below hk G1.out.bel (Nat.le_refl _)))
  have D := Lib.hid (rdC (opn s).1.data.toList)
  have HT : Hid (∀ w', Below w.heap.size w w' → HdTab w') := fun w' hb => HdTab.below ht hb (Nat.le_refl _)
  have HK : Hid (0 < w.heap.size) := HdTab.lt ht
  have hy : (rdP (0, (opn s).1.data.toList)).1 = Fr_.zf := D.out.bad h2
  have hne : ((rdP (0, (opn s).1.data.toList)).2.1 != 0) = true := by rw [bne_iff_ne]; exact h2
  generalize rdP (0, (opn s).1.data.toList) = ρ at *
  obtain ⟨y, τ⟩ := ρ
  obtain rfl : y = Fr_.zf := hy
  simp only at D hne ⊢
  rw [h] at CO
  generalize (opn s).1 = t at *
  clear ht hk hs h h2
  go_enter Tryd.func9, Tryd.ntmps9
  go_wp2_with (first
    | (go_at_call 19; refine CO.out.mono ?_; rintro e w2 ⟨rfl, hb⟩; have G2 := Lib.hid (G1.out.keep hb); have Z2 : Hid (w.heap.size < w2.heap.size) := Nat.lt_of_lt_of_le HZ.out hb.size; clear hb
       obtain ⟨w3, hw3⟩ : ∃ w3, w2.alloc (.cells #[.int .i64 0, .string t] 82) = w3 := ⟨_, rfl⟩
       have D3 := Lib.hid (show Dst w w2.heap.size (0, t.data.toList) w3 from ⟨hw3 ▸ G2.out.keep ((Below.refl _ _).alloc (Nat.le_refl _) _), hw3 ▸ rs_new w2 t, Z2.out⟩))
    | (go_at_call 20; refine (new_any _ _).mono ?_; rintro e w1' ⟨rfl, rfl⟩)
    | (go_at_call 21; refine (D.out.rd _ _ (HT.out _ D3.out.st.bel) D3.out.rd (by have := HK.out; have := Z2.out; omega)).mono ?_; rintro e w4 ⟨rfl, h4, b4⟩; have D4 := Lib.hid (D3.out.call h4 b4); clear h4 b4
       obtain ⟨w5, hw5⟩ : ∃ w5, w4.alloc (.cells (Fr_.C Fr_.zf) 34) = w5 := ⟨_, rfl⟩
       have D5 := Lib.hid (show Dst w w2.heap.size τ w5 from hw5 ▸ D4.out.keep ((Below.refl _ _).alloc (Nat.le_refl _) _)))
    | (go_at_call 22; refine (err_tot _ τ _ D5.out.rd).mono ?_; rintro e w6 ⟨rfl, rfl⟩; have sf := D5.out.st.zero))
  exact ret_two Tryd.results9 rfl rfl (D5.out.st.res.setRow _) rfl ⟨rfl, D5.out.st.fin _⟩
set_option maxRecDepth 100000 in
set_option maxHeartbeats 8000000 in
theorem decode_rest (h : (opn s).2 = 0) (h2 : (rdP (0, (opn s).1.data.toList)).2.1 = 0) :
    Calls Tryd.prog 9 #[.string s] w fun e w' => e = .returned (.tuple #[Fr_.v (dec s).1, .int .i64 (dec s).2]) ∧ Below w.heap.size w w' := by
  rw [show dec s = fin (rdP (0, (opn s).1.data.toList)).1 (rdP (0, (opn s).1.data.toList)).2.2 from (if_pos h).trans (if_pos h2)]
  obtain ⟨w1, hw1⟩ : ∃ w1, w.alloc (.cells #[.int .i64 0, .bool false, .bool false, .bool false, .bool false, .bool false, .bool false, .int .i64 0, .int .i64 0, .int .u64 0, .int .u64 0, .int .u64 0, .int .i64 0, .int .i64 0, .int .i64 0, .int .i64 0, .int .i64 0, .string ⟨#[]⟩] 34) = w1 := ⟨_, rfl⟩
  have G1 := Lib.hid (show Gst w w.heap.size w1 from hw1 ▸ Gst.new w)
  have HZ : Hid (w.heap.size < w1.heap.size) := by rw [← hw1]; unfold Hid; simp
  have CO := Lib.hid (open_any s w1 hs (CkTab.below hk G1.out.bel (Nat.le_refl _)))
  have D := Lib.hid (rdC (opn s).1.data.toList)
  have HT : Hid (∀ w', Below w.heap.size w w' → HdTab w') := fun w' hb => HdTab.below ht hb (Nat.le_refl _)
  have HK : Hid (0 < w.heap.size) := HdTab.lt ht
  generalize rdP (0, (opn s).1.data.toList) = ρ at *
  obtain ⟨y, e0, R⟩ := ρ
  obtain rfl : e0 = 0 := h2
  simp only at D ⊢
  rw [h] at CO
  generalize (opn s).1 = t at *
  obtain ⟨z, hz⟩ : ∃ z, { y with bo := bz R } = z := ⟨_, rfl⟩
  have HZF := Lib.hid hz
  have hu : FrU z := hz ▸ ⟨D.out.fru.ta, D.out.fru.fa, D.out.fru.th⟩
  have CC : Hid (∀ w', Below w.heap.size w w' → Calls Tryd.prog 10 #[Fr_.v z] w' fun e w'' => e = .returned (.int .i64 (chk z)) ∧ Below w'.heap.size w' w'') := fun w' hb => progCheck_any z w' (HT.out w' hb) hu
  unfold fin
  rw [hz]
  clear ht hk hs h hu hz
  have key : (2048 < R.length ∨ (¬ 2048 < R.length ∧ ¬ chk z = 0) ∨ (¬ 2048 < R.length ∧ chk z = 0)) := by
    by_cases a : 2048 < R.length
    · exact .inl a
    · by_cases b : chk z = 0
      · exact .inr (.inr ⟨a, b⟩)
      · exact .inr (.inl ⟨a, b⟩)
  rcases key with hl | ⟨hl, hc⟩ | ⟨hl, hc⟩
  case inl =>
    rw [if_pos hl]
    have hl' : (2048 : Int) < (R.length : Int) := by omega
    clear hl CC
    go_enter Tryd.func9, Tryd.ntmps9
    go_wp2_with (first
      | (go_at_call 19; refine CO.out.mono ?_; rintro e w2 ⟨rfl, hb⟩; have G2 := Lib.hid (G1.out.keep hb); have Z2 : Hid (w.heap.size < w2.heap.size) := Nat.lt_of_lt_of_le HZ.out hb.size; clear hb
         obtain ⟨w3, hw3⟩ : ∃ w3, w2.alloc (.cells #[.int .i64 0, .string t] 82) = w3 := ⟨_, rfl⟩
         have D3 := Lib.hid (show Dst w w2.heap.size (0, t.data.toList) w3 from ⟨hw3 ▸ G2.out.keep ((Below.refl _ _).alloc (Nat.le_refl _) _), hw3 ▸ rs_new w2 t, Z2.out⟩))
      | (go_at_call 20; refine (new_any _ _).mono ?_; rintro e w1' ⟨rfl, rfl⟩)
      | (go_at_call 21; refine (D.out.rd _ _ (HT.out _ D3.out.st.bel) D3.out.rd (by have := HK.out; have := Z2.out; omega)).mono ?_; rintro e w4 ⟨rfl, h4, b4⟩; have D4 := Lib.hid (D3.out.call h4 b4); clear h4 b4
         obtain ⟨w5, hw5⟩ : ∃ w5, w4.alloc (.cells (Fr_.C y) 34) = w5 := ⟨_, rfl⟩
         have D5 := Lib.hid (show Dst w w2.heap.size (0, R) w5 from hw5 ▸ D4.out.keep ((Below.refl _ _).alloc (Nat.le_refl _) _)))
      | (go_at_call 22; refine (err_tot _ (0, R) _ D5.out.rd).mono ?_; rintro e w6 ⟨rfl, rfl⟩)
      | (go_at_call 23; refine (left_tot _ R _ D5.out.rd).mono ?_; rintro e w6 ⟨rfl, rfl⟩; have sf := D5.out.st.zero))
    exact ret_two Tryd.results9 rfl rfl (D5.out.st.res.setRow _) rfl ⟨rfl, D5.out.st.fin _⟩
  all_goals
    rw [if_neg hl]
    first | rw [if_neg hc] | rw [if_pos hc]
    have hl' : ¬ (2048 : Int) < (R.length : Int) := by omega
    first | (have hne : (chk z != 0) = true := by rw [bne_iff_ne]; exact hc) | rw [hc] at CC
    generalize chk z = c at *
    clear hl hc
    go_enter Tryd.func9, Tryd.ntmps9
    go_wp2_with (first
      | (go_at_call 19; refine CO.out.mono ?_; rintro e w2 ⟨rfl, hb⟩; have G2 := Lib.hid (G1.out.keep hb); have Z2 : Hid (w.heap.size < w2.heap.size) := Nat.lt_of_lt_of_le HZ.out hb.size; clear hb
         obtain ⟨w3, hw3⟩ : ∃ w3, w2.alloc (.cells #[.int .i64 0, .string t] 82) = w3 := ⟨_, rfl⟩
         have D3 := Lib.hid (show Dst w w2.heap.size (0, t.data.toList) w3 from ⟨hw3 ▸ G2.out.keep ((Below.refl _ _).alloc (Nat.le_refl _) _), hw3 ▸ rs_new w2 t, Z2.out⟩))
      | (go_at_call 20; refine (new_any _ _).mono ?_; rintro e w1' ⟨rfl, rfl⟩)
      | (go_at_call 21; refine (D.out.rd _ _ (HT.out _ D3.out.st.bel) D3.out.rd (by have := HK.out; have := Z2.out; omega)).mono ?_; rintro e w4 ⟨rfl, h4, b4⟩; have D4 := Lib.hid (D3.out.call h4 b4); clear h4 b4
         obtain ⟨w5, hw5⟩ : ∃ w5, w4.alloc (.cells (Fr_.C y) 34) = w5 := ⟨_, rfl⟩
         have D5 := Lib.hid (show Dst w w2.heap.size (0, R) w5 from hw5 ▸ D4.out.keep ((Below.refl _ _).alloc (Nat.le_refl _) _))
         have Y5 := Lib.hid (show Fr_.Box w5 w4.heap.size y from hw5 ▸ Fr_.Box.newC w4 y)
         have N5 : Hid (w2.heap.size < w4.heap.size) := D4.out.rd.lt)
      | (go_at_call 22; refine (err_tot _ (0, R) _ D5.out.rd).mono ?_; rintro e w6 ⟨rfl, rfl⟩)
      | (go_at_call 23; refine (left_tot _ R _ D5.out.rd).mono ?_; rintro e w6 ⟨rfl, rfl⟩)
      | (go_at_call 24; refine (rest_tot _ R _ D5.out.rd).mono ?_; rintro e w7 ⟨rfl, b7⟩
         have G7 := Lib.hid (D5.out.st.but b7 (Nat.ne_of_lt Z2.out) (Nat.le_of_lt Z2.out))
         have Y7 := Lib.hid (show Fr_.Box w7 w4.heap.size y from (b7.block _ Y5.out.lt (Nat.ne_of_gt N5.out)).trans Y5.out)
         clear b7
         obtain ⟨w8, hw8⟩ : ∃ w8, w7.setCell ⟨w4.heap.size, 17, none⟩ (.string (bz R)) = w8 := ⟨_, rfl⟩
         have f7 := Y7.out.frozen 17; have e7 := Y7.out.all
         have Y8 := Lib.hid (show Fr_.Box w8 w4.heap.size z from HZF.out ▸ hw8 ▸ Y7.out.set17 (bz R))
         have G8 := Lib.hid (show Gst w w.heap.size w8 from hw8 ▸ ⟨G7.out.res.other (a := ⟨w4.heap.size, 17, none⟩) (by have := Z2.out; have := N5.out; show w.heap.size ≠ w4.heap.size; omega) _, G7.out.bel.setCell (p := ⟨w4.heap.size, 17, none⟩) (by have := Z2.out; have := N5.out; show w.heap.size ≤ w4.heap.size; omega) _, Nat.le_refl _⟩)
         have l8 := Y8.out.loadF)
      | (go_at_call 10; refine (CC.out _ G8.out.bel).mono ?_; rintro e w9 ⟨rfl, hb⟩; have G9 := Lib.hid (G8.out.keep hb); have Y9 := Lib.hid (Y8.out.below hb Y8.out.lt); clear hb l8 e7 f7; have l9 := Y9.out.loadF; have sf := G9.out.zero; have sg := G9.out.res.storeF z))
    exact ret_two Tryd.results9 rfl rfl (G9.out.res.setRow _) rfl ⟨rfl, G9.out.fin _⟩
end
theorem decode_any (s : ByteArray) (w : World) (ht : HdTab w) (hk : CkTab w) (hs : s.size ≤ 140737488351232) :
    Calls Tryd.prog 9 #[.string s] w fun e w' => e = .returned (.tuple #[Fr_.v (dec s).1, .int .i64 (dec s).2]) ∧ Below w.heap.size w w' := by
  by_cases h : (opn s).2 = 0
  · by_cases h2 : (rdP (0, (opn s).1.data.toList)).2.1 = 0
    · exact decode_rest s w ht hk hs h h2
    · exact decode_bad s w ht hk hs h h2
  · exact decode_shut s w ht hk hs h
end Go.Proofs.YtacbhbejchjbiaaDoor

namespace Go.Proofs.YtacbhbejchjbiaaDoor
open Go.RowKit Go.Hd Go.Wr Go.Ad Go.Ck Go.Fm

theorem ex_take (l : List UInt8) (n : Nat) : ((⟨l.toArray⟩ : ByteArray).extract 0 n).data.toList = l.take n := by simp
theorem ex_drop (l : List UInt8) (n : Nat) : ((⟨l.toArray⟩ : ByteArray).extract n (⟨l.toArray⟩ : ByteArray).size).data.toList = l.drop n := by
  have : (⟨l.toArray⟩ : ByteArray).size = l.length := List.size_toArray
  rw [this]
  simp [List.take_of_length_le]
theorem ba_st (s : ByteArray) (l : List UInt8) (h : s.data.toList = l) : s = Go.Fm.st l := by rw [← h, st_of]

/-- The test of Open, over octets. -/
theorem opn_of (Q : List UInt8) (n : Nat) (h : Q.length = n + 4) : opn (Go.Fm.st Q) = if Q.drop n = le (crc (Q.take n)) 4 then (Go.Fm.st (Q.take n), 0) else (⟨#[]⟩, 5) := by
  unfold opn
  rw [if_neg (by rw [st_size]; omega), st_size, h, Nat.add_sub_cancel]
  have e1 : (Go.Fm.st Q).extract 0 n = Go.Fm.st (Q.take n) := ba_st _ _ (ex_take Q n)
  have e2 : ((Go.Fm.st Q).extract n (n + 4)).toList = Q.drop n := by
    have := ex_drop Q n
    rw [ByteArray.toList_eq, ← h, ← st_size Q]
    exact this
  rw [e1, e2, st_data, ByteArray.toList_eq]
  by_cases hc : Q.drop n = le (crc (Q.take n)) 4
  · rw [if_pos hc, if_pos (by rw [hc]; simp)]
  · rw [if_neg hc, if_neg (by simpa using hc)]
theorem opn_sealed (L : List UInt8) : opn (Go.Fm.st (sealed L)) = (Go.Fm.st L, 0) := by
  have h1 : (sealed L).drop L.length = le (crc ((sealed L).take L.length)) 4 := sealed_opens L
  have h2 : (sealed L).take L.length = L := List.take_left' rfl
  rw [opn_of (sealed L) L.length (sealed_len L), if_pos h1, h2]
theorem opn_ok (s : ByteArray) (h : (opn s).2 = 0) : s = Go.Fm.st (sealed (opn s).1.data.toList) := by
  by_cases h4 : s.size < 4
  · unfold opn at h; rw [if_pos h4] at h; exact absurd h (by decide)
  · have hs : s = Go.Fm.st s.data.toList := (st_of s).symm
    have hl : s.data.toList.length = (s.size - 4) + 4 := by rw [Array.length_toList]; show s.size = _; omega
    have he := opn_of s.data.toList (s.size - 4) hl
    rw [← hs] at he
    by_cases hc : s.data.toList.drop (s.size - 4) = le (crc (s.data.toList.take (s.size - 4))) 4
    · rw [if_pos hc] at he
      rw [he, st_data]
      refine ba_st s _ ?_
      unfold sealed
      rw [← hc, List.take_append_drop]
    · rw [if_neg hc] at he
      rw [he] at h
      exact absurd h (by decide)
theorem opn_flipped (L : List UInt8) (n p : Nat) (hp : p < 4294967296) (hn : n < 8 * (L.length + 4)) (T : List UInt8) (hT : T = flps (sealed L) n p 32) (h : T ≠ sealed L) : opn (Go.Fm.st T) = (⟨#[]⟩, 5) := by
  have hd := flips_detected L n p hp hn (fun e => h (hT.trans e))
  have hl : T.length = L.length + 4 := by rw [hT, flps_len, sealed_len]
  rw [opn_of T L.length hl, if_neg]
  rw [hT]
  exact hd

theorem fin_ok {f : Fr} (h : chk f = 0) : fin { f with bo := ⟨#[]⟩ } f.bo.data.toList = (f, 0) := by
  have e : ({ { f with bo := ⟨#[]⟩ } with bo := bz f.bo.data.toList } : Fr) = f := by
    have : bz f.bo.data.toList = f.bo := by unfold bz; simp
    rw [this]
  unfold fin
  have hb := bo_le h
  rw [if_neg (by rw [Array.length_toList]; show ¬ 2048 < f.bo.size; omega), e, if_pos h]
/-- What is encoded is decoded. -/
theorem dec_enc {f : Fr} (h : chk f = 0) : dec (enc f) = (f, 0) := by
  rw [show enc f = Go.Fm.st (sealed (body f)) from if_pos h]
  unfold dec
  rw [opn_sealed, if_pos rfl, st_data]
  unfold dec1 body
  rw [rd_back h, if_pos rfl]
  exact fin_ok h
/-- What is decoded is encoded. -/
theorem dec_back (s : ByteArray) (h : (dec s).2 = 0) : chk (dec s).1 = 0 ∧ enc (dec s).1 = s := by
  by_cases h1 : (opn s).2 = 0
  case neg => rw [show dec s = (Fr_.zf, (opn s).2) from if_neg h1] at h; exact absurd h h1
  have e1 : dec s = dec1 (opn s).1.data.toList := if_pos h1
  rw [e1] at h ⊢
  have hs := opn_ok s h1
  generalize (opn s).1.data.toList = l at *
  by_cases h2 : (rdP (0, l)).2.1 = 0
  case neg => rw [show dec1 l = (Fr_.zf, (rdP (0, l)).2.1) from if_neg h2] at h; exact absurd h h2
  obtain ⟨_, hw⟩ := rd_written l h2
  have e2 : dec1 l = fin (rdP (0, l)).1 (rdP (0, l)).2.2 := if_pos h2
  rw [e2] at h ⊢
  generalize (rdP (0, l)).1 = y at *
  generalize (rdP (0, l)).2.2 = R at *
  unfold fin at h ⊢
  by_cases h3 : 2048 < R.length
  · rw [if_pos h3] at h; exact absurd h (by decide)
  rw [if_neg h3] at h ⊢
  by_cases h4 : chk { y with bo := bz R } = 0
  · rw [if_pos h4]
    refine ⟨h4, ?_⟩
    simp only
    rw [show enc { y with bo := bz R } = Go.Fm.st (sealed (body { y with bo := bz R })) from if_pos h4, hs]
    have hb : body { y with bo := bz R } = l := by
      rw [← hw]
      show oct { y with bo := bz R } ++ (bz R).data.toList = _
      rw [oct_bo]
      simp [bz]
    rw [hb]
  · rw [if_neg h4] at h
    exact absurd h h4
theorem dec_zero (s : ByteArray) (h : ¬ (dec s).2 = 0) : (dec s).1 = Fr_.zf := by
  unfold dec at h ⊢
  by_cases h1 : (opn s).2 = 0
  case neg => rw [if_neg h1]
  rw [if_pos h1] at h ⊢
  unfold dec1 at h ⊢
  by_cases h2 : (rdP (0, (opn s).1.data.toList)).2.1 = 0
  case neg => rw [if_neg h2]
  rw [if_pos h2] at h ⊢
  unfold fin at h ⊢
  split
  · rfl
  · rename_i h3
    rw [if_neg h3] at h
    split
    · rename_i h4
      rw [if_pos h4] at h
      exact absurd rfl h
    · rfl
theorem dec_fru (s : ByteArray) : FrU (dec s).1 := by
  have hz : FrU Fr_.zf := ⟨by constructor <;> decide, by constructor <;> decide, by constructor <;> decide⟩
  unfold dec
  split
  case isFalse => exact hz
  unfold dec1
  split
  case isFalse => exact hz
  unfold fin
  have hu := (rdC (opn s).1.data.toList).fru
  repeat' split
  all_goals first
    | exact hz
    | exact ⟨hu.ta, hu.fa, hu.th⟩
end Go.Proofs.YtacbhbejchjbiaaDoor

