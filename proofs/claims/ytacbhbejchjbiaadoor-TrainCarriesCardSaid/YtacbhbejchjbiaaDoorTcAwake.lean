/-
  TrainCarries: what lies in the variables; frames' octets as an aggregate; THE WALK of awake17.
-/
import Derived.Test.YtacbhbejchjbiaaDoorTcFrame
import Derived.Test.YtacbhbejchjbiaaDoorFmDec
import Derived.Test.YtacbhbejchjbiaaDoorFrEq
import Derived.Test.YtacbhbejchjbiaaDoorTnDec2
import Derived.Test.YtacbhbejchjbiaaDoorTnEnc2
import Derived.OpenShut
import Derived.ProofKit
import Derived.Lib.LaidTab
import Derived.Stop.LaidErr
import Derived.MakeChecks
namespace Go.Tn
theorem ln_le2 (B : Nat) (l : List Nat) (h : ∀ n ∈ l, n ≤ B) : ∀ o, ln o l ≤ o + (B + 7) * l.length := by
  induction l with
  | nil => intro o; exact Nat.le_refl _
  | cons n l ih =>
    intro o
    have h1 := ih (fun m hm => h m (List.mem_cons_of_mem _ hm)) (up o + 4 + n)
    have h2 := h n List.mem_cons_self
    have h3 := up_lt o
    rw [ln, List.length_cons, Nat.mul_succ]
    omega
/-- Up to eight frames of 14 to 236 octets fit. -/
theorem few_fit {l : List ByteArray} (h0 : 0 < l.length) (h8 : l.length ≤ 8) (h : ∀ s ∈ l, 14 ≤ s.size ∧ s.size ≤ 236) : eE l = 0 := by
  refine mE_zero.2 ⟨by rw [sz_len]; omega, by rw [sz_len]; omega, ?_, ?_⟩
  · rw [List.all_eq_true]
    intro z hz
    obtain ⟨s, hs, rfl⟩ := List.mem_map.1 hz
    have := h s hs
    exact pos_iff.2 ⟨by omega, by omega⟩
  · have := ln_le2 236 ((sz l).map Int.toNat) (fun n hn => by
      obtain ⟨z, hz, rfl⟩ := List.mem_map.1 hn
      obtain ⟨s, hs, rfl⟩ := List.mem_map.1 hz
      have := (h s hs).2
      rw [Int.toNat_natCast]; exact this) 0
    rw [List.length_map, sz_len] at this
    unfold mL
    have h9 : (236 + 7) * l.length ≤ (236 + 7) * 8 := Nat.mul_le_mul_left _ h8
    omega
end Go.Tn
namespace Go.Proofs.YtacbhbejchjbiaaDoor
open Go.ChangeShapes Go.WideShapes Go.RowKit Go.Hd Go.Wr Go.Ck Go.Tc Go.Fm Go.Tn
attribute [local go_sem ↓ high] Fr_.loadF Fr_.storeF Fr_.v_cells Fr_.v_match fr_guard fr_eql
attribute [local go_sem] Fr_.C0 Fr_.C1 Fr_.C2 Fr_.C3 Fr_.C4 Fr_.C5 Fr_.C6 Fr_.C7 Fr_.C8 Fr_.C9 Fr_.C10 Fr_.C11 Fr_.C12 Fr_.C13 Fr_.C14 Fr_.C15 Fr_.C16 Fr_.C17 Fr_.loadF_new Fr_.storeF_zero

/-- The tables lie in their variables. -/
structure TcTabs (w : World) : Prop where
  hd : HdTab w
  ck : CkTab w
  tn : TnTab w
theorem TcTabs.bel {w w' : World} (h : TcTabs w) (hb : Below w.heap.size w w') : TcTabs w' := ⟨h.hd.below hb (Nat.le_refl _), h.ck.below hb (Nat.le_refl _), h.tn.bel hb⟩
theorem g32 : Tryd.prog.globalNamed "airtime/checksum.steps32" = some 2 := by kernel_rfl
theorem g32Type : (Tryd.prog.globals[2]?).map (·.type) = some 100 := by kernel_rfl
theorem g8 : Tryd.prog.globalNamed "airtime/checksum.steps8" = some 1 := by kernel_rfl
theorem g8Type : (Tryd.prog.globals[1]?).map (·.type) = some 97 := by kernel_rfl
theorem tab_zs : ∀ i : Fin 16, ([0, 498536548, 997073096, 651767980, 1994146192, 1802195444, 1303535960, 1342533948, 3988292384, 4027552580, 3604390888, 3412177804, 2607071920, 2262029012, 2685067896, 3183342108] : List Int).getD i.val 0 = (tab i.val : Int) := by decide +kernel
theorem tab8_zs : ∀ i : Fin 16, ([0, 7, 14, 9, 28, 27, 18, 21, 56, 63, 54, 49, 36, 35, 42, 45] : List Int).getD i.val 0 = (tab8 i.val : Int) := by decide +kernel
abbrev LaidFacts (W : World) : Prop := TcTabs W
theorem laidFacts {W : World} (h : laidMetH Tryd.prog Rows.trainCarriesRow.laid W) : LaidFacts W := by
  rw [MakeChecks.laidMetH_plain _ _ _ (by kernel_rfl)] at h
  have h1 := laidMet.tail h
  have h2 := laidMet.tail h1
  have t := Lib.tabIs_of_head (k := .u32) (zs := [0, 498536548, 997073096, 651767980, 1994146192, 1802195444, 1303535960, 1342533948, 3988292384, 4027552580, 3604390888, 3412177804, 2607071920, 2262029012, 2685067896, 3183342108]) g32 g32Type Tryd.underlying100 Tryd.underlying94 (by kernel_rfl) (by kernel_rfl) h
  have t8 := Lib.tabIs_of_head (k := .u8) (zs := [0, 7, 14, 9, 28, 27, 18, 21, 56, 63, 54, 49, 36, 35, 42, 45]) g8 g8Type Tryd.underlying97 Tryd.underlying5 (by kernel_rfl) (by kernel_rfl) h1
  have c : ∀ i, i < 16 → W.cell? ⟨2, i, none⟩ = some (.int .u32 (tab i : Int)) := fun i hi => (t.cell g32 i hi).trans (congrArg (fun z => some (Value.int .u32 z)) (tab_zs ⟨i, hi⟩))
  have c8 : ∀ i, i < 16 → W.cell? ⟨1, i, none⟩ = some (.int .u8 (tab8 i : Int)) := fun i hi => (t8.cell g8 i hi).trans (congrArg (fun z => some (Value.int .u8 z)) (tab8_zs ⟨i, hi⟩))
  exact ⟨tab_of_laid h2, ⟨c, World.block_lt_of_cell? _ _ (c 0 (by decide))⟩, ⟨c8, World.block_lt_of_cell? _ _ (c8 0 (by decide))⟩⟩

theorem fru_mkS (k po du th sq ct : Int) (bo : ByteArray) (h : th = 0 ∨ th = 2199023255555) : FrU (mkS k po du th sq ct bo) := by
  have h0 : u64 th := by rcases h with rfl | rfl <;> constructor <;> decide
  exact ⟨show u64 (2199023255554 : Int) by constructor <;> decide, show u64 (2199023255553 : Int) by constructor <;> decide, h0⟩
theorem fru_frS (x : Sm) : FrU (frS x) := by
  unfold frS
  split
  · exact fru_mkS _ _ _ _ _ _ _ (.inr rfl)
  · split
    · exact fru_mkS _ _ _ _ _ _ _ (.inl rfl)
    · split
      · exact fru_mkS _ _ _ _ _ _ _ (.inr rfl)
      · exact fru_mkS _ _ _ _ _ _ _ (.inr rfl)
/-- Encode of such a frame, and Decode of its octets. -/
theorem tcEnc_any (x : Sm) (w : World) (ht : TcTabs w) (hb : x.bo.size ≤ 200) :
    Calls Tryd.prog 5 #[Fr_.v (frS x)] w fun e w' => e = .returned (.tuple #[.string (enc (frS x)), .int .i64 0]) ∧ Below w.heap.size w w' := by
  have := encode_any (frS x) w ht.hd ht.ck (fru_frS x)
  rwa [chk_frS hb] at this
theorem enc_bounds {x : Sm} (hb : x.bo.size ≤ 200) : 14 ≤ (enc (frS x)).size ∧ (enc (frS x)).size ≤ 236 := by
  obtain ⟨h1, h2, h3⟩ := enc_size hb
  rw [h1, st_size]
  exact ⟨h2, h3⟩
theorem tcDec_any (x : Sm) (w : World) (ht : TcTabs w) (hb : x.bo.size ≤ 200) :
    Calls Tryd.prog 9 #[.string (enc (frS x))] w fun e w' => e = .returned (.tuple #[Fr_.v (frS x), .int .i64 0]) ∧ Below w.heap.size w w' := by
  have := decode_any (enc (frS x)) w ht.hd ht.ck (Nat.le_trans (enc_bounds hb).2 (by decide))
  rwa [dec_enc (chk_frS hb)] at this

def xw : Sm := ⟨0, 7, 0, ⟨#[120]⟩⟩
theorem xw_bo : xw.bo.size ≤ 200 := by decide
theorem xw_w : SmW xw := by unfold SmW xw; simp only; omega
theorem aw_cars (s : ByteArray) (h : 14 ≤ s.size ∧ s.size ≤ 236) : eE [s, s] = 0 ∧ ∃ p, Tn.dec (eS [s, s]).data.toList = [⟨4, s⟩, ⟨p, s⟩] ∧ (eS [s, s]).size ≤ 8192 := by
  have he : eE [s, s] = 0 := few_fit (by simp) (by simp) fun x hx => by
    simp at hx; subst hx; exact h
  have hd : (eS [s, s]).data.toList = ag 0 (fs [s, s]) := by rw [eS_ok he]
  have hx := fs_pos he
  refine ⟨he, ((Tn.up (Tn.up 0 + 4 + s.data.toList.length) + 4 : Nat) : Int), ?_, eS_le _⟩
  rw [hd, dec_ag hx.1 hx.2]
  show [(⟨_, ⟨s.data.toList.toArray⟩⟩ : Cr), ⟨_, ⟨s.data.toList.toArray⟩⟩] = _
  rw [show (⟨s.data.toList.toArray⟩ : ByteArray) = s from Go.Fm.st_of s]
  rfl
theorem one_of_two {W : World} {v0 : Option Addr} {c : Nat} {m n : Int} {s u : ByteArray} (h : Cr_.Sl W v0 [⟨m, s⟩, ⟨n, u⟩] c) : ∃ b off, v0 = some ⟨b, off, none⟩ ∧ b < W.heap.size ∧ W.cell? ⟨b, off + 2, none⟩ = some (.int .i64 n) ∧ W.cell? ⟨b, off + 2 + 1, none⟩ = some (.string u) := by
  obtain ⟨b, off, rfl, hb, h1⟩ := h.lies 1 (by simp)
  exact ⟨b, off, rfl, hb, h1⟩

set_option maxRecDepth 100000 in
set_option maxHeartbeats 4000000 in
theorem awake17_any (w : World) (ht : TcTabs w) : Calls Tryd.prog 4 #[] w fun e w' => e = .returned (.bool true) ∧ Below w.heap.size w w' := by
  have HT := Lib.hid ht
  have CF : Hid (∀ w, Calls Tryd.prog 6 #[.agg #[.int .u8 0, .int .u16 7, .int .u8 0, .string ⟨#[120]⟩]] w fun e w' => e = .returned (Fr_.v (frS xw)) ∧ Below w.heap.size w w') := fun w => tcFrame_any xw w xw_w
  have CE : Hid (∀ w, TcTabs w → Calls Tryd.prog 5 #[Fr_.v (frS xw)] w fun e w' => e = .returned (.tuple #[.string (enc (frS xw)), .int .i64 0]) ∧ Below w.heap.size w w') := fun w h => tcEnc_any xw w h xw_bo
  have CD : Hid (∀ w, TcTabs w → Calls Tryd.prog 9 #[.string (enc (frS xw))] w fun e w' => e = .returned (.tuple #[Fr_.v (frS xw), .int .i64 0]) ∧ Below w.heap.size w w') := fun w h => tcDec_any xw w h xw_bo
  obtain ⟨he, p, hdec, hsz⟩ := aw_cars (enc (frS xw)) (enc_bounds xw_bo)
  have CT : Hid (∀ W : World, TcTabs W → Calls Tryd.prog 7 #[.slice (some ⟨W.heap.size, 0, none⟩) 2 2] (W.alloc (.cells #[.string (enc (frS xw)), .string (enc (frS xw))] 9)) fun e w' => e = .returned (.tuple #[.string (eS [enc (frS xw), enc (frS xw)]), .int .i64 0]) ∧ Below W.heap.size W w') := fun W h => by
    have hb : Below W.heap.size W (W.alloc (.cells #[.string (enc (frS xw)), .string (enc (frS xw))] 9)) := (Below.refl _ _).alloc (Nat.le_refl _) _
    have c := tnEncode_any [enc (frS xw), enc (frS xw)] (some ⟨W.heap.size, 0, none⟩) 2 _ (Ss_.sl_lit W [enc (frS xw), enc (frS xw)] (by unfold maxLen; simp)).lies (by decide) (h.bel hb).tn
    refine c.mono fun e w' q => ⟨q.1.trans (by rw [he]), ?_⟩
    exact hb.trans (q.2.mono (by simp))
  have CL : Hid (∀ W : World, TcTabs W → Calls Tryd.prog 8 #[.string (eS [enc (frS xw), enc (frS xw)])] W fun e w' => ∃ v0 c, e = .returned (.slice v0 2 c) ∧ Cr_.Sl w' v0 [⟨4, enc (frS xw)⟩, ⟨p, enc (frS xw)⟩] c ∧ Below W.heap.size W w') := fun W h => by
    have c := tnDecode_any (eS [enc (frS xw), enc (frS xw)]) W (Nat.le_trans hsz (by decide)) h.tn
    unfold DecPost at c
    rw [hdec] at c
    exact c
  generalize eS [enc (frS xw), enc (frS xw)] = T at *
  generalize enc (frS xw) = E at *
  generalize frS xw = F at *
  have hee : (E.toList == E.toList) = true := by simp
  clear ht he hdec hsz
  go_enter Tryd.func4, Tryd.ntmps4
  go_wp2_with fail
  refine (CF.out w).mono ?_
  rintro e w1 ⟨rfl, h⟩
  have HT1 := Lib.hid (HT.out.bel h)
  have B1 := Lib.hid h
  clear h
  go_wp2_with fail
  refine (CE.out w1 HT1.out).mono ?_
  rintro e w2 ⟨rfl, h⟩
  have HT2 := Lib.hid (HT1.out.bel h)
  have B2 := Lib.hid (B1.out.trans (h.mono B1.out.size))
  clear h HT1 B1
  go_wp2_with fail
  refine (CT.out w2 HT2.out).mono ?_
  rintro e w3 ⟨rfl, h⟩
  have HT3 := Lib.hid (HT2.out.bel h)
  have B3 := Lib.hid (B2.out.trans (h.mono B2.out.size))
  clear h HT2 B2
  go_wp2_with fail
  refine (CL.out w3 HT3.out).mono ?_
  rintro e w4 ⟨v4, c4, rfl, hs, h⟩
  have HT4 := Lib.hid (HT3.out.bel h)
  have B4 := Lib.hid (B3.out.trans (h.mono B3.out.size))
  obtain ⟨b, off, rfl, hbl, f2, f3⟩ := one_of_two hs
  clear h hs HT3 B3
  go_wp2_with fail
  refine (CD.out w4 HT4.out).mono ?_
  rintro e w5 ⟨rfl, h⟩
  have B5 := Lib.hid (B4.out.trans (h.mono B4.out.size))
  clear h
  obtain ⟨w6, hw6⟩ : ∃ w6, w5.alloc (.cells (Fr_.C F) 34) = w6 := ⟨_, rfl⟩
  have J6 := Lib.hid (show Fr_.Box w6 w5.heap.size F from hw6 ▸ Fr_.Box.newC w5 F)
  have B6 := Lib.hid (show Below w.heap.size w w6 from hw6 ▸ B5.out.alloc B5.out.size _)
  go_wp2
  have hl : ∀ (q : Of (fun w' => Below w6.heap.size w6 w')), (Fr_.LoadF ⟨w5.heap.size, 0, none⟩).run Tryd.prog q.w = .ok (Fr_.v F) q.w := fun q => (J6.out.below q.ok J6.out.lt).loadF
  have _ne : Nonempty (Of (fun w' => Below w6.heap.size w6 w')) := ⟨⟨_, Below.refl _ _⟩⟩
  refine wp_region_of (fun w' => Below w6.heap.size w6 w') (by kernel_rfl) (by kernel_rfl) (Below.refl w6.heap.size w6).drew ?_
  repeat (first
    | (go_big_quiet_step (first | (go_at_call 6; exact Calls.of_below (fun _ _ h hb => h.trans (hb.mono h.size)) (CF.out _))))
    | (quiet_step (first | (go_at_call 6; exact Calls.of_below (fun _ _ h hb => h.trans (hb.mono h.size)) (CF.out _)))))
  refine wpQuiet_nil ?_
  rintro _ ⟨q, rfl⟩
  clear hl
  go_wp2
  go_returns
  exact ⟨rfl, B6.out.trans (q.ok.mono B6.out.size)⟩
end Go.Proofs.YtacbhbejchjbiaaDoor
