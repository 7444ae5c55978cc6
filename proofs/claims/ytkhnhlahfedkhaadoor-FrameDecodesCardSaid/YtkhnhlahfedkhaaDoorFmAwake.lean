/-
  WHAT LIES IN THE VARIABLES, and THE WALK of the examples that every law of layer 12 ends with.
-/
import Derived.Test.YtkhnhlahfedkhaaDoorFmProg
import Derived.Test.YtkhnhlahfedkhaaDoorFrEq
import Derived.OpenShut
import Derived.ProofKit
import Derived.Lib.LaidTab
import Derived.Stop.LaidErr
import Derived.MakeChecks
namespace Go.Proofs.YtkhnhlahfedkhaaDoor
open Go.ChangeShapes Go.WideShapes Go.RowKit Go.Hd Go.Wr Go.Ad Go.Ck Go.Fm
attribute [local go_sem ↓ high] Fr_.loadF Fr_.storeF Fr_.v_cells Fr_.v_match fr_guard fr_eql
attribute [local go_sem] Fr_.C0 Fr_.C1 Fr_.C2 Fr_.C3 Fr_.C4 Fr_.C5 Fr_.C6 Fr_.C7 Fr_.C8 Fr_.C9 Fr_.C10 Fr_.C11 Fr_.C12 Fr_.C13 Fr_.C14 Fr_.C15 Fr_.C16 Fr_.C17 Fr_.loadF_new Fr_.storeF_zero

/-- The tables lie in their variables. -/
structure FmTabs (w : World) : Prop where
  hd : HdTab w
  ck : CkTab w
  pw : PowTab w
theorem FmTabs.below {w w' : World} {B : Nat} (h : FmTabs w) (hb : Below B w w') (hB : w.heap.size ≤ B) : FmTabs w' := ⟨h.hd.below hb hB, h.ck.below hb hB, PowTab.below h.pw hb hB⟩

theorem g32 : Tryd.prog.globalNamed "airtime/checksum.steps32" = some 1 := by kernel_rfl
theorem g32Type : (Tryd.prog.globals[1]?).map (·.type) = some 110 := by kernel_rfl
theorem gPow : Tryd.prog.globalNamed "internal/strconv.uint64pow10" = some 2 := by kernel_rfl
theorem gPowType : (Tryd.prog.globals[2]?).map (·.type) = some 112 := by kernel_rfl
theorem tab_zs : ∀ i : Fin 16, ([0, 498536548, 997073096, 651767980, 1994146192, 1802195444, 1303535960, 1342533948, 3988292384, 4027552580, 3604390888, 3412177804, 2607071920, 2262029012, 2685067896, 3183342108] : List Int).getD i.val 0 = (tab i.val : Int) := by decide +kernel
theorem pow_zs : ([1, 10, 100, 1000, 10000, 100000, 1000000, 10000000, 100000000, 1000000000, 10000000000, 100000000000, 1000000000000, 10000000000000, 100000000000000, 1000000000000000, 10000000000000000, 100000000000000000, 1000000000000000000, 10000000000000000000] : List Int) = Lib.pow10Tab := by decide +kernel

abbrev LaidFacts (W : World) : Prop := FmTabs W
theorem laidFacts {W : World} (h : laidMetH Tryd.prog Rows.frameEncodesRow.laid W) : LaidFacts W := by
  rw [MakeChecks.laidMetH_plain _ _ _ (by kernel_rfl)] at h
  have h1 := laidMet.tail h
  have h2 := laidMet.tail h1
  have h3 := laidMet.tail h2
  have h4 := laidMet.tail h3
  have t := Lib.tabIs_of_head (k := .u32) (zs := [0, 498536548, 997073096, 651767980, 1994146192, 1802195444, 1303535960, 1342533948, 3988292384, 4027552580, 3604390888, 3412177804, 2607071920, 2262029012, 2685067896, 3183342108]) g32 g32Type Tryd.underlying110 Tryd.underlying37 (by kernel_rfl) (by kernel_rfl) h
  have p := Lib.tabIs_of_head (k := .u64) (zs := [1, 10, 100, 1000, 10000, 100000, 1000000, 10000000, 100000000, 1000000000, 10000000000, 100000000000, 1000000000000, 10000000000000, 100000000000000, 1000000000000000, 10000000000000000, 100000000000000000, 1000000000000000000, 10000000000000000000]) gPow gPowType Tryd.underlying112 Tryd.underlying22 (by kernel_rfl) (by kernel_rfl) h3
  rw [pow_zs] at p
  have c : ∀ i, i < 16 → W.cell? ⟨1, i, none⟩ = some (.int .u32 (tab i : Int)) := fun i hi => (t.cell g32 i hi).trans (congrArg (fun z => some (Value.int .u32 z)) (tab_zs ⟨i, hi⟩))
  exact ⟨tab_of_laid h4, ⟨c, World.block_lt_of_cell? _ _ (c 0 (by decide))⟩, p⟩

def awB : ByteArray := ⟨#[48, 49, 50, 51, 52, 53, 54, 55, 56, 57, 48, 49, 50, 51, 52, 53, 54, 55, 56, 57, 48, 49, 50, 51, 52, 53, 54, 55, 56, 57, 48, 49, 50, 51, 52, 53, 54, 55, 56, 57]⟩
def awF : Fr := ⟨18, true, false, false, false, false, false, 0, 0, 2199023255554, 2199023255553, 2199023255553, 17, 0, 2, 0, 0, awB⟩
def awK : Fr := ⟨14, false, false, false, false, false, false, 0, 5, 2199023255553, 0, 0, 0, 0, 0, 0, 0, ⟨#[]⟩⟩
def awT : ByteArray := ⟨#[100, 97, 116, 97, 32, 48, 50, 58, 48, 48, 58, 48, 48, 58, 48, 48, 58, 48, 48, 58, 48, 50, 32, 48, 50, 58, 48, 48, 58, 48, 48, 58, 48, 48, 58, 48, 48, 58, 48, 49, 32, 49, 55, 46, 48, 32, 50, 32, 52, 48, 32, 114, 101, 116, 114, 121]⟩
def awE : ByteArray := ⟨#[14, 0, 5, 0, 2, 0, 0, 0, 0, 1, 60, 199, 108, 143]⟩
theorem aw_chkF : chk awF = 0 := by decide +kernel
theorem aw_chkK : chk awK = 0 := by decide +kernel
theorem aw_fruF : FrU awF := ⟨by constructor <;> decide, by constructor <;> decide, by constructor <;> decide⟩
theorem aw_fruK : FrU awK := ⟨by constructor <;> decide, by constructor <;> decide, by constructor <;> decide⟩
theorem aw_lenF : flen awF = 71 := by decide +kernel
theorem aw_lenK : flen awK = 14 := by decide +kernel
theorem aw_enc : enc awK = awE := by decide +kernel
theorem dd_one {n : Nat} (h : n < 10) : dd (n : Int) = [UInt8.ofNat (48 + n)] := Lib.decDigits_one h
theorem dd_two {n : Nat} (h1 : ¬ n < 10) (h2 : n < 100) : dd (n : Int) = [UInt8.ofNat (48 + n / 10), UInt8.ofNat (48 + n % 10)] := Lib.decDigits_two h1 h2
theorem aw_text : Go.Fm.text awF = awT := by
  rw [show Go.Fm.text awF = Go.Fm.st (t2 awF ++ fl awF) from if_pos aw_chkF]
  have e : t2 awF = t1 awF ++ [32] ++ dd ((17 : Nat) : Int) ++ [46] ++ dd ((0 : Nat) : Int) ++ [32] ++ dd ((2 : Nat) : Int) ++ [32] ++ dd ((40 : Nat) : Int) := rfl
  rw [e, dd_two (n := 17) (by decide) (by decide), dd_one (n := 0) (by decide), dd_one (n := 2) (by decide), dd_two (n := 40) (by decide) (by decide)]
  decide +kernel
theorem aw_dec : dec awE = (awK, 0) := by rw [← aw_enc]; exact dec_enc aw_chkK
theorem aw_abc : dec ⟨#[97, 98, 99]⟩ = (Fr_.zf, 1) := rfl

set_option maxRecDepth 100000 in
set_option maxHeartbeats 8000000 in
theorem awake12_any (w : World) (ht : FmTabs w) :
    Calls Tryd.prog 7 #[] w fun e w' => e = .returned (.bool true) ∧ Below w.heap.size w w' := by
  have HT : Hid (∀ w', Below w.heap.size w w' → FmTabs w') := fun w' hb => ht.below hb (Nat.le_refl _)
  have HB : Hid (∀ w' w'', Below w.heap.size w w' → Below w'.heap.size w' w'' → Below w.heap.size w w'') := fun w' w'' h hb => h.trans (hb.mono h.size)
  have CE : Hid (∀ w', Below w.heap.size w w' → Calls Tryd.prog 8 #[Fr_.v awK] w' fun e w'' => e = .returned (.tuple #[.string awE, .int .i64 0]) ∧ Below w'.heap.size w' w'') := fun w' hb => by
    have := encode_any awK w' (HT.out w' hb).hd (HT.out w' hb).ck aw_fruK
    rw [aw_enc, aw_chkK] at this
    exact this
  have CD : Hid (∀ w', Below w.heap.size w w' → Calls Tryd.prog 14 #[.string awE] w' fun e w'' => e = .returned (.tuple #[Fr_.v awK, .int .i64 0]) ∧ Below w'.heap.size w' w'') := fun w' hb => by
    have := decode_any awE w' (HT.out w' hb).hd (HT.out w' hb).ck (by decide)
    rw [aw_dec] at this
    exact this
  have CA : Hid (∀ w', Below w.heap.size w w' → Calls Tryd.prog 14 #[.string ⟨#[97, 98, 99]⟩] w' fun e w'' => e = .returned (.tuple #[Fr_.v Fr_.zf, .int .i64 1]) ∧ Below w'.heap.size w' w'') := fun w' hb => by
    have := decode_any ⟨#[97, 98, 99]⟩ w' (HT.out w' hb).hd (HT.out w' hb).ck (by decide)
    rw [aw_abc] at this
    exact this
  have CT : Hid (∀ w', Below w.heap.size w w' → Calls Tryd.prog 12 #[Fr_.v awF] w' fun e w'' => e = .returned (.string awT) ∧ Below w'.heap.size w' w'') := fun w' hb => by
    have := ftext_any awF w' (HT.out w' hb).hd (HT.out w' hb).pw aw_fruF
    rw [aw_text] at this
    exact this
  have CF : Hid (∀ w', Below w.heap.size w w' → Calls Tryd.prog 10 #[Fr_.v awF] w' fun e w'' => e = .returned (.int .i64 71) ∧ Below w'.heap.size w' w'') := fun w' hb => by
    have := flength_any awF w' (HT.out w' hb).hd aw_fruF
    rw [aw_lenF] at this
    exact this
  have CK : Hid (∀ w', Below w.heap.size w w' → Calls Tryd.prog 10 #[Fr_.v awK] w' fun e w'' => e = .returned (.int .i64 14) ∧ Below w'.heap.size w' w'') := fun w' hb => by
    have := flength_any awK w' (HT.out w' hb).hd aw_fruK
    rw [aw_lenK] at this
    exact this
  have hE : (awE.size : Int) = 14 := by decide
  have hS : ∀ W, (Instr.slice 9 (.string awE) none (some (.int .i64 10)) none).run Tryd.prog W = .ok (.string ⟨#[14, 0, 5, 0, 2, 0, 0, 0, 0, 1]⟩) W := fun W => by
    have := sliceTo awE 10 (by decide) W
    rw [show awE.extract 0 10 = ⟨#[14, 0, 5, 0, 2, 0, 0, 0, 0, 1]⟩ by decide +kernel] at this
    exact this
  have hT : (awT.toList == ([100, 97, 116, 97, 32, 48, 50, 58, 48, 48, 58, 48, 48, 58, 48, 48, 58, 48, 48, 58, 48, 50, 32, 48, 50, 58, 48, 48, 58, 48, 48, 58, 48, 48, 58, 48, 48, 58, 48, 49, 32, 49, 55, 46, 48, 32, 50, 32, 52, 48, 32, 114, 101, 116, 114, 121] : List UInt8)) = true := by rw [ByteArray.toList_eq]; decide +kernel
  have vF : (.agg #[.int .i64 18, .bool true, .bool false, .bool false, .bool false, .bool false, .bool false, .int .i64 0, .int .i64 0, .int .u64 2199023255554, .int .u64 2199023255553, .int .u64 2199023255553, .int .i64 17, .int .i64 0, .int .i64 2, .int .i64 0, .int .i64 0, .string ⟨#[48, 49, 50, 51, 52, 53, 54, 55, 56, 57, 48, 49, 50, 51, 52, 53, 54, 55, 56, 57, 48, 49, 50, 51, 52, 53, 54, 55, 56, 57, 48, 49, 50, 51, 52, 53, 54, 55, 56, 57]⟩] : Value) = Fr_.v awF := rfl
  have vK : (.agg #[.int .i64 14, .bool false, .bool false, .bool false, .bool false, .bool false, .bool false, .int .i64 0, .int .i64 5, .int .u64 2199023255553, .int .u64 0, .int .u64 0, .int .i64 0, .int .i64 0, .int .i64 0, .int .i64 0, .int .i64 0, .string ⟨#[]⟩] : Value) = Fr_.v awK := rfl
  have B0 : Hid (Below w.heap.size w w) := Below.refl _ _
  clear ht
  generalize awE = E at *
  generalize awT = T at *
  generalize awF = F at *
  generalize awK = K at *
  obtain ⟨w1, hw1⟩ : ∃ w1, w.alloc (.cells (Fr_.C F) 25) = w1 := ⟨_, rfl⟩
  have F1 := Lib.hid (show Fr_.Box w1 w.heap.size F from hw1 ▸ Fr_.Box.newC w F)
  have B1 := Lib.hid (show Below w.heap.size w w1 from hw1 ▸ (Below.refl _ _).alloc (Nat.le_refl _) _)
  obtain ⟨w2, hw2⟩ : ∃ w2, w1.alloc (.cells (Fr_.C K) 25) = w2 := ⟨_, rfl⟩
  have F2 := Lib.hid (show Fr_.Box w2 w.heap.size F from hw2 ▸ F1.out.allocC _)
  have K2 := Lib.hid (show Fr_.Box w2 w1.heap.size K from hw2 ▸ Fr_.Box.newC w1 K)
  have B2 := Lib.hid (show Below w.heap.size w w2 from hw2 ▸ B1.out.alloc B1.out.size _)
  have l2 := K2.out.loadF
  clear F1 B0
  go_enter Tryd.func7, Tryd.ntmps7
  go_wp2_with (first
    | (go_at_call 8; refine (CE.out _ B2.out).mono ?_; rintro e w3 ⟨rfl, hb⟩; have B3 := Lib.hid (HB.out _ _ B2.out hb); have F3 := Lib.hid (F2.out.below hb F2.out.lt); have K3 := Lib.hid (K2.out.below hb K2.out.lt); clear hb l2)
    | (go_at_call 14; with_reducible refine (CD.out _ B3.out).mono ?_; rintro e w4 ⟨rfl, hb⟩; have B4 := Lib.hid (HB.out _ _ B3.out hb); have F4 := Lib.hid (F3.out.below hb F3.out.lt); have K4 := Lib.hid (K3.out.below hb K3.out.lt); clear hb
       obtain ⟨w5, hw5⟩ : ∃ w5, w4.alloc (.cells (Fr_.C K) 25) = w5 := ⟨_, rfl⟩
       have B5 := Lib.hid (show Below w.heap.size w w5 from hw5 ▸ B4.out.alloc B4.out.size _)
       have F5 := Lib.hid (show Fr_.Box w5 w.heap.size F from hw5 ▸ F4.out.allocC _)
       have K5 := Lib.hid (show Fr_.Box w5 w1.heap.size K from hw5 ▸ K4.out.allocC _)
       have J5 := Lib.hid (show Fr_.Box w5 w4.heap.size K from hw5 ▸ Fr_.Box.newC w4 K))
    | (go_at_call 14; with_reducible refine (CA.out _ B5.out).mono ?_; rintro e w6 ⟨rfl, hb⟩; have B6 := Lib.hid (HB.out _ _ B5.out hb); have F6 := Lib.hid (F5.out.below hb F5.out.lt); have K6 := Lib.hid (K5.out.below hb K5.out.lt); have J6 := Lib.hid (J5.out.below hb J5.out.lt); clear hb
       obtain ⟨w7, hw7⟩ : ∃ w7, w6.alloc (.cells (Fr_.C Fr_.zf) 25) = w7 := ⟨_, rfl⟩
       have B7 := Lib.hid (show Below w.heap.size w w7 from hw7 ▸ B6.out.alloc B6.out.size _)
       have F7 := Lib.hid (show Fr_.Box w7 w.heap.size F from hw7 ▸ F6.out.allocC _)
       have K7 := Lib.hid (show Fr_.Box w7 w1.heap.size K from hw7 ▸ K6.out.allocC _)
       have J7 := Lib.hid (show Fr_.Box w7 w4.heap.size K from hw7 ▸ J6.out.allocC _)
       have l7 := F7.out.loadF)
    | (go_at_call 12; refine (CT.out _ B7.out).mono ?_; rintro e w8 ⟨rfl, hb⟩; have B8 := Lib.hid (HB.out _ _ B7.out hb); have F8 := Lib.hid (F7.out.below hb F7.out.lt); have K8 := Lib.hid (K7.out.below hb K7.out.lt); have J8 := Lib.hid (J7.out.below hb J7.out.lt); clear hb l7; have l8 := K8.out.loadF)
    | (go_at_call 10; with_reducible refine (CK.out _ B8.out).mono ?_; rintro e w9 ⟨rfl, hb⟩; have B9 := Lib.hid (HB.out _ _ B8.out hb); have F9 := Lib.hid (F8.out.below hb F8.out.lt); have K9 := Lib.hid (K8.out.below hb K8.out.lt); have J9 := Lib.hid (J8.out.below hb J8.out.lt); clear hb l8; have l9 := F9.out.loadF)
    | (go_at_call 10; with_reducible refine (CF.out _ B9.out).mono ?_; rintro e w10 ⟨rfl, hb⟩; have B10 := Lib.hid (HB.out _ _ B9.out hb); have K10 := Lib.hid (K9.out.below hb K9.out.lt); have J10 := Lib.hid (J9.out.below hb J9.out.lt); clear hb l9; have l10 := K10.out.loadF; have m10 := J10.out.loadF))
  go_returns
  exact ⟨rfl, B10.out⟩
end Go.Proofs.YtkhnhlahfedkhaaDoor
