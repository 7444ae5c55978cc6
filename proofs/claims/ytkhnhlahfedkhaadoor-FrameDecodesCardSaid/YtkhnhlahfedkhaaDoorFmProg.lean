/-
  COMPLETE FRAMES (of no program): layer 12: the octets, the length and the text of a frame.
  WALKS of the landed package frame (900e12d): sender, flags, Text.
  WALKS of the landed package frame (900e12d): Length, Encode, Decode.
  WALKS of the landed package frame (900e12d): Decode.
  ROUND TRIPS of layer 12: what is encoded is decoded, and nothing else is; changed bits are found.
-/
import Derived.Test.YtkhnhlahfedkhaaDoorCkMath
import Derived.Test.YtkhnhlahfedkhaaDoorHdOct
import Derived.Test.YtkhnhlahfedkhaaDoorAdMath
import Derived.Lib.ItoaNum
import Derived.Lib.ItoaLen
import Derived.Test.YtkhnhlahfedkhaaDoorHdFlags
import Derived.Test.YtkhnhlahfedkhaaDoorHdProgCheck
import Derived.Test.YtkhnhlahfedkhaaDoorAdTxt
import Derived.Test.YtkhnhlahfedkhaaDoorShelf
import Derived.Lib.AppendIntMem
import Derived.Lib.LaidTab
import Derived.Test.YtkhnhlahfedkhaaDoorFmSum
import Derived.Test.YtkhnhlahfedkhaaDoorHdProgLen
import Derived.Test.YtkhnhlahfedkhaaDoorHdWrite
import Derived.Test.YtkhnhlahfedkhaaDoorHdRdMath
import Derived.Test.YtkhnhlahfedkhaaDoorFrRet
namespace Go.Fm
open Go.Hd Go.Wr Go.Ad Go.Ck

/-- A string out of octets. -/
def st (l : List UInt8) : ByteArray := ⟨l.toArray⟩
theorem st_size (l : List UInt8) : (st l).size = l.length := by simp [st, ByteArray.size]
theorem st_data (l : List UInt8) : (st l).data.toList = l := by simp [st]
theorem st_of (s : ByteArray) : st s.data.toList = s := by unfold st; simp
/-- The octets of a frame. -/
def body (f : Fr) : List UInt8 := oct f ++ f.bo.data.toList
def sealed (l : List UInt8) : List UInt8 := l ++ le (crc l) 4
def enc (f : Fr) : ByteArray := if chk f = 0 then st (sealed (body f)) else ⟨#[]⟩
def flen (f : Fr) : Int := if chk f = 0 then len f + f.bo.size + 4 else 0
/-- The text of a frame. -/
def wd (b : Bool) (l : List UInt8) : List UInt8 := if b then 32 :: l else []
def retryT : List UInt8 := [114, 101, 116, 114, 121]
def moreT : List UInt8 := [109, 111, 114, 101]
def powerT : List UInt8 := [112, 111, 119, 101, 114]
def storedT : List UInt8 := [115, 116, 111, 114, 101, 100]
def lastT : List UInt8 := [108, 97, 115, 116]
def fl (f : Fr) : List UInt8 := wd f.rt retryT ++ wd f.mo moreT ++ wd f.pw powerT ++ wd f.st storedT ++ wd f.la lastT
def frm (f : Fr) : List UInt8 := if f.fa = 0 then [45] else txt f.fa.toNat
def dd (n : Int) : List UInt8 := Lib.decDigits n.toNat
def t1 (f : Fr) : List UInt8 := (nm f.kd).data.toList ++ [32] ++ txt f.ta.toNat ++ [32] ++ frm f
def t2 (f : Fr) : List UInt8 := t1 f ++ [32] ++ dd f.sq ++ [46] ++ dd f.fg ++ [32] ++ dd f.ct ++ [32] ++ dd f.bo.size
def text (f : Fr) : ByteArray := if chk f = 0 then st (t2 f ++ fl f) else ⟨#[]⟩

theorem chk_of {f : Fr} (h : chk f = 0) : isK f.kd ∧ rngs f ∧ ¬ (bd f.kd ∧ 2048 < f.bo.size) ∧ ¬ bad f := by
  unfold chk at h
  by_cases h1 : isK f.kd
  · rw [if_neg (not_not_intro h1)] at h
    by_cases h2 : rngs f
    · rw [if_neg (not_not_intro h2)] at h
      by_cases h3 : bd f.kd ∧ 2048 < f.bo.size
      · rw [if_pos h3] at h; omega
      · rw [if_neg h3] at h
        by_cases h4 : bad f
        · rw [if_pos h4] at h; omega
        · exact ⟨h1, h2, h3, h4⟩
    · rw [if_pos h2] at h; omega
  · rw [if_pos h1] at h; omega
/-- A valid frame's body. -/
theorem bo_le {f : Fr} (h : chk f = 0) : f.bo.size ≤ 2048 := by
  obtain ⟨_, _, h3, h4⟩ := chk_of h
  by_cases hb : bd f.kd
  · exact Nat.le_of_not_lt fun hl => h3 ⟨hb, hl⟩
  · have : f.bo.size = 0 := Classical.byContradiction fun hn => h4 (.inl (.inr (.inr (.inr (.inr (.inl ⟨hb, hn⟩))))))
    omega
theorem body_len {f : Fr} (h : chk f = 0) : ((body f).length : Int) = len f + f.bo.size := by
  unfold body
  rw [List.length_append, Int.natCast_add, oct_len_is h]
  rfl
theorem sealed_len (l : List UInt8) : (sealed l).length = l.length + 4 := by unfold sealed; rw [List.length_append, le_len]
theorem dd_len {n : Int} (h : 0 ≤ n ∧ n < 1000000000) : (dd n).length ≤ 20 := by
  unfold dd; rw [Lib.decDigits_length]; exact Lib.nDigits_le20 _ (by omega)
theorem wd_len (b : Bool) (l : List UInt8) : (wd b l).length ≤ l.length + 1 := by unfold wd; split <;> simp
theorem txt_len (a : Nat) : (txt a).length = 17 := by unfold txt; rw [tx_len]
theorem frm_len (f : Fr) : (frm f).length ≤ 17 := by unfold frm; split <;> simp [txt_len]
theorem nm_len (k : Int) : (nm k).data.toList.length ≤ 20 := by
  by_cases h : isK k
  · rcases kinds h with rfl | rfl | rfl | rfl | rfl | rfl | rfl | rfl | rfl | rfl | rfl | rfl | rfl | rfl | rfl | rfl | rfl | rfl | rfl <;> decide
  · rw [nm_no h]; decide
/-- The numbers of a valid frame. -/
structure Nums (f : Fr) : Prop where
  ta : 0 ≤ f.ta ∧ f.ta < 281474976710656
  fa : 0 ≤ f.fa ∧ f.fa < 281474976710656
  sq : 0 ≤ f.sq ∧ f.sq < 1000000000
  fg : 0 ≤ f.fg ∧ f.fg < 1000000000
  ct : 0 ≤ f.ct ∧ f.ct < 1000000000
  bo : f.bo.size ≤ 2048
theorem nums_of {f : Fr} (h : chk f = 0) : Nums f := by
  obtain ⟨_, h2, _, h4⟩ := chk_of h
  obtain ⟨_, a2, a3, a4, a5, a6⟩ := h2
  have hu : ¬ unu f := fun hu => h4 (.inl hu)
  unfold unu at hu
  have u2 : pl f.kd ∨ (f.po = 0 ∧ f.ct = 0) := by
    by_cases hp : pl f.kd
    · exact .inl hp
    · refine .inr ⟨?_, ?_⟩ <;> exact Classical.byContradiction fun hn => hu (.inr (.inl ⟨hp, by first | exact .inl hn | exact .inr hn⟩))
  have u3 : fro f.kd ∨ f.fa = 0 := by
    by_cases hp : fro f.kd
    · exact .inl hp
    · exact .inr (Classical.byContradiction fun hn => hu (.inr (.inr (.inl ⟨hp, hn⟩))))
  have u4 : nb f.kd ∨ f.sq = 0 := by
    by_cases hp : nb f.kd
    · exact .inl hp
    · exact .inr (Classical.byContradiction fun hn => hu (.inr (.inr (.inr (.inl ⟨hp, .inr hn⟩)))))
  have u6 : f.kd = 18 ∨ f.fg = 0 := by
    by_cases hp : f.kd = 18
    · exact .inl hp
    · exact .inr (Classical.byContradiction fun hn => hu (.inr (.inr (.inr (.inr (.inr ⟨hp, .inl hn⟩))))))
  refine ⟨⟨by have := a2.1; omega, a2.2⟩, ?_, ?_, ?_, ?_, bo_le h⟩
  · rcases u3 with hp | e
    · have := (a3 hp).1; unfold vad at this; omega
    · omega
  · rcases u4 with hp | e
    · have := (a4 hp).2.2; unfold rng at this; omega
    · omega
  · rcases u6 with hp | e
    · have := (a6 hp).1; unfold rng at this; omega
    · omega
  · rcases u2 with hp | e
    · have := (a5 hp).2; unfold rng at this; omega
    · omega
/-- The pieces of a text, and the text up to a piece. -/
def piece (f : Fr) : Nat → List UInt8
  | 2 => txt f.ta.toNat
  | 4 => frm f
  | 6 => dd f.sq
  | 7 => [46]
  | 8 => dd f.fg
  | 10 => dd f.ct
  | 12 => dd f.bo.size
  | _ => [32]
def lp (f : Fr) : Nat → List UInt8
  | 0 => (nm f.kd).data.toList
  | k + 1 => lp f k ++ piece f (k + 1)
theorem lp_t1 (f : Fr) : lp f 4 = t1 f := rfl
theorem lp_t2 (f : Fr) : lp f 12 = t2 f := rfl
theorem piece_len {f : Fr} (h : Nums f) (k : Nat) : (piece f k).length ≤ 20 := by
  unfold piece
  split
  · rw [txt_len]; decide
  · have := frm_len f; omega
  · exact dd_len h.sq
  · decide
  · exact dd_len h.fg
  · exact dd_len h.ct
  · exact dd_len ⟨by omega, by have := h.bo; omega⟩
  · decide
theorem lp_len {f : Fr} (h : Nums f) (k : Nat) : (lp f k).length ≤ 20 + 20 * k := by
  induction k with
  | zero => exact nm_len f.kd
  | succ k ih => unfold lp; rw [List.length_append]; have := piece_len h (k + 1); omega
/-- Frames in which the check reads the same but for the body. -/
theorem oct_bo (f : Fr) (b : ByteArray) : oct { f with bo := b } = oct f := rfl
end Go.Fm

namespace Go.Proofs.YtkhnhlahfedkhaaDoor
open Go.RowKit Go.Hd Go.Wr Go.Ad Go.Fm
attribute [local go_sem ↓ high] Fr_.loadF Fr_.storeF Fr_.v_cells Fr_.v_match
attribute [local go_sem] Fr_.C0 Fr_.C1 Fr_.C2 Fr_.C3 Fr_.C4 Fr_.C5 Fr_.C6 Fr_.C7 Fr_.C8 Fr_.C9 Fr_.C10 Fr_.C11 Fr_.C12 Fr_.C13 Fr_.C14 Fr_.C15 Fr_.C16 Fr_.C17 Fr_.loadF_new

/-- The library's table of powers lies in its variable. -/
def PowTab (w : World) : Prop := Lib.TabIs Tryd.prog w "internal/strconv.uint64pow10" .u64 Lib.pow10Tab
theorem PowTab.below {w w' : World} {B : Nat} (h : PowTab w) (hb : Below B w w') (hB : w.heap.size ≤ B) : PowTab w' := Lib.tabBelow_of_tabIs h w' (hb.mono hB)

theorem itoa_any (n : Int) (h : 0 ≤ n ∧ n < 1000000000) (w : World) (ht : PowTab w) :
    Calls Tryd.prog 30 #[.int .i64 n] w fun e w' => e = .returned (.string (Go.Fm.st (dd n))) ∧ Below w.heap.size w w' := by
  refine (Tryd.strconv_Itoa n (by omega) (by omega) w ht).mono ?_
  rintro e w' ⟨rfl, k, os, rfl⟩
  refine ⟨?_, Lib.below_grow _ _ (Nat.le_refl _) k os⟩
  unfold Lib.itoa
  rw [if_neg (by omega)]
  rfl

theorem st_add (s t u : List UInt8) (h : s.length + t.length ≤ 1000000) (e : s ++ t = u) (W : World) : (Op.stringOp .add (Go.Fm.st s) (Go.Fm.st t)).run Tryd.prog W = .ok (.string (Go.Fm.st u)) W := by
  subst e
  have : (Go.Fm.st s ++ Go.Fm.st t : ByteArray) = Go.Fm.st (s ++ t) := by unfold Go.Fm.st; apply ByteArray.ext; simp
  rw [← this]
  exact run_string_add_sum (P := Tryd.prog) W _ _ (by rw [st_size, st_size]; omega)

set_option maxRecDepth 100000 in
set_option maxHeartbeats 1000000 in
theorem sender_any (f : Fr) (hn : Nums f) (w : World) :
    Calls Tryd.prog 29 #[Fr_.v f] w fun e w' => e = .returned (.string (Go.Fm.st (frm f))) ∧ Below w.heap.size w w' := by
  have S1 := Lib.hid (Stf.new w f)
  have e1 := S1.out.box.all
  by_cases h : f.fa = 0
  · have hb : (f.fa == 0) = true := by rw [h]; rfl
    have HF : Hid (Go.Fm.st (frm f) = ⟨#[45]⟩) := by unfold Hid frm; rw [if_pos h]; rfl
    clear hn h
    go_enter Tryd.func29, Tryd.ntmps29
    go_wp2
    go_returns
    exact ⟨by rw [HF.out]; rfl, S1.out.bel⟩
  · have hb : (f.fa == 0) = false := by rw [beq_eq_false_iff_ne]; exact h
    have CT : Hid (∀ w, Calls Tryd.prog 28 #[.int .u64 f.fa] w fun e w' => e = .returned (.string (Go.Fm.st (frm f))) ∧ Below w.heap.size w w') := fun w => by
      have := text5_any f.fa.toNat w (by have := hn.fa; omega)
      rw [Int.toNat_of_nonneg hn.fa.1] at this
      rw [show frm f = txt f.fa.toNat from if_neg h]
      exact this
    clear hn h
    go_enter Tryd.func29, Tryd.ntmps29
    go_wp2_with (go_at_call 28; refine (CT.out _).mono ?_; rintro e w2 ⟨rfl, hb2⟩; have B2 := Lib.hid (S1.out.bel.trans (hb2.mono S1.out.bel.size)); clear hb2)
    go_returns
    exact ⟨rfl, B2.out⟩

/-- The flags' names, up to the k-th. -/
def flk (f : Fr) : Nat → List UInt8
  | 0 => []
  | 1 => wd f.rt retryT
  | 2 => wd f.rt retryT ++ wd f.mo moreT
  | 3 => wd f.rt retryT ++ wd f.mo moreT ++ wd f.pw powerT
  | 4 => wd f.rt retryT ++ wd f.mo moreT ++ wd f.pw powerT ++ wd f.st storedT
  | _ => fl f
theorem flk_len (f : Fr) (k : Nat) : (flk f k).length ≤ 31 := by
  have h1 := wd_len f.rt retryT
  have h2 := wd_len f.mo moreT
  have h3 := wd_len f.pw powerT
  have h4 := wd_len f.st storedT
  have h5 := wd_len f.la lastT
  simp only [retryT, moreT, powerT, storedT, lastT, List.length_cons, List.length_nil] at h1 h2 h3 h4 h5
  unfold flk fl
  split <;> simp only [List.length_append, List.length_nil, retryT, moreT, powerT, storedT, lastT] <;> omega

set_option linter.unusedSimpArgs false in
/-- An array of five pairs, read at a place. -/
theorem five_at (k : Nat) (hk : k < 5) (b0 b1 b2 b3 b4 : Bool) (s0 s1 s2 s3 s4 : ByteArray) (W : World) :
    (Instr.index 84 (.agg #[.bool b0, .string s0, .bool b1, .string s1, .bool b2, .string s2, .bool b3, .string s3, .bool b4, .string s4]) (.int .i64 (k : Int))).run Tryd.prog W =
      .ok (.agg #[.bool ([b0, b1, b2, b3, b4].getD k false), .string ([s0, s1, s2, s3, s4].getD k ⟨#[]⟩)]) W := by
  have hs : (sizeOf (Tryd.prog.elem 84)).run Tryd.prog W = .ok 2 W := by kernel_rfl
  rcases (show k = 0 ∨ k = 1 ∨ k = 2 ∨ k = 3 ∨ k = 4 by omega) with rfl | rfl | rfl | rfl | rfl
  all_goals
    simp [Instr.index, run_underlying Tryd.underlying84, asIntOf, go_sem, hs]

/-- One flag more. -/
theorem flag_step (f : Fr) (k : Nat) (hk : k < 5) : ∃ (b : Bool) (t u : ByteArray),
    (∀ W, (Instr.index 84 (.agg #[.bool f.rt, .string ⟨#[114, 101, 116, 114, 121]⟩, .bool f.mo, .string ⟨#[109, 111, 114, 101]⟩, .bool f.pw, .string ⟨#[112, 111, 119, 101, 114]⟩, .bool f.st, .string ⟨#[115, 116, 111, 114, 101, 100]⟩, .bool f.la, .string ⟨#[108, 97, 115, 116]⟩]) (.int .i64 (k : Int))).run Tryd.prog W = .ok (.agg #[.bool b, .string t]) W) ∧
    (∀ W, (Op.stringOp .add ⟨#[32]⟩ t).run Tryd.prog W = .ok (.string u) W) ∧
    (b = true → ∀ W, (Op.stringOp .add (Go.Fm.st (flk f k)) u).run Tryd.prog W = .ok (.string (Go.Fm.st (flk f (k + 1)))) W) ∧
    (b = false → flk f (k + 1) = flk f k) := by
  have hl := flk_len f
  rcases (show k = 0 ∨ k = 1 ∨ k = 2 ∨ k = 3 ∨ k = 4 by omega) with rfl | rfl | rfl | rfl | rfl
  · exact ⟨f.rt, _, Go.Fm.st (32 :: retryT), fun W => five_at 0 (by decide) _ _ _ _ _ _ _ _ _ _ W, st_add [32] retryT _ (by decide) rfl, fun h W => st_add _ _ _ (by have := hl 0; simp only [retryT, List.length_cons, List.length_nil]; omega) (by show _ = flk f 0 ++ wd f.rt retryT; rw [h]; rfl) W, fun h => by show flk f 0 ++ wd f.rt retryT = _; rw [h]; exact List.append_nil _⟩
  · exact ⟨f.mo, _, Go.Fm.st (32 :: moreT), fun W => five_at 1 (by decide) _ _ _ _ _ _ _ _ _ _ W, st_add [32] moreT _ (by decide) rfl, fun h W => st_add _ _ _ (by have := hl 1; simp only [moreT, List.length_cons, List.length_nil]; omega) (by show _ = flk f 1 ++ wd f.mo moreT; rw [h]; rfl) W, fun h => by show flk f 1 ++ wd f.mo moreT = _; rw [h]; exact List.append_nil _⟩
  · exact ⟨f.pw, _, Go.Fm.st (32 :: powerT), fun W => five_at 2 (by decide) _ _ _ _ _ _ _ _ _ _ W, st_add [32] powerT _ (by decide) rfl, fun h W => st_add _ _ _ (by have := hl 2; simp only [powerT, List.length_cons, List.length_nil]; omega) (by show _ = flk f 2 ++ wd f.pw powerT; rw [h]; rfl) W, fun h => by show flk f 2 ++ wd f.pw powerT = _; rw [h]; exact List.append_nil _⟩
  · exact ⟨f.st, _, Go.Fm.st (32 :: storedT), fun W => five_at 3 (by decide) _ _ _ _ _ _ _ _ _ _ W, st_add [32] storedT _ (by decide) rfl, fun h W => st_add _ _ _ (by have := hl 3; simp only [storedT, List.length_cons, List.length_nil]; omega) (by show _ = flk f 3 ++ wd f.st storedT; rw [h]; rfl) W, fun h => by show flk f 3 ++ wd f.st storedT = _; rw [h]; exact List.append_nil _⟩
  · exact ⟨f.la, _, Go.Fm.st (32 :: lastT), fun W => five_at 4 (by decide) _ _ _ _ _ _ _ _ _ _ W, st_add [32] lastT _ (by decide) rfl, fun h W => st_add _ _ _ (by have := hl 4; simp only [lastT, List.length_cons, List.length_nil]; omega) (by show _ = flk f 4 ++ wd f.la lastT; rw [h]; rfl) W, fun h => by show flk f 4 ++ wd f.la lastT = _; rw [h]; exact List.append_nil _⟩

set_option maxRecDepth 100000 in
set_option maxHeartbeats 8000000 in
theorem fflags_any (f : Fr) (w : World) :
    Calls Tryd.prog 31 #[Fr_.v f] w fun e w' => e = .returned (.string (Go.Fm.st (fl f))) ∧ Below w.heap.size w w' := by
  have S1 := Lib.hid (Stf.new w f)
  have e1 := S1.out.box.all
  have HS := Lib.hid (flag_step f)
  have HE : Hid (flk f 5 = fl f) := rfl
  have H0 : Hid (Go.Fm.st (flk f 0) = ⟨#[]⟩) := rfl
  generalize flk f = F at *
  go_enter Tryd.func31, Tryd.ntmps31
  go_wp2
  go_loopw [3, 22] (fun x i wr => ∃ k : Nat, k ≤ 5 ∧ i = .int .i64 k ∧ x = .string (Go.Fm.st (F k)) ∧ Below w.heap.size w wr) (fun _ i _ => 5 - (intOf i).toNat)
  case atStart => exact ⟨0, by omega, rfl, by rw [H0.out], S1.out.bel⟩
  case round =>
    obtain ⟨k, hk, rfl, rfl, hb⟩ := hrel
    have HB := Lib.hid hb
    clear hb S1 e1
    by_cases hlt : k < 5
    · obtain ⟨b, t, u, hix, ha, hT, hF⟩ := HS.out k hlt
      clear HS HE H0
      cases b
      · have HF := Lib.hid (hF rfl)
        clear hT hF
        go_wp2
        go_roundw
        case rel => exact ⟨k + 1, by omega, by go_num, by rw [HF.out], HB.out.alloc HB.out.size _⟩
        case measure => simp [intOf]; omega
      · have ha2 := hT rfl
        clear hT hF
        go_wp2
        go_roundw
        case rel => exact ⟨k + 1, by omega, by go_num, rfl, HB.out.alloc HB.out.size _⟩
        case measure => simp [intOf]; omega
    · obtain rfl : k = 5 := by omega
      go_wp2
      go_returns
      exact ⟨by rw [HE.out]; rfl, HB.out⟩

theorem fl_len (f : Fr) : (fl f).length ≤ 31 := flk_len f 5
/-- The text put together, piece by piece. -/
structure Adds (f : Fr) (p : Nat → ByteArray) : Prop where
  a1 : ∀ W, (Op.stringOp .add (nm f.kd) ⟨#[32]⟩).run Tryd.prog W = .ok (.string (p 1)) W
  a2 : ∀ W, (Op.stringOp .add (p 1) (Go.Fm.st (txt f.ta.toNat))).run Tryd.prog W = .ok (.string (p 2)) W
  a3 : ∀ W, (Op.stringOp .add (p 2) ⟨#[32]⟩).run Tryd.prog W = .ok (.string (p 3)) W
  a4 : ∀ W, (Op.stringOp .add (p 3) (Go.Fm.st (frm f))).run Tryd.prog W = .ok (.string (p 4)) W
  a5 : ∀ W, (Op.stringOp .add (p 4) ⟨#[32]⟩).run Tryd.prog W = .ok (.string (p 5)) W
  a6 : ∀ W, (Op.stringOp .add (p 5) (Go.Fm.st (dd f.sq))).run Tryd.prog W = .ok (.string (p 6)) W
  a7 : ∀ W, (Op.stringOp .add (p 6) ⟨#[46]⟩).run Tryd.prog W = .ok (.string (p 7)) W
  a8 : ∀ W, (Op.stringOp .add (p 7) (Go.Fm.st (dd f.fg))).run Tryd.prog W = .ok (.string (p 8)) W
  a9 : ∀ W, (Op.stringOp .add (p 8) ⟨#[32]⟩).run Tryd.prog W = .ok (.string (p 9)) W
  a10 : ∀ W, (Op.stringOp .add (p 9) (Go.Fm.st (dd f.ct))).run Tryd.prog W = .ok (.string (p 10)) W
  a11 : ∀ W, (Op.stringOp .add (p 10) ⟨#[32]⟩).run Tryd.prog W = .ok (.string (p 11)) W
  a12 : ∀ W, (Op.stringOp .add (p 11) (Go.Fm.st (dd f.bo.size))).run Tryd.prog W = .ok (.string (p 12)) W
  last : p 12 = Go.Fm.st (t2 f)
  len : (t2 f).length ≤ 260
theorem adds_of {f : Fr} (h : Nums f) : Adds f (fun k => Go.Fm.st (lp f k)) := by
  have hk := lp_len h
  have hp := piece_len h
  have S : ∀ k, k ≤ 12 → ∀ W, (Op.stringOp .add (Go.Fm.st (lp f k)) (Go.Fm.st (piece f (k + 1)))).run Tryd.prog W = .ok (.string (Go.Fm.st (lp f (k + 1)))) W := fun k hk' W => st_add _ _ _ (by have := hk k; have := hp (k + 1); omega) rfl W
  have S0 := S 0 (by decide)
  rw [show Go.Fm.st (lp f 0) = nm f.kd from st_of _] at S0
  exact ⟨S0, S 1 (by decide), S 2 (by decide), S 3 (by decide), S 4 (by decide), S 5 (by decide), S 6 (by decide), S 7 (by decide), S 8 (by decide), S 9 (by decide), S 10 (by decide), S 11 (by decide), rfl, by have := hk 12; rw [lp_t2] at this; omega⟩

set_option maxRecDepth 100000 in
set_option maxHeartbeats 8000000 in
theorem ftext_any (f : Fr) (w : World) (ht : HdTab w) (hp : PowTab w) (hu : FrU f) :
    Calls Tryd.prog 12 #[Fr_.v f] w fun e w' => e = .returned (.string (Go.Fm.text f)) ∧ Below w.heap.size w w' := by
  have CC := Lib.hid (fun w' (hb : Below w.heap.size w w') => progCheck_any f w' (HdTab.below ht hb (Nat.le_refl _)) hu)
  have S1 := Lib.hid (Stf.new w f)
  have e1 := S1.out.box.loadF
  by_cases h0 : chk f = 0
  · have hn := nums_of h0
    rw [show Go.Fm.text f = Go.Fm.st (t2 f ++ fl f) from if_pos h0]
    rw [h0] at CC
    have CN : Hid (∀ w', Below w.heap.size w w' → Calls Tryd.prog 27 #[.int .i64 f.kd] w' fun e w'' => e = .returned (.string (nm f.kd)) ∧ Below w'.heap.size w' w'') := fun w' hb => name_any f.kd w' (HdTab.below ht hb (Nat.le_refl _))
    have CT : Hid (∀ w, Calls Tryd.prog 28 #[.int .u64 f.ta] w fun e w' => e = .returned (.string (Go.Fm.st (txt f.ta.toNat))) ∧ Below w.heap.size w w') := fun w => by
      have := text5_any f.ta.toNat w (by have := hn.ta; omega)
      rw [Int.toNat_of_nonneg hn.ta.1] at this
      exact this
    have CS := Lib.hid (sender_any f hn)
    have I1 : Hid (∀ w', Below w.heap.size w w' → Calls Tryd.prog 30 #[.int .i64 f.sq] w' fun e w'' => e = .returned (.string (Go.Fm.st (dd f.sq))) ∧ Below w'.heap.size w' w'') := fun w' hb => itoa_any _ hn.sq w' (PowTab.below hp hb (Nat.le_refl _))
    have I2 : Hid (∀ w', Below w.heap.size w w' → Calls Tryd.prog 30 #[.int .i64 f.fg] w' fun e w'' => e = .returned (.string (Go.Fm.st (dd f.fg))) ∧ Below w'.heap.size w' w'') := fun w' hb => itoa_any _ hn.fg w' (PowTab.below hp hb (Nat.le_refl _))
    have I3 : Hid (∀ w', Below w.heap.size w w' → Calls Tryd.prog 30 #[.int .i64 f.ct] w' fun e w'' => e = .returned (.string (Go.Fm.st (dd f.ct))) ∧ Below w'.heap.size w' w'') := fun w' hb => itoa_any _ hn.ct w' (PowTab.below hp hb (Nat.le_refl _))
    have I4 : Hid (∀ w', Below w.heap.size w w' → Calls Tryd.prog 30 #[.int .i64 (f.bo.size : Int)] w' fun e w'' => e = .returned (.string (Go.Fm.st (dd f.bo.size))) ∧ Below w'.heap.size w' w'') := fun w' hb => itoa_any _ ⟨by omega, by have := hn.bo; omega⟩ w' (PowTab.below hp hb (Nat.le_refl _))
    have CF := Lib.hid (fflags_any f)
    obtain ⟨a1, a2, a3, a4, a5, a6, a7, a8, a9, a10, a11, a12, hl, hlen⟩ := adds_of hn
    have a13 : ∀ W, (Op.stringOp .add (Go.Fm.st (lp f 12)) (Go.Fm.st (fl f))).run Tryd.prog W = .ok (.string (Go.Fm.st (t2 f ++ fl f))) W := st_add _ _ _ (by rw [lp_t2]; have := fl_len f; omega) rfl
    clear hl hlen
    generalize Go.Fm.st (t2 f ++ fl f) = z at *
    generalize Go.Fm.st (fl f) = zf at *
    generalize nm f.kd = s1 at *
    generalize Go.Fm.st (txt f.ta.toNat) = s2 at *
    generalize Go.Fm.st (frm f) = s3 at *
    generalize Go.Fm.st (dd f.sq) = s4 at *
    generalize Go.Fm.st (dd f.fg) = s5 at *
    generalize Go.Fm.st (dd f.ct) = s6 at *
    generalize Go.Fm.st (dd f.bo.size) = s7 at *
    clear h0 ht hp hu hn
    go_enter Tryd.func12, Tryd.ntmps12
    go_wp2_with (go_at_call 17; refine (CC.out _ S1.out.bel).mono ?_; rintro e w2 ⟨rfl, hb⟩; have S2 := Lib.hid (Stf.keep _ _ S1.out hb); clear hb e1)
    have hc : ∀ (p : Of (Stf w w.heap.size f)) (j : Nat), p.w.cell? ⟨w.heap.size, j, none⟩ = (Fr_.C f)[j]? := fun p => p.ok.box.all
    have hlf : ∀ (p : Of (Stf w w.heap.size f)), (Fr_.LoadF ⟨w.heap.size, 0, none⟩).run Tryd.prog p.w = .ok (Fr_.v f) p.w := fun p => p.ok.box.loadF
    have _ne : Nonempty (Of (Stf w w.heap.size f)) := ⟨⟨_, S2.out⟩⟩
    refine wp_region_of (Stf w w.heap.size f) (by kernel_rfl) (by kernel_rfl) S2.out.drew ?_
    repeat (quiet_step (first
      | (go_at_call 27; exact Calls.of_below Stf.keep (CN.out _ (Stf.bel (Of.ok _))))
      | (go_at_call 28; exact Calls.of_below Stf.keep (CT.out _))
      | (go_at_call 29; exact Calls.of_below Stf.keep (CS.out _))
      | (go_at_call 30; with_reducible exact Calls.of_below Stf.keep (I1.out _ (Stf.bel (Of.ok _))))
      | (go_at_call 30; with_reducible exact Calls.of_below Stf.keep (I2.out _ (Stf.bel (Of.ok _))))
      | (go_at_call 30; with_reducible exact Calls.of_below Stf.keep (I3.out _ (Stf.bel (Of.ok _))))
      | (go_at_call 30; with_reducible exact Calls.of_below Stf.keep (I4.out _ (Stf.bel (Of.ok _))))
      | (go_at_call 31; exact Calls.of_below Stf.keep (CF.out _))))
    refine wpQuiet_nil ?_
    rintro _ ⟨p, rfl⟩
    go_wp2
    go_returns
    exact ⟨rfl, p.ok.bel⟩
  · rw [show Go.Fm.text f = ⟨#[]⟩ from if_neg h0]
    have hne : (chk f != 0) = true := by rw [bne_iff_ne]; exact h0
    generalize chk f = c at *
    clear ht hp hu h0
    go_enter Tryd.func12, Tryd.ntmps12
    go_wp2_with (go_at_call 17; refine (CC.out _ S1.out.bel).mono ?_; rintro e w2 ⟨rfl, hb⟩; have S2 := Lib.hid (Stf.keep _ _ S1.out hb); clear hb e1)
    go_returns
    exact ⟨rfl, S2.out.bel⟩
end Go.Proofs.YtkhnhlahfedkhaaDoor

namespace Go.Proofs.YtkhnhlahfedkhaaDoor
open Go.RowKit Go.Hd Go.Wr Go.Ad Go.Ck Go.Fm
attribute [local go_sem ↓ high] Fr_.loadF Fr_.storeF Fr_.v_cells Fr_.v_match
attribute [local go_sem] Fr_.C0 Fr_.C1 Fr_.C2 Fr_.C3 Fr_.C4 Fr_.C5 Fr_.C6 Fr_.C7 Fr_.C8 Fr_.C9 Fr_.C10 Fr_.C11 Fr_.C12 Fr_.C13 Fr_.C14 Fr_.C15 Fr_.C16 Fr_.C17 Fr_.storeF_zero

theorem Stf.but {w wi w' : World} {g b : Nat} {f : Fr} (h : Stf w g f wi) (hb : But b wi w') (hne : g ≠ b) (hle : w.heap.size ≤ b) : Stf w g f w' :=
  ⟨(hb.block _ h.box.lt hne).trans h.box, h.bel.trans (hb.below h.bel.size hle)⟩

set_option maxRecDepth 100000 in
set_option maxHeartbeats 4000000 in
theorem flength_any (f : Fr) (w : World) (ht : HdTab w) (hu : FrU f) :
    Calls Tryd.prog 10 #[Fr_.v f] w fun e w' => e = .returned (.int .i64 (flen f)) ∧ Below w.heap.size w w' := by
  have CC := Lib.hid (fun w' (hb : Below w.heap.size w w') => progCheck_any f w' (HdTab.below ht hb (Nat.le_refl _)) hu)
  have CL := Lib.hid (fun w' (hb : Below w.heap.size w w') => progLength_any f w' (HdTab.below ht hb (Nat.le_refl _)))
  have S1 := Lib.hid (Stf.new w f)
  have e1 := S1.out.box.loadF
  by_cases h0 : chk f = 0
  · have hb0 := bo_le h0
    have hl := oct_len_is h0
    have hl2 := oct_len f
    have w1 : RowKit.wrap64 (len f + f.bo.size) = len f + f.bo.size := IntWalk.wrap64_in _ (by omega)
    have w2 : RowKit.wrap64 (len f + f.bo.size + 4) = len f + f.bo.size + 4 := IntWalk.wrap64_in _ (by omega)
    have w3 : IntKind.i64.wrap (len f + f.bo.size) = len f + f.bo.size := IntWalk.i64_in _ (by omega)
    have w4 : IntKind.i64.wrap (len f + f.bo.size + 4) = len f + f.bo.size + 4 := IntWalk.i64_in _ (by omega)
    rw [show flen f = len f + f.bo.size + 4 from if_pos h0]
    rw [h0] at CC
    generalize len f = l at *
    clear ht hu h0 hl hl2 hb0
    go_enter Tryd.func10, Tryd.ntmps10
    go_wp2_with (go_at_call 17; refine (CC.out _ S1.out.bel).mono ?_; rintro e w2 ⟨rfl, hb⟩; have S2 := Lib.hid (Stf.keep _ _ S1.out hb); clear hb e1)
    have hc : ∀ (p : Of (Stf w w.heap.size f)) (j : Nat), p.w.cell? ⟨w.heap.size, j, none⟩ = (Fr_.C f)[j]? := fun p => p.ok.box.all
    have hlf : ∀ (p : Of (Stf w w.heap.size f)), (Fr_.LoadF ⟨w.heap.size, 0, none⟩).run Tryd.prog p.w = .ok (Fr_.v f) p.w := fun p => p.ok.box.loadF
    have _ne : Nonempty (Of (Stf w w.heap.size f)) := ⟨⟨_, S2.out⟩⟩
    refine wp_region_of (Stf w w.heap.size f) (by kernel_rfl) (by kernel_rfl) S2.out.drew ?_
    repeat (quiet_step (first | (go_at_call 25; exact Calls.of_below Stf.keep (CL.out _ (Stf.bel (Of.ok _))))))
    refine wpQuiet_nil ?_
    rintro _ ⟨p, rfl⟩
    go_wp2
    go_returns
    exact ⟨rfl, p.ok.bel⟩
  · rw [show flen f = 0 from if_neg h0]
    have hne : (chk f != 0) = true := by rw [bne_iff_ne]; exact h0
    generalize chk f = c at *
    clear ht hu h0 CL
    go_enter Tryd.func10, Tryd.ntmps10
    go_wp2_with (go_at_call 17; refine (CC.out _ S1.out.bel).mono ?_; rintro e w2 ⟨rfl, hb⟩; have S2 := Lib.hid (Stf.keep _ _ S1.out hb); clear hb e1)
    go_returns
    exact ⟨rfl, S2.out.bel⟩

set_option maxRecDepth 100000 in
set_option maxHeartbeats 4000000 in
theorem encode_any (f : Fr) (w : World) (ht : HdTab w) (hk : CkTab w) (hu : FrU f) :
    Calls Tryd.prog 8 #[Fr_.v f] w fun e w' => e = .returned (.tuple #[.string (enc f), .int .i64 (chk f)]) ∧ Below w.heap.size w w' := by
  have CC := Lib.hid (fun w' (hb : Below w.heap.size w w') => progCheck_any f w' (HdTab.below ht hb (Nat.le_refl _)) hu)
  have S1 := Lib.hid (Stf.new w f)
  have e1 := S1.out.box.loadF
  have HZ : Hid (w.heap.size < (w.alloc (.cells (Fr_.C f) 25)).heap.size) := by unfold Hid; simp
  by_cases h0 : chk f = 0
  · have hb0 := bo_le h0
    have hl2 := oct_len f
    have hok := okf_of h0
    rw [show enc f = Go.Fm.st (sealed (body f)) from if_pos h0]
    have hbs : f.bo.data.toList.length = f.bo.size := Array.length_toList
    rw [h0] at CC ⊢
    have CW : Hid (∀ w' b, Below w.heap.size w w' → Wr w' b [] → Calls Tryd.prog 18 #[.pointer (some ⟨b, 0, none⟩), Fr_.v f] w' fun e w'' => e = .returned (.tuple #[]) ∧ Wr w'' b (oct f) ∧ But b w' w'') := fun w' b hb h => progWrite_any f w' b [] (HdTab.below ht hb (Nat.le_refl _)) hok h (by decide)
    have CT : Hid (∀ w' b, Wr w' b (oct f) → Calls Tryd.prog 19 #[.pointer (some ⟨b, 0, none⟩), .string f.bo] w' fun e w'' => e = .returned (.tuple #[]) ∧ Wr w'' b (body f) ∧ But b w' w'') := fun w' b h => text_ok b (oct f) f.bo w' h (by omega)
    have CD : Hid (∀ w' b, Wr w' b (body f) → Calls Tryd.prog 20 #[.pointer (some ⟨b, 0, none⟩)] w' fun e w'' => e = .returned (.tuple #[.string (Go.Fm.st (body f)), .int .i64 0]) ∧ Below w'.heap.size w' w'') := fun w' b h => done_ok b (body f) w' h (by unfold body; rw [List.length_append]; omega)
    have CS : Hid (∀ w', Below w.heap.size w w' → Calls Tryd.prog 21 #[.string (Go.Fm.st (body f))] w' fun e w'' => e = .returned (.string (Go.Fm.st (sealed (body f)))) ∧ Below w'.heap.size w' w'') := fun w' hb => by
      have := seal_any (Go.Fm.st (body f)) w' (by rw [st_size]; unfold body; rw [List.length_append]; omega) (CkTab.below hk hb (Nat.le_refl _))
      rw [st_data] at this
      exact this
    generalize Go.Fm.st (sealed (body f)) = z at *
    generalize Go.Fm.st (body f) = y at *
    generalize body f = B at *
    generalize oct f = O at *
    clear ht hk hu h0 hl2 hb0 hok hbs
    go_enter Tryd.func8, Tryd.ntmps8
    go_wp2_with (first
      | (go_at_call 17; refine (CC.out _ S1.out.bel).mono ?_; rintro e w2 ⟨rfl, hb⟩; have S2 := Lib.hid (Stf.keep _ _ S1.out hb); have Z2 : Hid (w.heap.size < w2.heap.size) := Nat.lt_of_lt_of_le HZ.out hb.size; clear hb e1
         obtain ⟨w3, hw3⟩ : ∃ w3, w2.alloc (.cells #[.int .i64 0, .pointer none, .string ⟨#[]⟩] 45) = w3 := ⟨_, rfl⟩
         have S3 := Lib.hid (show Stf w w.heap.size f w3 from hw3 ▸ Stf.keep _ _ S2.out ((Below.refl _ _).alloc (Nat.le_refl _) _))
         have W3 := Lib.hid (show Wr w3 w2.heap.size [] from hw3 ▸ wr_new w2)
         have l3 := S3.out.box.loadF)
      | (go_at_call 18; refine (CW.out _ _ S3.out.bel W3.out).mono ?_; rintro e w4 ⟨rfl, h4, b4⟩; have W4 := Lib.hid h4; have S4 := Lib.hid (Stf.but S3.out b4 (Nat.ne_of_lt Z2.out) (Nat.le_of_lt Z2.out)); clear h4 b4 l3; have e4 := S4.out.box.all)
      | (go_at_call 19; refine (CT.out _ _ W4.out).mono ?_; rintro e w5 ⟨rfl, h5, b5⟩; have W5 := Lib.hid h5; have S5 := Lib.hid (Stf.but S4.out b5 (Nat.ne_of_lt Z2.out) (Nat.le_of_lt Z2.out)); clear h5 b5 e4)
      | (go_at_call 20; refine (CD.out _ _ W5.out).mono ?_; rintro e w6 ⟨rfl, hb⟩; have S6 := Lib.hid (Stf.keep _ _ S5.out hb); clear hb)
      | (go_at_call 21; refine (CS.out _ S6.out.bel).mono ?_; rintro e w7 ⟨rfl, hb⟩; have S7 := Lib.hid (Stf.keep _ _ S6.out hb); clear hb))
    go_returns
    exact ⟨rfl, S7.out.bel⟩
  · rw [show enc f = ⟨#[]⟩ from if_neg h0]
    have hne : (chk f != 0) = true := by rw [bne_iff_ne]; exact h0
    generalize chk f = c at *
    clear ht hk hu h0
    go_enter Tryd.func8, Tryd.ntmps8
    go_wp2_with (go_at_call 17; refine (CC.out _ S1.out.bel).mono ?_; rintro e w2 ⟨rfl, hb⟩; have S2 := Lib.hid (Stf.keep _ _ S1.out hb); clear hb e1)
    go_returns
    exact ⟨rfl, S2.out.bel⟩
end Go.Proofs.YtkhnhlahfedkhaaDoor

namespace Go.Proofs.YtkhnhlahfedkhaaDoor
open Go.RowKit Go.Hd Go.Wr Go.Ad Go.Ck Go.Fm
attribute [local go_sem ↓ high] Fr_.loadF Fr_.storeF Fr_.v_cells Fr_.v_match
attribute [local go_sem] Fr_.C0 Fr_.C1 Fr_.C2 Fr_.C3 Fr_.C4 Fr_.C5 Fr_.C6 Fr_.C7 Fr_.C8 Fr_.C9 Fr_.C10 Fr_.C11 Fr_.C12 Fr_.C13 Fr_.C14 Fr_.C15 Fr_.C16 Fr_.C17 Fr_.storeF_zero

/-- What opening a string gives. -/
def opn (s : ByteArray) : ByteArray × Int :=
  if s.size < 4 then (⟨#[]⟩, 1)
  else if ((s.extract (s.size - 4) s.size).toList == (⟨(le (crc (s.extract 0 (s.size - 4)).data.toList) 4).toArray⟩ : ByteArray).toList) = true then (s.extract 0 (s.size - 4), 0) else (⟨#[]⟩, 5)
theorem open_any (s : ByteArray) (w : World) (hs : s.size ≤ 140737488351232) (ht : CkTab w) :
    Calls Tryd.prog 36 #[.string s] w fun e w' => e = .returned (.tuple #[.string (opn s).1, .int .i64 (opn s).2]) ∧ Below w.heap.size w w' := by
  unfold opn
  by_cases h4 : s.size < 4
  · rw [if_pos h4]; exact open_short s w h4
  · rw [if_neg h4]
    have := open_long s (s.size - 4) _ w ht (by omega) hs rfl
    refine this.mono ?_
    rintro e w' ⟨rfl, hb⟩
    refine ⟨?_, hb⟩
    split <;> rfl
/-- A frame's end: its body, and the check. -/
def fin (y : Fr) (R : List UInt8) : Fr × Int :=
  if 2048 < R.length then (Fr_.zf, 2) else if chk { y with bo := bz R } = 0 then ({ y with bo := bz R }, 0) else (Fr_.zf, chk { y with bo := bz R })
def dec1 (l : List UInt8) : Fr × Int := if (rdP (0, l)).2.1 = 0 then fin (rdP (0, l)).1 (rdP (0, l)).2.2 else (Fr_.zf, (rdP (0, l)).2.1)
def dec (s : ByteArray) : Fr × Int := if (opn s).2 = 0 then dec1 (opn s).1.data.toList else (Fr_.zf, (opn s).2)

theorem rest_tot (b : Nat) (l : List UInt8) (w : World) (h : Rs w b (0, l)) :
    Calls Tryd.prog 41 #[.pointer (some ⟨b, 0, none⟩)] w fun e w' => e = .returned (.string (bz l)) ∧ But b w w' :=
  (rest_ok b (bz l) w h).mono fun _ _ q => ⟨q.1, q.2 ▸ But.set1 _ _ _ _⟩

/-- The result's cell holds the zero frame, the Reader lies in its block, behind it the frame that is read. -/
structure Dst (wb : World) (b : Nat) (σ : Sg) (wi : World) : Prop where
  st : Gst wb wb.heap.size wi
  rd : Rs wi b σ
  lt : wb.heap.size < b
theorem Dst.keep {wb wi w' : World} {b : Nat} {σ : Sg} (h : Dst wb b σ wi) (hb : Below wi.heap.size wi w') : Dst wb b σ w' := ⟨h.st.keep hb, h.rd.blk (hb.block _ h.rd.lt), h.lt⟩
theorem Dst.call {wb wi w' : World} {b : Nat} {σ τ : Sg} (h : Dst wb b σ wi) (h1 : Rs w' b τ) (h2 : But b wi w') : Dst wb b τ w' := ⟨h.st.but h2 (Nat.ne_of_lt h.lt) (Nat.le_of_lt h.lt), h1, h.lt⟩

theorem Gst.zero {wb wi : World} {r : Nat} (h : Gst wb r wi) : (Fr_.StoreF ⟨r, 0, none⟩ (.agg #[.int .i64 0, .bool false, .bool false, .bool false, .bool false, .bool false, .bool false, .int .i64 0, .int .i64 0, .int .u64 0, .int .u64 0, .int .u64 0, .int .i64 0, .int .i64 0, .int .i64 0, .int .i64 0, .int .i64 0, .string ⟨#[]⟩])).run Tryd.prog wi = .ok () (wi.setRow r (Fr_.C Fr_.zf)) := h.res.storeF Fr_.zf

section
variable (s : ByteArray) (w : World) (ht : HdTab w) (hk : CkTab w) (hs : s.size ≤ 140737488351232)
include ht hk hs
set_option linter.unusedSectionVars false in
set_option maxRecDepth 100000 in
set_option maxHeartbeats 4000000 in
theorem decode_shut (h : ¬ (opn s).2 = 0) :
    Calls Tryd.prog 14 #[.string s] w fun e w' => e = .returned (.tuple #[Fr_.v (dec s).1, .int .i64 (dec s).2]) ∧ Below w.heap.size w w' := by
  rw [show dec s = (Fr_.zf, (opn s).2) from if_neg h]
  obtain ⟨w1, hw1⟩ : ∃ w1, w.alloc (.cells #[.int .i64 0, .bool false, .bool false, .bool false, .bool false, .bool false, .bool false, .int .i64 0, .int .i64 0, .int .u64 0, .int .u64 0, .int .u64 0, .int .i64 0, .int .i64 0, .int .i64 0, .int .i64 0, .int .i64 0, .string ⟨#[]⟩] 25) = w1 := ⟨_, rfl⟩
  have G1 := Lib.hid (show Gst w w.heap.size w1 from hw1 ▸ Gst.new w)
  have CO := Lib.hid (open_any s w1 hs (CkTab.below hk G1.out.bel (Nat.le_refl _)))
  have hne : ((opn s).2 != 0) = true := by rw [bne_iff_ne]; exact h
  generalize (opn s).1 = t at *
  generalize (opn s).2 = c at *
  clear ht hk hs h
  go_enter Tryd.func14, Tryd.ntmps14
  go_wp2_with (first
    | (go_at_call 36; refine CO.out.mono ?_; rintro e w2 ⟨rfl, hb⟩; have G2 := Lib.hid (G1.out.keep hb); clear hb; have sf := G2.out.zero))
  exact ret_two Tryd.results14 rfl rfl (G2.out.res.setRow _) rfl ⟨rfl, G2.out.fin _⟩

set_option maxRecDepth 100000 in
set_option maxHeartbeats 4000000 in
theorem decode_bad (h : (opn s).2 = 0) (h2 : ¬ (rdP (0, (opn s).1.data.toList)).2.1 = 0) :
    Calls Tryd.prog 14 #[.string s] w fun e w' => e = .returned (.tuple #[Fr_.v (dec s).1, .int .i64 (dec s).2]) ∧ Below w.heap.size w w' := by
  rw [show dec s = (Fr_.zf, (rdP (0, (opn s).1.data.toList)).2.1) from (if_pos h).trans (if_neg h2)]
  obtain ⟨w1, hw1⟩ : ∃ w1, w.alloc (.cells #[.int .i64 0, .bool false, .bool false, .bool false, .bool false, .bool false, .bool false, .int .i64 0, .int .i64 0, .int .u64 0, .int .u64 0, .int .u64 0, .int .i64 0, .int .i64 0, .int .i64 0, .int .i64 0, .int .i64 0, .string ⟨#[]⟩] 25) = w1 := ⟨_, rfl⟩
  have G1 := Lib.hid (show Gst w w.heap.size w1 from hw1 ▸ Gst.new w)
  have HZ : Hid (w.heap.size < w1.heap.size) := by rw [← hw1]; unfold Hid; simp
  have CO := Lib.hid (open_any s w1 hs (CkTab.below hk G1.out.bel (Nat.le_refl _)))
  have D := Lib.hid (rdC (opn s).1.data.toList)
  have HT : Hid (∀ w', Below w.heap.size w w' → HdTab w') := fun w' hb => HdTab.below ht hb (Nat.le_refl _)
  have HK : Hid (0 < w.heap.size) := HdTab.lt ht
  have hy : (rdP (0, (opn s).1.data.toList)).1 = Fr_.zf := D.out.bad h2
  have hne : ((rdP (0, (opn s).1.data.toList)).2.1 != 0) = true := by rw [bne_iff_ne]; exact h2
  generalize rdP (0, (opn s).1.data.toList) = ρ at *
  obtain ⟨y, τ⟩ := ρ
  obtain rfl : y = Fr_.zf := hy
  simp only at D hne ⊢
  rw [h] at CO
  generalize (opn s).1 = t at *
  clear ht hk hs h h2
  go_enter Tryd.func14, Tryd.ntmps14
  go_wp2_with (first
    | (go_at_call 36; refine CO.out.mono ?_; rintro e w2 ⟨rfl, hb⟩; have G2 := Lib.hid (G1.out.keep hb); have Z2 : Hid (w.heap.size < w2.heap.size) := Nat.lt_of_lt_of_le HZ.out hb.size; clear hb
       obtain ⟨w3, hw3⟩ : ∃ w3, w2.alloc (.cells #[.int .i64 0, .string t] 88) = w3 := ⟨_, rfl⟩
       have D3 := Lib.hid (show Dst w w2.heap.size (0, t.data.toList) w3 from ⟨hw3 ▸ G2.out.keep ((Below.refl _ _).alloc (Nat.le_refl _) _), hw3 ▸ rs_new w2 t, Z2.out⟩))
    | (go_at_call 37; refine (new_any _ _).mono ?_; rintro e w1' ⟨rfl, rfl⟩)
    | (go_at_call 38; refine (D.out.rd _ _ (HT.out _ D3.out.st.bel) D3.out.rd (by have := HK.out; have := Z2.out; omega)).mono ?_; rintro e w4 ⟨rfl, h4, b4⟩; have D4 := Lib.hid (D3.out.call h4 b4); clear h4 b4
       obtain ⟨w5, hw5⟩ : ∃ w5, w4.alloc (.cells (Fr_.C Fr_.zf) 25) = w5 := ⟨_, rfl⟩
       have D5 := Lib.hid (show Dst w w2.heap.size τ w5 from hw5 ▸ D4.out.keep ((Below.refl _ _).alloc (Nat.le_refl _) _)))
    | (go_at_call 39; refine (err_tot _ τ _ D5.out.rd).mono ?_; rintro e w6 ⟨rfl, rfl⟩; have sf := D5.out.st.zero))
  exact ret_two Tryd.results14 rfl rfl (D5.out.st.res.setRow _) rfl ⟨rfl, D5.out.st.fin _⟩
set_option maxRecDepth 100000 in
set_option maxHeartbeats 8000000 in
theorem decode_rest (h : (opn s).2 = 0) (h2 : (rdP (0, (opn s).1.data.toList)).2.1 = 0) :
    Calls Tryd.prog 14 #[.string s] w fun e w' => e = .returned (.tuple #[Fr_.v (dec s).1, .int .i64 (dec s).2]) ∧ Below w.heap.size w w' := by
  rw [show dec s = fin (rdP (0, (opn s).1.data.toList)).1 (rdP (0, (opn s).1.data.toList)).2.2 from (if_pos h).trans (if_pos h2)]
  obtain ⟨w1, hw1⟩ : ∃ w1, w.alloc (.cells #[.int .i64 0, .bool false, .bool false, .bool false, .bool false, .bool false, .bool false, .int .i64 0, .int .i64 0, .int .u64 0, .int .u64 0, .int .u64 0, .int .i64 0, .int .i64 0, .int .i64 0, .int .i64 0, .int .i64 0, .string ⟨#[]⟩] 25) = w1 := ⟨_, rfl⟩
  have G1 := Lib.hid (show Gst w w.heap.size w1 from hw1 ▸ Gst.new w)
  have HZ : Hid (w.heap.size < w1.heap.size) := by rw [← hw1]; unfold Hid; simp
  have CO := Lib.hid (open_any s w1 hs (CkTab.below hk G1.out.bel (Nat.le_refl _)))
  have D := Lib.hid (rdC (opn s).1.data.toList)
  have HT : Hid (∀ w', Below w.heap.size w w' → HdTab w') := fun w' hb => HdTab.below ht hb (Nat.le_refl _)
  have HK : Hid (0 < w.heap.size) := HdTab.lt ht
  generalize rdP (0, (opn s).1.data.toList) = ρ at *
  obtain ⟨y, e0, R⟩ := ρ
  obtain rfl : e0 = 0 := h2
  simp only at D ⊢
  rw [h] at CO
  generalize (opn s).1 = t at *
  obtain ⟨z, hz⟩ : ∃ z, { y with bo := bz R } = z := ⟨_, rfl⟩
  have HZF := Lib.hid hz
  have hu : FrU z := hz ▸ ⟨D.out.fru.ta, D.out.fru.fa, D.out.fru.th⟩
  have CC : Hid (∀ w', Below w.heap.size w w' → Calls Tryd.prog 17 #[Fr_.v z] w' fun e w'' => e = .returned (.int .i64 (chk z)) ∧ Below w'.heap.size w' w'') := fun w' hb => progCheck_any z w' (HT.out w' hb) hu
  unfold fin
  rw [hz]
  clear ht hk hs h hu hz
  have key : (2048 < R.length ∨ (¬ 2048 < R.length ∧ ¬ chk z = 0) ∨ (¬ 2048 < R.length ∧ chk z = 0)) := by
    by_cases a : 2048 < R.length
    · exact .inl a
    · by_cases b : chk z = 0
      · exact .inr (.inr ⟨a, b⟩)
      · exact .inr (.inl ⟨a, b⟩)
  rcases key with hl | ⟨hl, hc⟩ | ⟨hl, hc⟩
  case inl =>
    rw [if_pos hl]
    have hl' : (2048 : Int) < (R.length : Int) := by omega
    clear hl CC
    go_enter Tryd.func14, Tryd.ntmps14
    go_wp2_with (first
      | (go_at_call 36; refine CO.out.mono ?_; rintro e w2 ⟨rfl, hb⟩; have G2 := Lib.hid (G1.out.keep hb); have Z2 : Hid (w.heap.size < w2.heap.size) := Nat.lt_of_lt_of_le HZ.out hb.size; clear hb
         obtain ⟨w3, hw3⟩ : ∃ w3, w2.alloc (.cells #[.int .i64 0, .string t] 88) = w3 := ⟨_, rfl⟩
         have D3 := Lib.hid (show Dst w w2.heap.size (0, t.data.toList) w3 from ⟨hw3 ▸ G2.out.keep ((Below.refl _ _).alloc (Nat.le_refl _) _), hw3 ▸ rs_new w2 t, Z2.out⟩))
      | (go_at_call 37; refine (new_any _ _).mono ?_; rintro e w1' ⟨rfl, rfl⟩)
      | (go_at_call 38; refine (D.out.rd _ _ (HT.out _ D3.out.st.bel) D3.out.rd (by have := HK.out; have := Z2.out; omega)).mono ?_; rintro e w4 ⟨rfl, h4, b4⟩; have D4 := Lib.hid (D3.out.call h4 b4); clear h4 b4
         obtain ⟨w5, hw5⟩ : ∃ w5, w4.alloc (.cells (Fr_.C y) 25) = w5 := ⟨_, rfl⟩
         have D5 := Lib.hid (show Dst w w2.heap.size (0, R) w5 from hw5 ▸ D4.out.keep ((Below.refl _ _).alloc (Nat.le_refl _) _)))
      | (go_at_call 39; refine (err_tot _ (0, R) _ D5.out.rd).mono ?_; rintro e w6 ⟨rfl, rfl⟩)
      | (go_at_call 40; refine (left_tot _ R _ D5.out.rd).mono ?_; rintro e w6 ⟨rfl, rfl⟩; have sf := D5.out.st.zero))
    exact ret_two Tryd.results14 rfl rfl (D5.out.st.res.setRow _) rfl ⟨rfl, D5.out.st.fin _⟩
  all_goals
    rw [if_neg hl]
    first | rw [if_neg hc] | rw [if_pos hc]
    have hl' : ¬ (2048 : Int) < (R.length : Int) := by omega
    first | (have hne : (chk z != 0) = true := by rw [bne_iff_ne]; exact hc) | rw [hc] at CC
    generalize chk z = c at *
    clear hl hc
    go_enter Tryd.func14, Tryd.ntmps14
    go_wp2_with (first
      | (go_at_call 36; refine CO.out.mono ?_; rintro e w2 ⟨rfl, hb⟩; have G2 := Lib.hid (G1.out.keep hb); have Z2 : Hid (w.heap.size < w2.heap.size) := Nat.lt_of_lt_of_le HZ.out hb.size; clear hb
         obtain ⟨w3, hw3⟩ : ∃ w3, w2.alloc (.cells #[.int .i64 0, .string t] 88) = w3 := ⟨_, rfl⟩
         have D3 := Lib.hid (show Dst w w2.heap.size (0, t.data.toList) w3 from ⟨hw3 ▸ G2.out.keep ((Below.refl _ _).alloc (Nat.le_refl _) _), hw3 ▸ rs_new w2 t, Z2.out⟩))
      | (go_at_call 37; refine (new_any _ _).mono ?_; rintro e w1' ⟨rfl, rfl⟩)
      | (go_at_call 38; refine (D.out.rd _ _ (HT.out _ D3.out.st.bel) D3.out.rd (by have := HK.out; have := Z2.out; omega)).mono ?_; rintro e w4 ⟨rfl, h4, b4⟩; have D4 := Lib.hid (D3.out.call h4 b4); clear h4 b4
         obtain ⟨w5, hw5⟩ : ∃ w5, w4.alloc (.cells (Fr_.C y) 25) = w5 := ⟨_, rfl⟩
         have D5 := Lib.hid (show Dst w w2.heap.size (0, R) w5 from hw5 ▸ D4.out.keep ((Below.refl _ _).alloc (Nat.le_refl _) _))
         have Y5 := Lib.hid (show Fr_.Box w5 w4.heap.size y from hw5 ▸ Fr_.Box.newC w4 y)
         have N5 : Hid (w2.heap.size < w4.heap.size) := D4.out.rd.lt)
      | (go_at_call 39; refine (err_tot _ (0, R) _ D5.out.rd).mono ?_; rintro e w6 ⟨rfl, rfl⟩)
      | (go_at_call 40; refine (left_tot _ R _ D5.out.rd).mono ?_; rintro e w6 ⟨rfl, rfl⟩)
      | (go_at_call 41; refine (rest_tot _ R _ D5.out.rd).mono ?_; rintro e w7 ⟨rfl, b7⟩
         have G7 := Lib.hid (D5.out.st.but b7 (Nat.ne_of_lt Z2.out) (Nat.le_of_lt Z2.out))
         have Y7 := Lib.hid (show Fr_.Box w7 w4.heap.size y from (b7.block _ Y5.out.lt (Nat.ne_of_gt N5.out)).trans Y5.out)
         clear b7
         obtain ⟨w8, hw8⟩ : ∃ w8, w7.setCell ⟨w4.heap.size, 17, none⟩ (.string (bz R)) = w8 := ⟨_, rfl⟩
         have f7 := Y7.out.frozen 17; have e7 := Y7.out.all
         have Y8 := Lib.hid (show Fr_.Box w8 w4.heap.size z from HZF.out ▸ hw8 ▸ Y7.out.set17 (bz R))
         have G8 := Lib.hid (show Gst w w.heap.size w8 from hw8 ▸ ⟨G7.out.res.other (a := ⟨w4.heap.size, 17, none⟩) (by have := Z2.out; have := N5.out; show w.heap.size ≠ w4.heap.size; omega) _, G7.out.bel.setCell (p := ⟨w4.heap.size, 17, none⟩) (by have := Z2.out; have := N5.out; show w.heap.size ≤ w4.heap.size; omega) _, Nat.le_refl _⟩)
         have l8 := Y8.out.loadF)
      | (go_at_call 17; refine (CC.out _ G8.out.bel).mono ?_; rintro e w9 ⟨rfl, hb⟩; have G9 := Lib.hid (G8.out.keep hb); have Y9 := Lib.hid (Y8.out.below hb Y8.out.lt); clear hb l8 e7 f7; have l9 := Y9.out.loadF; have sf := G9.out.zero; have sg := G9.out.res.storeF z))
    exact ret_two Tryd.results14 rfl rfl (G9.out.res.setRow _) rfl ⟨rfl, G9.out.fin _⟩
end
theorem decode_any (s : ByteArray) (w : World) (ht : HdTab w) (hk : CkTab w) (hs : s.size ≤ 140737488351232) :
    Calls Tryd.prog 14 #[.string s] w fun e w' => e = .returned (.tuple #[Fr_.v (dec s).1, .int .i64 (dec s).2]) ∧ Below w.heap.size w w' := by
  by_cases h : (opn s).2 = 0
  · by_cases h2 : (rdP (0, (opn s).1.data.toList)).2.1 = 0
    · exact decode_rest s w ht hk hs h h2
    · exact decode_bad s w ht hk hs h h2
  · exact decode_shut s w ht hk hs h
end Go.Proofs.YtkhnhlahfedkhaaDoor

namespace Go.Proofs.YtkhnhlahfedkhaaDoor
open Go.RowKit Go.Hd Go.Wr Go.Ad Go.Ck Go.Fm

theorem ex_take (l : List UInt8) (n : Nat) : ((⟨l.toArray⟩ : ByteArray).extract 0 n).data.toList = l.take n := by simp
theorem ex_drop (l : List UInt8) (n : Nat) : ((⟨l.toArray⟩ : ByteArray).extract n (⟨l.toArray⟩ : ByteArray).size).data.toList = l.drop n := by
  have : (⟨l.toArray⟩ : ByteArray).size = l.length := List.size_toArray
  rw [this]
  simp [List.take_of_length_le]
theorem ba_st (s : ByteArray) (l : List UInt8) (h : s.data.toList = l) : s = Go.Fm.st l := by rw [← h, st_of]

/-- The test of Open, over octets. -/
theorem opn_of (Q : List UInt8) (n : Nat) (h : Q.length = n + 4) : opn (Go.Fm.st Q) = if Q.drop n = le (crc (Q.take n)) 4 then (Go.Fm.st (Q.take n), 0) else (⟨#[]⟩, 5) := by
  unfold opn
  rw [if_neg (by rw [st_size]; omega), st_size, h, Nat.add_sub_cancel]
  have e1 : (Go.Fm.st Q).extract 0 n = Go.Fm.st (Q.take n) := ba_st _ _ (ex_take Q n)
  have e2 : ((Go.Fm.st Q).extract n (n + 4)).toList = Q.drop n := by
    have := ex_drop Q n
    rw [ByteArray.toList_eq, ← h, ← st_size Q]
    exact this
  rw [e1, e2, st_data, ByteArray.toList_eq]
  by_cases hc : Q.drop n = le (crc (Q.take n)) 4
  · rw [if_pos hc, if_pos (by rw [hc]; simp)]
  · rw [if_neg hc, if_neg (by simpa using hc)]
theorem opn_sealed (L : List UInt8) : opn (Go.Fm.st (sealed L)) = (Go.Fm.st L, 0) := by
  have h1 : (sealed L).drop L.length = le (crc ((sealed L).take L.length)) 4 := sealed_opens L
  have h2 : (sealed L).take L.length = L := List.take_left' rfl
  rw [opn_of (sealed L) L.length (sealed_len L), if_pos h1, h2]
theorem opn_ok (s : ByteArray) (h : (opn s).2 = 0) : s = Go.Fm.st (sealed (opn s).1.data.toList) := by
  by_cases h4 : s.size < 4
  · unfold opn at h; rw [if_pos h4] at h; exact absurd h (by decide)
  · have hs : s = Go.Fm.st s.data.toList := (st_of s).symm
    have hl : s.data.toList.length = (s.size - 4) + 4 := by rw [Array.length_toList]; show s.size = _; omega
    have he := opn_of s.data.toList (s.size - 4) hl
    rw [← hs] at he
    by_cases hc : s.data.toList.drop (s.size - 4) = le (crc (s.data.toList.take (s.size - 4))) 4
    · rw [if_pos hc] at he
      rw [he, st_data]
      refine ba_st s _ ?_
      unfold sealed
      rw [← hc, List.take_append_drop]
    · rw [if_neg hc] at he
      rw [he] at h
      exact absurd h (by decide)
theorem opn_flipped (L : List UInt8) (n p : Nat) (hp : p < 4294967296) (hn : n < 8 * (L.length + 4)) (T : List UInt8) (hT : T = flps (sealed L) n p 32) (h : T ≠ sealed L) : opn (Go.Fm.st T) = (⟨#[]⟩, 5) := by
  have hd := flips_detected L n p hp hn (fun e => h (hT.trans e))
  have hl : T.length = L.length + 4 := by rw [hT, flps_len, sealed_len]
  rw [opn_of T L.length hl, if_neg]
  rw [hT]
  exact hd

theorem fin_ok {f : Fr} (h : chk f = 0) : fin { f with bo := ⟨#[]⟩ } f.bo.data.toList = (f, 0) := by
  have e : ({ { f with bo := ⟨#[]⟩ } with bo := bz f.bo.data.toList } : Fr) = f := by
    have : bz f.bo.data.toList = f.bo := by unfold bz; simp
    rw [this]
  unfold fin
  have hb := bo_le h
  rw [if_neg (by rw [Array.length_toList]; show ¬ 2048 < f.bo.size; omega), e, if_pos h]
/-- What is encoded is decoded. -/
theorem dec_enc {f : Fr} (h : chk f = 0) : dec (enc f) = (f, 0) := by
  rw [show enc f = Go.Fm.st (sealed (body f)) from if_pos h]
  unfold dec
  rw [opn_sealed, if_pos rfl, st_data]
  unfold dec1 body
  rw [rd_back h, if_pos rfl]
  exact fin_ok h
/-- What is decoded is encoded. -/
theorem dec_back (s : ByteArray) (h : (dec s).2 = 0) : chk (dec s).1 = 0 ∧ enc (dec s).1 = s := by
  by_cases h1 : (opn s).2 = 0
  case neg => rw [show dec s = (Fr_.zf, (opn s).2) from if_neg h1] at h; exact absurd h h1
  have e1 : dec s = dec1 (opn s).1.data.toList := if_pos h1
  rw [e1] at h ⊢
  have hs := opn_ok s h1
  generalize (opn s).1.data.toList = l at *
  by_cases h2 : (rdP (0, l)).2.1 = 0
  case neg => rw [show dec1 l = (Fr_.zf, (rdP (0, l)).2.1) from if_neg h2] at h; exact absurd h h2
  obtain ⟨_, hw⟩ := rd_written l h2
  have e2 : dec1 l = fin (rdP (0, l)).1 (rdP (0, l)).2.2 := if_pos h2
  rw [e2] at h ⊢
  generalize (rdP (0, l)).1 = y at *
  generalize (rdP (0, l)).2.2 = R at *
  unfold fin at h ⊢
  by_cases h3 : 2048 < R.length
  · rw [if_pos h3] at h; exact absurd h (by decide)
  rw [if_neg h3] at h ⊢
  by_cases h4 : chk { y with bo := bz R } = 0
  · rw [if_pos h4]
    refine ⟨h4, ?_⟩
    simp only
    rw [show enc { y with bo := bz R } = Go.Fm.st (sealed (body { y with bo := bz R })) from if_pos h4, hs]
    have hb : body { y with bo := bz R } = l := by
      rw [← hw]
      show oct { y with bo := bz R } ++ (bz R).data.toList = _
      rw [oct_bo]
      simp [bz]
    rw [hb]
  · rw [if_neg h4] at h
    exact absurd h h4
theorem dec_zero (s : ByteArray) (h : ¬ (dec s).2 = 0) : (dec s).1 = Fr_.zf := by
  unfold dec at h ⊢
  by_cases h1 : (opn s).2 = 0
  case neg => rw [if_neg h1]
  rw [if_pos h1] at h ⊢
  unfold dec1 at h ⊢
  by_cases h2 : (rdP (0, (opn s).1.data.toList)).2.1 = 0
  case neg => rw [if_neg h2]
  rw [if_pos h2] at h ⊢
  unfold fin at h ⊢
  split
  · rfl
  · rename_i h3
    rw [if_neg h3] at h
    split
    · rename_i h4
      rw [if_pos h4] at h
      exact absurd rfl h
    · rfl
theorem dec_fru (s : ByteArray) : FrU (dec s).1 := by
  have hz : FrU Fr_.zf := ⟨by constructor <;> decide, by constructor <;> decide, by constructor <;> decide⟩
  unfold dec
  split
  case isFalse => exact hz
  unfold dec1
  split
  case isFalse => exact hz
  unfold fin
  have hu := (rdC (opn s).1.data.toList).fru
  repeat' split
  all_goals first
    | exact hz
    | exact ⟨hu.ta, hu.fa, hu.th⟩
end Go.Proofs.YtkhnhlahfedkhaaDoor
