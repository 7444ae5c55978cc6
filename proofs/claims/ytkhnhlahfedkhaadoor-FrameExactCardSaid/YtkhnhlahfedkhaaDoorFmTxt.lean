/-
  COMPLETE FRAMES (of no program): layer 12: the octets, the length and the text of a frame.
  WALKS of the landed package frame (900e12d): sender, flags, Text.
-/
import Derived.Test.YtkhnhlahfedkhaaDoorCkMath
import Derived.Test.YtkhnhlahfedkhaaDoorHdOct
import Derived.Test.YtkhnhlahfedkhaaDoorAdMath
import Derived.Lib.ItoaNum
import Derived.Lib.ItoaLen
import Derived.Test.YtkhnhlahfedkhaaDoorHdFlags
import Derived.Test.YtkhnhlahfedkhaaDoorHdProgCheck
import Derived.Test.YtkhnhlahfedkhaaDoorAdTxt
import Derived.Test.YtkhnhlahfedkhaaDoorShelf
import Derived.Lib.AppendIntMem
import Derived.Lib.LaidTab
namespace Go.Fm
open Go.Hd Go.Wr Go.Ad Go.Ck

/-- A string out of octets. -/
def st (l : List UInt8) : ByteArray := ⟨l.toArray⟩
theorem st_size (l : List UInt8) : (st l).size = l.length := by simp [st, ByteArray.size]
theorem st_data (l : List UInt8) : (st l).data.toList = l := by simp [st]
theorem st_of (s : ByteArray) : st s.data.toList = s := by unfold st; simp
/-- The octets of a frame. -/
def body (f : Fr) : List UInt8 := oct f ++ f.bo.data.toList
def sealed (l : List UInt8) : List UInt8 := l ++ le (crc l) 4
def enc (f : Fr) : ByteArray := if chk f = 0 then st (sealed (body f)) else ⟨#[]⟩
def flen (f : Fr) : Int := if chk f = 0 then len f + f.bo.size + 4 else 0
/-- The text of a frame. -/
def wd (b : Bool) (l : List UInt8) : List UInt8 := if b then 32 :: l else []
def retryT : List UInt8 := [114, 101, 116, 114, 121]
def moreT : List UInt8 := [109, 111, 114, 101]
def powerT : List UInt8 := [112, 111, 119, 101, 114]
def storedT : List UInt8 := [115, 116, 111, 114, 101, 100]
def lastT : List UInt8 := [108, 97, 115, 116]
def fl (f : Fr) : List UInt8 := wd f.rt retryT ++ wd f.mo moreT ++ wd f.pw powerT ++ wd f.st storedT ++ wd f.la lastT
def frm (f : Fr) : List UInt8 := if f.fa = 0 then [45] else txt f.fa.toNat
def dd (n : Int) : List UInt8 := Lib.decDigits n.toNat
def t1 (f : Fr) : List UInt8 := (nm f.kd).data.toList ++ [32] ++ txt f.ta.toNat ++ [32] ++ frm f
def t2 (f : Fr) : List UInt8 := t1 f ++ [32] ++ dd f.sq ++ [46] ++ dd f.fg ++ [32] ++ dd f.ct ++ [32] ++ dd f.bo.size
def text (f : Fr) : ByteArray := if chk f = 0 then st (t2 f ++ fl f) else ⟨#[]⟩

theorem chk_of {f : Fr} (h : chk f = 0) : isK f.kd ∧ rngs f ∧ ¬ (bd f.kd ∧ 2048 < f.bo.size) ∧ ¬ bad f := by
  unfold chk at h
  by_cases h1 : isK f.kd
  · rw [if_neg (not_not_intro h1)] at h
    by_cases h2 : rngs f
    · rw [if_neg (not_not_intro h2)] at h
      by_cases h3 : bd f.kd ∧ 2048 < f.bo.size
      · rw [if_pos h3] at h; omega
      · rw [if_neg h3] at h
        by_cases h4 : bad f
        · rw [if_pos h4] at h; omega
        · exact ⟨h1, h2, h3, h4⟩
    · rw [if_pos h2] at h; omega
  · rw [if_pos h1] at h; omega
/-- A valid frame's body. -/
theorem bo_le {f : Fr} (h : chk f = 0) : f.bo.size ≤ 2048 := by
  obtain ⟨_, _, h3, h4⟩ := chk_of h
  by_cases hb : bd f.kd
  · exact Nat.le_of_not_lt fun hl => h3 ⟨hb, hl⟩
  · have : f.bo.size = 0 := Classical.byContradiction fun hn => h4 (.inl (.inr (.inr (.inr (.inr (.inl ⟨hb, hn⟩))))))
    omega
theorem body_len {f : Fr} (h : chk f = 0) : ((body f).length : Int) = len f + f.bo.size := by
  unfold body
  rw [List.length_append, Int.natCast_add, oct_len_is h]
  rfl
theorem sealed_len (l : List UInt8) : (sealed l).length = l.length + 4 := by unfold sealed; rw [List.length_append, le_len]
theorem dd_len {n : Int} (h : 0 ≤ n ∧ n < 1000000000) : (dd n).length ≤ 20 := by
  unfold dd; rw [Lib.decDigits_length]; exact Lib.nDigits_le20 _ (by omega)
theorem wd_len (b : Bool) (l : List UInt8) : (wd b l).length ≤ l.length + 1 := by unfold wd; split <;> simp
theorem txt_len (a : Nat) : (txt a).length = 17 := by unfold txt; rw [tx_len]
theorem frm_len (f : Fr) : (frm f).length ≤ 17 := by unfold frm; split <;> simp [txt_len]
theorem nm_len (k : Int) : (nm k).data.toList.length ≤ 20 := by
  by_cases h : isK k
  · rcases kinds h with rfl | rfl | rfl | rfl | rfl | rfl | rfl | rfl | rfl | rfl | rfl | rfl | rfl | rfl | rfl | rfl | rfl | rfl | rfl <;> decide
  · rw [nm_no h]; decide
/-- The numbers of a valid frame. -/
structure Nums (f : Fr) : Prop where
  ta : 0 ≤ f.ta ∧ f.ta < 281474976710656
  fa : 0 ≤ f.fa ∧ f.fa < 281474976710656
  sq : 0 ≤ f.sq ∧ f.sq < 1000000000
  fg : 0 ≤ f.fg ∧ f.fg < 1000000000
  ct : 0 ≤ f.ct ∧ f.ct < 1000000000
  bo : f.bo.size ≤ 2048
theorem nums_of {f : Fr} (h : chk f = 0) : Nums f := by
  obtain ⟨_, h2, _, h4⟩ := chk_of h
  obtain ⟨_, a2, a3, a4, a5, a6⟩ := h2
  have hu : ¬ unu f := fun hu => h4 (.inl hu)
  unfold unu at hu
  have u2 : pl f.kd ∨ (f.po = 0 ∧ f.ct = 0) := by
    by_cases hp : pl f.kd
    · exact .inl hp
    · refine .inr ⟨?_, ?_⟩ <;> exact Classical.byContradiction fun hn => hu (.inr (.inl ⟨hp, by first | exact .inl hn | exact .inr hn⟩))
  have u3 : fro f.kd ∨ f.fa = 0 := by
    by_cases hp : fro f.kd
    · exact .inl hp
    · exact .inr (Classical.byContradiction fun hn => hu (.inr (.inr (.inl ⟨hp, hn⟩))))
  have u4 : nb f.kd ∨ f.sq = 0 := by
    by_cases hp : nb f.kd
    · exact .inl hp
    · exact .inr (Classical.byContradiction fun hn => hu (.inr (.inr (.inr (.inl ⟨hp, .inr hn⟩)))))
  have u6 : f.kd = 18 ∨ f.fg = 0 := by
    by_cases hp : f.kd = 18
    · exact .inl hp
    · exact .inr (Classical.byContradiction fun hn => hu (.inr (.inr (.inr (.inr (.inr ⟨hp, .inl hn⟩))))))
  refine ⟨⟨by have := a2.1; omega, a2.2⟩, ?_, ?_, ?_, ?_, bo_le h⟩
  · rcases u3 with hp | e
    · have := (a3 hp).1; unfold vad at this; omega
    · omega
  · rcases u4 with hp | e
    · have := (a4 hp).2.2; unfold rng at this; omega
    · omega
  · rcases u6 with hp | e
    · have := (a6 hp).1; unfold rng at this; omega
    · omega
  · rcases u2 with hp | e
    · have := (a5 hp).2; unfold rng at this; omega
    · omega
/-- The pieces of a text, and the text up to a piece. -/
def piece (f : Fr) : Nat → List UInt8
  | 2 => txt f.ta.toNat
  | 4 => frm f
  | 6 => dd f.sq
  | 7 => [46]
  | 8 => dd f.fg
  | 10 => dd f.ct
  | 12 => dd f.bo.size
  | _ => [32]
def lp (f : Fr) : Nat → List UInt8
  | 0 => (nm f.kd).data.toList
  | k + 1 => lp f k ++ piece f (k + 1)
theorem lp_t1 (f : Fr) : lp f 4 = t1 f := rfl
theorem lp_t2 (f : Fr) : lp f 12 = t2 f := rfl
theorem piece_len {f : Fr} (h : Nums f) (k : Nat) : (piece f k).length ≤ 20 := by
  unfold piece
  split
  · rw [txt_len]; decide
  · have := frm_len f; omega
  · exact dd_len h.sq
  · decide
  · exact dd_len h.fg
  · exact dd_len h.ct
  · exact dd_len ⟨by omega, by have := h.bo; omega⟩
  · decide
theorem lp_len {f : Fr} (h : Nums f) (k : Nat) : (lp f k).length ≤ 20 + 20 * k := by
  induction k with
  | zero => exact nm_len f.kd
  | succ k ih => unfold lp; rw [List.length_append]; have := piece_len h (k + 1); omega
/-- Frames in which the check reads the same but for the body. -/
theorem oct_bo (f : Fr) (b : ByteArray) : oct { f with bo := b } = oct f := rfl
end Go.Fm

namespace Go.Proofs.YtkhnhlahfedkhaaDoor
open Go.RowKit Go.Hd Go.Wr Go.Ad Go.Fm
attribute [local go_sem ↓ high] Fr_.loadF Fr_.storeF Fr_.v_cells Fr_.v_match
attribute [local go_sem] Fr_.C0 Fr_.C1 Fr_.C2 Fr_.C3 Fr_.C4 Fr_.C5 Fr_.C6 Fr_.C7 Fr_.C8 Fr_.C9 Fr_.C10 Fr_.C11 Fr_.C12 Fr_.C13 Fr_.C14 Fr_.C15 Fr_.C16 Fr_.C17 Fr_.loadF_new

/-- The library's table of powers lies in its variable. -/
def PowTab (w : World) : Prop := Lib.TabIs Tryd.prog w "internal/strconv.uint64pow10" .u64 Lib.pow10Tab
theorem PowTab.below {w w' : World} {B : Nat} (h : PowTab w) (hb : Below B w w') (hB : w.heap.size ≤ B) : PowTab w' := Lib.tabBelow_of_tabIs h w' (hb.mono hB)

theorem itoa_any (n : Int) (h : 0 ≤ n ∧ n < 1000000000) (w : World) (ht : PowTab w) :
    Calls Tryd.prog 30 #[.int .i64 n] w fun e w' => e = .returned (.string (Go.Fm.st (dd n))) ∧ Below w.heap.size w w' := by
  refine (Tryd.strconv_Itoa n (by omega) (by omega) w ht).mono ?_
  rintro e w' ⟨rfl, k, os, rfl⟩
  refine ⟨?_, Lib.below_grow _ _ (Nat.le_refl _) k os⟩
  unfold Lib.itoa
  rw [if_neg (by omega)]
  rfl

theorem st_add (s t u : List UInt8) (h : s.length + t.length ≤ 1000000) (e : s ++ t = u) (W : World) : (Op.stringOp .add (Go.Fm.st s) (Go.Fm.st t)).run Tryd.prog W = .ok (.string (Go.Fm.st u)) W := by
  subst e
  have : (Go.Fm.st s ++ Go.Fm.st t : ByteArray) = Go.Fm.st (s ++ t) := by unfold Go.Fm.st; apply ByteArray.ext; simp
  rw [← this]
  exact run_string_add_sum (P := Tryd.prog) W _ _ (by rw [st_size, st_size]; omega)

set_option maxRecDepth 100000 in
set_option maxHeartbeats 1000000 in
theorem sender_any (f : Fr) (hn : Nums f) (w : World) :
    Calls Tryd.prog 29 #[Fr_.v f] w fun e w' => e = .returned (.string (Go.Fm.st (frm f))) ∧ Below w.heap.size w w' := by
  have S1 := Lib.hid (Stf.new w f)
  have e1 := S1.out.box.all
  by_cases h : f.fa = 0
  · have hb : (f.fa == 0) = true := by rw [h]; rfl
    have HF : Hid (Go.Fm.st (frm f) = ⟨#[45]⟩) := by unfold Hid frm; rw [if_pos h]; rfl
    clear hn h
    go_enter Tryd.func29, Tryd.ntmps29
    go_wp2
    go_returns
    exact ⟨by rw [HF.out]; rfl, S1.out.bel⟩
  · have hb : (f.fa == 0) = false := by rw [beq_eq_false_iff_ne]; exact h
    have CT : Hid (∀ w, Calls Tryd.prog 28 #[.int .u64 f.fa] w fun e w' => e = .returned (.string (Go.Fm.st (frm f))) ∧ Below w.heap.size w w') := fun w => by
      have := text5_any f.fa.toNat w (by have := hn.fa; omega)
      rw [Int.toNat_of_nonneg hn.fa.1] at this
      rw [show frm f = txt f.fa.toNat from if_neg h]
      exact this
    clear hn h
    go_enter Tryd.func29, Tryd.ntmps29
    go_wp2_with (go_at_call 28; refine (CT.out _).mono ?_; rintro e w2 ⟨rfl, hb2⟩; have B2 := Lib.hid (S1.out.bel.trans (hb2.mono S1.out.bel.size)); clear hb2)
    go_returns
    exact ⟨rfl, B2.out⟩

/-- The flags' names, up to the k-th. -/
def flk (f : Fr) : Nat → List UInt8
  | 0 => []
  | 1 => wd f.rt retryT
  | 2 => wd f.rt retryT ++ wd f.mo moreT
  | 3 => wd f.rt retryT ++ wd f.mo moreT ++ wd f.pw powerT
  | 4 => wd f.rt retryT ++ wd f.mo moreT ++ wd f.pw powerT ++ wd f.st storedT
  | _ => fl f
theorem flk_len (f : Fr) (k : Nat) : (flk f k).length ≤ 31 := by
  have h1 := wd_len f.rt retryT
  have h2 := wd_len f.mo moreT
  have h3 := wd_len f.pw powerT
  have h4 := wd_len f.st storedT
  have h5 := wd_len f.la lastT
  simp only [retryT, moreT, powerT, storedT, lastT, List.length_cons, List.length_nil] at h1 h2 h3 h4 h5
  unfold flk fl
  split <;> simp only [List.length_append, List.length_nil, retryT, moreT, powerT, storedT, lastT] <;> omega

set_option linter.unusedSimpArgs false in
/-- An array of five pairs, read at a place. -/
theorem five_at (k : Nat) (hk : k < 5) (b0 b1 b2 b3 b4 : Bool) (s0 s1 s2 s3 s4 : ByteArray) (W : World) :
    (Instr.index 84 (.agg #[.bool b0, .string s0, .bool b1, .string s1, .bool b2, .string s2, .bool b3, .string s3, .bool b4, .string s4]) (.int .i64 (k : Int))).run Tryd.prog W =
      .ok (.agg #[.bool ([b0, b1, b2, b3, b4].getD k false), .string ([s0, s1, s2, s3, s4].getD k ⟨#[]⟩)]) W := by
  have hs : (sizeOf (Tryd.prog.elem 84)).run Tryd.prog W = .ok 2 W := by kernel_rfl
  rcases (show k = 0 ∨ k = 1 ∨ k = 2 ∨ k = 3 ∨ k = 4 by omega) with rfl | rfl | rfl | rfl | rfl
  all_goals
    simp [Instr.index, run_underlying Tryd.underlying84, asIntOf, go_sem, hs]

/-- One flag more. -/
theorem flag_step (f : Fr) (k : Nat) (hk : k < 5) : ∃ (b : Bool) (t u : ByteArray),
    (∀ W, (Instr.index 84 (.agg #[.bool f.rt, .string ⟨#[114, 101, 116, 114, 121]⟩, .bool f.mo, .string ⟨#[109, 111, 114, 101]⟩, .bool f.pw, .string ⟨#[112, 111, 119, 101, 114]⟩, .bool f.st, .string ⟨#[115, 116, 111, 114, 101, 100]⟩, .bool f.la, .string ⟨#[108, 97, 115, 116]⟩]) (.int .i64 (k : Int))).run Tryd.prog W = .ok (.agg #[.bool b, .string t]) W) ∧
    (∀ W, (Op.stringOp .add ⟨#[32]⟩ t).run Tryd.prog W = .ok (.string u) W) ∧
    (b = true → ∀ W, (Op.stringOp .add (Go.Fm.st (flk f k)) u).run Tryd.prog W = .ok (.string (Go.Fm.st (flk f (k + 1)))) W) ∧
    (b = false → flk f (k + 1) = flk f k) := by
  have hl := flk_len f
  rcases (show k = 0 ∨ k = 1 ∨ k = 2 ∨ k = 3 ∨ k = 4 by omega) with rfl | rfl | rfl | rfl | rfl
  · exact ⟨f.rt, _, Go.Fm.st (32 :: retryT), fun W => five_at 0 (by decide) _ _ _ _ _ _ _ _ _ _ W, st_add [32] retryT _ (by decide) rfl, fun h W => st_add _ _ _ (by have := hl 0; simp only [retryT, List.length_cons, List.length_nil]; omega) (by show _ = flk f 0 ++ wd f.rt retryT; rw [h]; rfl) W, fun h => by show flk f 0 ++ wd f.rt retryT = _; rw [h]; exact List.append_nil _⟩
  · exact ⟨f.mo, _, Go.Fm.st (32 :: moreT), fun W => five_at 1 (by decide) _ _ _ _ _ _ _ _ _ _ W, st_add [32] moreT _ (by decide) rfl, fun h W => st_add _ _ _ (by have := hl 1; simp only [moreT, List.length_cons, List.length_nil]; omega) (by show _ = flk f 1 ++ wd f.mo moreT; rw [h]; rfl) W, fun h => by show flk f 1 ++ wd f.mo moreT = _; rw [h]; exact List.append_nil _⟩
  · exact ⟨f.pw, _, Go.Fm.st (32 :: powerT), fun W => five_at 2 (by decide) _ _ _ _ _ _ _ _ _ _ W, st_add [32] powerT _ (by decide) rfl, fun h W => st_add _ _ _ (by have := hl 2; simp only [powerT, List.length_cons, List.length_nil]; omega) (by show _ = flk f 2 ++ wd f.pw powerT; rw [h]; rfl) W, fun h => by show flk f 2 ++ wd f.pw powerT = _; rw [h]; exact List.append_nil _⟩
  · exact ⟨f.st, _, Go.Fm.st (32 :: storedT), fun W => five_at 3 (by decide) _ _ _ _ _ _ _ _ _ _ W, st_add [32] storedT _ (by decide) rfl, fun h W => st_add _ _ _ (by have := hl 3; simp only [storedT, List.length_cons, List.length_nil]; omega) (by show _ = flk f 3 ++ wd f.st storedT; rw [h]; rfl) W, fun h => by show flk f 3 ++ wd f.st storedT = _; rw [h]; exact List.append_nil _⟩
  · exact ⟨f.la, _, Go.Fm.st (32 :: lastT), fun W => five_at 4 (by decide) _ _ _ _ _ _ _ _ _ _ W, st_add [32] lastT _ (by decide) rfl, fun h W => st_add _ _ _ (by have := hl 4; simp only [lastT, List.length_cons, List.length_nil]; omega) (by show _ = flk f 4 ++ wd f.la lastT; rw [h]; rfl) W, fun h => by show flk f 4 ++ wd f.la lastT = _; rw [h]; exact List.append_nil _⟩

set_option maxRecDepth 100000 in
set_option maxHeartbeats 8000000 in
theorem fflags_any (f : Fr) (w : World) :
    Calls Tryd.prog 31 #[Fr_.v f] w fun e w' => e = .returned (.string (Go.Fm.st (fl f))) ∧ Below w.heap.size w w' := by
  have S1 := Lib.hid (Stf.new w f)
  have e1 := S1.out.box.all
  have HS := Lib.hid (flag_step f)
  have HE : Hid (flk f 5 = fl f) := rfl
  have H0 : Hid (Go.Fm.st (flk f 0) = ⟨#[]⟩) := rfl
  generalize flk f = F at *
  go_enter Tryd.func31, Tryd.ntmps31
  go_wp2
  go_loopw [3, 22] (fun x i wr => ∃ k : Nat, k ≤ 5 ∧ i = .int .i64 k ∧ x = .string (Go.Fm.st (F k)) ∧ Below w.heap.size w wr) (fun _ i _ => 5 - (intOf i).toNat)
  case atStart => exact ⟨0, by omega, rfl, by rw [H0.out], S1.out.bel⟩
  case round =>
    obtain ⟨k, hk, rfl, rfl, hb⟩ := hrel
    have HB := Lib.hid hb
    clear hb S1 e1
    by_cases hlt : k < 5
    · obtain ⟨b, t, u, hix, ha, hT, hF⟩ := HS.out k hlt
      clear HS HE H0
      cases b
      · have HF := Lib.hid (hF rfl)
        clear hT hF
        go_wp2
        go_roundw
        case rel => exact ⟨k + 1, by omega, by go_num, by rw [HF.out], HB.out.alloc HB.out.size _⟩
        case measure => simp [intOf]; omega
      · have ha2 := hT rfl
        clear hT hF
        go_wp2
        go_roundw
        case rel => exact ⟨k + 1, by omega, by go_num, rfl, HB.out.alloc HB.out.size _⟩
        case measure => simp [intOf]; omega
    · obtain rfl : k = 5 := by omega
      go_wp2
      go_returns
      exact ⟨by rw [HE.out]; rfl, HB.out⟩

theorem fl_len (f : Fr) : (fl f).length ≤ 31 := flk_len f 5
/-- The text put together, piece by piece. -/
structure Adds (f : Fr) (p : Nat → ByteArray) : Prop where
  a1 : ∀ W, (Op.stringOp .add (nm f.kd) ⟨#[32]⟩).run Tryd.prog W = .ok (.string (p 1)) W
  a2 : ∀ W, (Op.stringOp .add (p 1) (Go.Fm.st (txt f.ta.toNat))).run Tryd.prog W = .ok (.string (p 2)) W
  a3 : ∀ W, (Op.stringOp .add (p 2) ⟨#[32]⟩).run Tryd.prog W = .ok (.string (p 3)) W
  a4 : ∀ W, (Op.stringOp .add (p 3) (Go.Fm.st (frm f))).run Tryd.prog W = .ok (.string (p 4)) W
  a5 : ∀ W, (Op.stringOp .add (p 4) ⟨#[32]⟩).run Tryd.prog W = .ok (.string (p 5)) W
  a6 : ∀ W, (Op.stringOp .add (p 5) (Go.Fm.st (dd f.sq))).run Tryd.prog W = .ok (.string (p 6)) W
  a7 : ∀ W, (Op.stringOp .add (p 6) ⟨#[46]⟩).run Tryd.prog W = .ok (.string (p 7)) W
  a8 : ∀ W, (Op.stringOp .add (p 7) (Go.Fm.st (dd f.fg))).run Tryd.prog W = .ok (.string (p 8)) W
  a9 : ∀ W, (Op.stringOp .add (p 8) ⟨#[32]⟩).run Tryd.prog W = .ok (.string (p 9)) W
  a10 : ∀ W, (Op.stringOp .add (p 9) (Go.Fm.st (dd f.ct))).run Tryd.prog W = .ok (.string (p 10)) W
  a11 : ∀ W, (Op.stringOp .add (p 10) ⟨#[32]⟩).run Tryd.prog W = .ok (.string (p 11)) W
  a12 : ∀ W, (Op.stringOp .add (p 11) (Go.Fm.st (dd f.bo.size))).run Tryd.prog W = .ok (.string (p 12)) W
  last : p 12 = Go.Fm.st (t2 f)
  len : (t2 f).length ≤ 260
theorem adds_of {f : Fr} (h : Nums f) : Adds f (fun k => Go.Fm.st (lp f k)) := by
  have hk := lp_len h
  have hp := piece_len h
  have S : ∀ k, k ≤ 12 → ∀ W, (Op.stringOp .add (Go.Fm.st (lp f k)) (Go.Fm.st (piece f (k + 1)))).run Tryd.prog W = .ok (.string (Go.Fm.st (lp f (k + 1)))) W := fun k hk' W => st_add _ _ _ (by have := hk k; have := hp (k + 1); omega) rfl W
  have S0 := S 0 (by decide)
  rw [show Go.Fm.st (lp f 0) = nm f.kd from st_of _] at S0
  exact ⟨S0, S 1 (by decide), S 2 (by decide), S 3 (by decide), S 4 (by decide), S 5 (by decide), S 6 (by decide), S 7 (by decide), S 8 (by decide), S 9 (by decide), S 10 (by decide), S 11 (by decide), rfl, by have := hk 12; rw [lp_t2] at this; omega⟩

set_option maxRecDepth 100000 in
set_option maxHeartbeats 8000000 in
theorem ftext_any (f : Fr) (w : World) (ht : HdTab w) (hp : PowTab w) (hu : FrU f) :
    Calls Tryd.prog 12 #[Fr_.v f] w fun e w' => e = .returned (.string (Go.Fm.text f)) ∧ Below w.heap.size w w' := by
  have CC := Lib.hid (fun w' (hb : Below w.heap.size w w') => progCheck_any f w' (HdTab.below ht hb (Nat.le_refl _)) hu)
  have S1 := Lib.hid (Stf.new w f)
  have e1 := S1.out.box.loadF
  by_cases h0 : chk f = 0
  · have hn := nums_of h0
    rw [show Go.Fm.text f = Go.Fm.st (t2 f ++ fl f) from if_pos h0]
    rw [h0] at CC
    have CN : Hid (∀ w', Below w.heap.size w w' → Calls Tryd.prog 27 #[.int .i64 f.kd] w' fun e w'' => e = .returned (.string (nm f.kd)) ∧ Below w'.heap.size w' w'') := fun w' hb => name_any f.kd w' (HdTab.below ht hb (Nat.le_refl _))
    have CT : Hid (∀ w, Calls Tryd.prog 28 #[.int .u64 f.ta] w fun e w' => e = .returned (.string (Go.Fm.st (txt f.ta.toNat))) ∧ Below w.heap.size w w') := fun w => by
      have := text5_any f.ta.toNat w (by have := hn.ta; omega)
      rw [Int.toNat_of_nonneg hn.ta.1] at this
      exact this
    have CS := Lib.hid (sender_any f hn)
    have I1 : Hid (∀ w', Below w.heap.size w w' → Calls Tryd.prog 30 #[.int .i64 f.sq] w' fun e w'' => e = .returned (.string (Go.Fm.st (dd f.sq))) ∧ Below w'.heap.size w' w'') := fun w' hb => itoa_any _ hn.sq w' (PowTab.below hp hb (Nat.le_refl _))
    have I2 : Hid (∀ w', Below w.heap.size w w' → Calls Tryd.prog 30 #[.int .i64 f.fg] w' fun e w'' => e = .returned (.string (Go.Fm.st (dd f.fg))) ∧ Below w'.heap.size w' w'') := fun w' hb => itoa_any _ hn.fg w' (PowTab.below hp hb (Nat.le_refl _))
    have I3 : Hid (∀ w', Below w.heap.size w w' → Calls Tryd.prog 30 #[.int .i64 f.ct] w' fun e w'' => e = .returned (.string (Go.Fm.st (dd f.ct))) ∧ Below w'.heap.size w' w'') := fun w' hb => itoa_any _ hn.ct w' (PowTab.below hp hb (Nat.le_refl _))
    have I4 : Hid (∀ w', Below w.heap.size w w' → Calls Tryd.prog 30 #[.int .i64 (f.bo.size : Int)] w' fun e w'' => e = .returned (.string (Go.Fm.st (dd f.bo.size))) ∧ Below w'.heap.size w' w'') := fun w' hb => itoa_any _ ⟨by omega, by have := hn.bo; omega⟩ w' (PowTab.below hp hb (Nat.le_refl _))
    have CF := Lib.hid (fflags_any f)
    obtain ⟨a1, a2, a3, a4, a5, a6, a7, a8, a9, a10, a11, a12, hl, hlen⟩ := adds_of hn
    have a13 : ∀ W, (Op.stringOp .add (Go.Fm.st (lp f 12)) (Go.Fm.st (fl f))).run Tryd.prog W = .ok (.string (Go.Fm.st (t2 f ++ fl f))) W := st_add _ _ _ (by rw [lp_t2]; have := fl_len f; omega) rfl
    clear hl hlen
    generalize Go.Fm.st (t2 f ++ fl f) = z at *
    generalize Go.Fm.st (fl f) = zf at *
    generalize nm f.kd = s1 at *
    generalize Go.Fm.st (txt f.ta.toNat) = s2 at *
    generalize Go.Fm.st (frm f) = s3 at *
    generalize Go.Fm.st (dd f.sq) = s4 at *
    generalize Go.Fm.st (dd f.fg) = s5 at *
    generalize Go.Fm.st (dd f.ct) = s6 at *
    generalize Go.Fm.st (dd f.bo.size) = s7 at *
    clear h0 ht hp hu hn
    go_enter Tryd.func12, Tryd.ntmps12
    go_wp2_with (go_at_call 17; refine (CC.out _ S1.out.bel).mono ?_; rintro e w2 ⟨rfl, hb⟩; have S2 := Lib.hid (Stf.keep _ _ S1.out hb); clear hb e1)
    have hc : ∀ (p : Of (Stf w w.heap.size f)) (j : Nat), p.w.cell? ⟨w.heap.size, j, none⟩ = (Fr_.C f)[j]? := fun p => p.ok.box.all
    have hlf : ∀ (p : Of (Stf w w.heap.size f)), (Fr_.LoadF ⟨w.heap.size, 0, none⟩).run Tryd.prog p.w = .ok (Fr_.v f) p.w := fun p => p.ok.box.loadF
    have _ne : Nonempty (Of (Stf w w.heap.size f)) := ⟨⟨_, S2.out⟩⟩
    refine wp_region_of (Stf w w.heap.size f) (by kernel_rfl) (by kernel_rfl) S2.out.drew ?_
    repeat (quiet_step (first
      | (go_at_call 27; exact Calls.of_below Stf.keep (CN.out _ (Stf.bel (Of.ok _))))
      | (go_at_call 28; exact Calls.of_below Stf.keep (CT.out _))
      | (go_at_call 29; exact Calls.of_below Stf.keep (CS.out _))
      | (go_at_call 30; with_reducible exact Calls.of_below Stf.keep (I1.out _ (Stf.bel (Of.ok _))))
      | (go_at_call 30; with_reducible exact Calls.of_below Stf.keep (I2.out _ (Stf.bel (Of.ok _))))
      | (go_at_call 30; with_reducible exact Calls.of_below Stf.keep (I3.out _ (Stf.bel (Of.ok _))))
      | (go_at_call 30; with_reducible exact Calls.of_below Stf.keep (I4.out _ (Stf.bel (Of.ok _))))
      | (go_at_call 31; exact Calls.of_below Stf.keep (CF.out _))))
    refine wpQuiet_nil ?_
    rintro _ ⟨p, rfl⟩
    go_wp2
    go_returns
    exact ⟨rfl, p.ok.bel⟩
  · rw [show Go.Fm.text f = ⟨#[]⟩ from if_neg h0]
    have hne : (chk f != 0) = true := by rw [bne_iff_ne]; exact h0
    generalize chk f = c at *
    clear ht hp hu h0
    go_enter Tryd.func12, Tryd.ntmps12
    go_wp2_with (go_at_call 17; refine (CC.out _ S1.out.bel).mono ?_; rintro e w2 ⟨rfl, hb⟩; have S2 := Lib.hid (Stf.keep _ _ S1.out hb); clear hb e1)
    go_returns
    exact ⟨rfl, S2.out.bel⟩
end Go.Proofs.YtkhnhlahfedkhaaDoor
