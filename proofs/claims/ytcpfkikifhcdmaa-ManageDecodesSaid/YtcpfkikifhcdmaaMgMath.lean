/-
  BODIES OF MANAGEMENT FRAMES, checked and encoded (layer 15). Of no program.
-/
import Derived.Test.YtcpfkikifhcdmaaWrMath
import Derived.Test.YtcpfkikifhcdmaaAdMath
import Derived.WalkKit
namespace Go.Mg
open Go.Wr Go.Ad

structure Bd where
  kd : Int
  sp : Int
  st : Int
  hn : Int
  nm : ByteArray
  ls : Int
  dv : Int
  od : Int
  ai : Int
  ct : Int
  sr : Int
  sz : Int
  ch : Int
  cn : Int
  pf : Int
  pp : Int
  pl : Int
  deriving DecidableEq
def zb : Bd := ⟨0, 0, 0, 0, ⟨#[]⟩, 0, 0, 0, 0, 0, 0, 0, 0, 0, 0, 0, 0⟩
/-- What the type lets in. -/
def BdW (b : Bd) : Prop := 0 ≤ b.od ∧ b.od < 18446744073709551616
def isK (k : Int) : Prop := 1 ≤ k ∧ k ≤ 12
instance (k : Int) : Decidable (isK k) := inferInstanceAs (Decidable (_ ∧ _))
theorem kinds {k : Int} (h : isK k) : k = 1 ∨ k = 2 ∨ k = 3 ∨ k = 4 ∨ k = 5 ∨ k = 6 ∨ k = 7 ∨ k = 8 ∨ k = 9 ∨ k = 10 ∨ k = 11 ∨ k = 12 := by
  obtain ⟨h1, h2⟩ := h; omega
/-- The fields that a kind uses, as a number. -/
def us (k : Int) : Int := if k = 1 then 7 else if k = 2 then 56 else if k = 3 then 120 else if k = 4 then 130 else if k = 5 then 2 else if k = 6 then 1792 else if k = 7 then 1282 else if k = 8 then 258 else if k = 9 then 6144 else if k = 10 then 8192 else if k = 11 then 8194 else if k = 12 then 4160 else 0
theorem us_out {k : Int} (h : ¬ isK k) : us k = 0 := by
  unfold isK at h
  unfold us
  rw [if_neg (by omega), if_neg (by omega), if_neg (by omega), if_neg (by omega), if_neg (by omega), if_neg (by omega), if_neg (by omega), if_neg (by omega), if_neg (by omega), if_neg (by omega), if_neg (by omega), if_neg (by omega)]
theorem us_in {k : Int} (h : isK k) : us k ≠ 0 := by
  rcases kinds h with rfl | rfl | rfl | rfl | rfl | rfl | rfl | rfl | rfl | rfl | rfl | rfl <;> decide
/-- The first kind of frame that carries bodies of a kind. -/
def frk (k : Int) : Int := if k = 1 then 4 else if k = 2 then 5 else if k = 3 then 7 else if k = 4 then 6 else if k = 5 then 9 else if 5 < k ∧ k ≤ 12 then 11 else 0
/-- The first kind of frame that carries the same bodies. -/
def fst (k : Int) : Int := if k = 8 then 6 else if k = 10 then 9 else if k = 4 ∨ k = 5 ∨ k = 7 ∨ k = 6 ∨ k = 9 ∨ k = 11 then k else 0
/-- Frames of kind k carry bodies of kind c. -/
def car (k c : Int) : Bool := decide (frk c ≠ 0 ∧ (k = frk c ∨ (c = 4 ∧ k = 8) ∨ (c = 5 ∧ k = 10)))
theorem frk_out {k : Int} (h : ¬ isK k) : frk k = 0 := by
  unfold isK at h
  unfold frk
  rw [if_neg (by omega), if_neg (by omega), if_neg (by omega), if_neg (by omega), if_neg (by omega), if_neg (by omega)]
theorem frk_in {k : Int} (h : isK k) : frk k ≠ 0 := by
  rcases kinds h with rfl | rfl | rfl | rfl | rfl | rfl | rfl | rfl | rfl | rfl | rfl | rfl <;> decide
theorem fst_vals (k : Int) : (k = 8 ∧ fst k = 6) ∨ (k = 10 ∧ fst k = 9) ∨ ((k = 4 ∨ k = 5 ∨ k = 7 ∨ k = 6 ∨ k = 9 ∨ k = 11) ∧ fst k = k) ∨ (¬ (k = 4 ∨ k = 5 ∨ k = 6 ∨ k = 7 ∨ k = 8 ∨ k = 9 ∨ k = 10 ∨ k = 11) ∧ fst k = 0) := by
  unfold fst
  split
  · exact .inl ⟨by assumption, rfl⟩
  · split
    · exact .inr (.inl ⟨by assumption, rfl⟩)
    · split
      · exact .inr (.inr (.inl ⟨by assumption, rfl⟩))
      · exact .inr (.inr (.inr ⟨by omega, rfl⟩))
/-- A frame carries a body exactly if its first kind is the body's, and there is one. -/
theorem car_iff (k c : Int) : car k c = true ↔ fst k ≠ 0 ∧ frk c = fst k := by
  unfold car
  rw [decide_eq_true_iff]
  by_cases hc : isK c
  · rcases fst_vals k with ⟨rfl, h⟩ | ⟨rfl, h⟩ | ⟨hk, h⟩ | ⟨hk, h⟩
    all_goals
      rw [h]
      rcases kinds hc with rfl | rfl | rfl | rfl | rfl | rfl | rfl | rfl | rfl | rfl | rfl | rfl
      all_goals
        simp [frk]
        try omega
  · rw [frk_out hc]
    constructor
    · intro h; exact absurd rfl h.1
    · intro h; exact absurd h.2.symm h.1
theorem fst_frk {c : Int} (h : isK c) : fst (frk c) = frk c ∧ car (frk c) c = true := by
  rcases kinds h with rfl | rfl | rfl | rfl | rfl | rfl | rfl | rfl | rfl | rfl | rfl | rfl <;> exact ⟨by decide, by decide⟩

def wn (n lo hi : Int) : Bool := decide (lo ≤ n) && decide (n ≤ hi)
theorem wn_iff {n lo hi : Int} : wn n lo hi = true ↔ lo ≤ n ∧ n ≤ hi := by unfold wn; simp
/-- A valid address of one node. -/
def sgl (a : Int) : Bool := vald a.toNat && !grp a.toNat
def pz (b : Bd) : Bool := decide (b.pf = 0 ∧ b.pp = 0 ∧ b.pl = 0)
/-- The plan is in range. -/
def plf (b : Bd) : Bool := wn b.pf 0 16777216 && (wn b.pp 1 65535 && wn b.pl 1 b.pp)
/-- A response that refuses has none. -/
def wop (b : Bd) : Bool := decide (b.kd = 11) && (b.st != 0 && pz b)
/-- The part that the kind uses. -/
def usB (b : Bd) : Bd :=
  if b.kd = 1 then { zb with kd := b.kd, sp := b.sp, st := b.st, hn := b.hn }
  else if b.kd = 2 then { zb with kd := b.kd, nm := b.nm, ls := b.ls, dv := b.dv }
  else if b.kd = 3 then { zb with kd := b.kd, nm := b.nm, ls := b.ls, dv := b.dv, od := b.od }
  else if b.kd = 4 then { zb with kd := b.kd, st := b.st, ai := b.ai }
  else if b.kd = 5 then { zb with kd := b.kd, st := b.st }
  else if b.kd = 6 then { zb with kd := b.kd, ct := b.ct, sr := b.sr, sz := b.sz }
  else if b.kd = 7 then { zb with kd := b.kd, ct := b.ct, st := b.st, sz := b.sz }
  else if b.kd = 8 then { zb with kd := b.kd, ct := b.ct, st := b.st }
  else if b.kd = 9 then { zb with kd := b.kd, ch := b.ch, cn := b.cn }
  else if b.kd = 10 then { zb with kd := b.kd, pf := b.pf, pp := b.pp, pl := b.pl }
  else if b.kd = 11 then { zb with kd := b.kd, pf := b.pf, pp := b.pp, pl := b.pl, st := b.st }
  else if b.kd = 12 then { zb with kd := b.kd, od := b.od, cn := b.cn }
  else { zb with kd := b.kd }
def rng (b : Bd) : Bool :=
  if b.kd = 1 then wn b.sp 1 4 && wn b.st 0 255 && wn b.hn 0 65535
  else if b.kd = 2 then decide (b.nm.size ≠ 0) && wn b.ls 1 255 && wn b.dv 0 15
  else if b.kd = 3 then decide (b.nm.size ≠ 0) && wn b.ls 1 255 && wn b.dv 0 15 && sgl b.od
  else if b.kd = 4 then wn b.st 0 255 && wn b.ai 0 63
  else if b.kd = 5 then wn b.st 0 255
  else if b.kd = 6 then wn b.ct 0 3 && wn b.sr 0 4095 && wn b.sz 1 64
  else if b.kd = 7 then wn b.ct 0 3 && wn b.st 0 255 && wn b.sz 0 64
  else if b.kd = 8 then wn b.ct 0 3 && wn b.st 0 255
  else if b.kd = 9 then wn b.ch 1 8 && wn b.cn 0 255
  else if b.kd = 10 then plf b
  else if b.kd = 11 then wn b.st 0 255 && (plf b || wop b)
  else sgl b.od && wn b.cn 0 255
def chk (b : Bd) : Int := if isK b.kd ∧ usB b = b then (if rng b = true then (if 32 < b.nm.size then 2 else 0) else 4) else 3
theorem chk_ok {b : Bd} : chk b = 0 ↔ isK b.kd ∧ usB b = b ∧ rng b = true ∧ b.nm.size ≤ 32 := by
  unfold chk
  by_cases h1 : isK b.kd ∧ usB b = b
  · rw [if_pos h1]
    by_cases h2 : rng b = true
    · rw [if_pos h2]
      by_cases h3 : 32 < b.nm.size
      · rw [if_pos h3]; constructor
        · intro h; exact absurd h (by decide)
        · intro h; omega
      · rw [if_neg h3]; exact ⟨fun _ => ⟨h1.1, h1.2, h2, by omega⟩, fun _ => rfl⟩
    · rw [if_neg h2]; constructor
      · intro h; exact absurd h (by decide)
      · intro h; exact absurd h.2.2.1 h2
  · rw [if_neg h1]; constructor
    · intro h; exact absurd h (by decide)
    · intro h; exact absurd ⟨h.1, h.2.1⟩ h1

/-! ### Octets -/
def ow (z : Int) (k : Nat) : List UInt8 := le z.toNat k
def pln (b : Bd) : List UInt8 := ow b.pf 4 ++ (ow b.pp 4 ++ ow b.pl 4)
def nmo (b : Bd) : List UInt8 := ow b.nm.size 1 ++ (b.nm.data.toList ++ (ow b.ls 1 ++ ow b.dv 1))
/-- The octets of the fields. -/
def rst (b : Bd) : List UInt8 :=
  if b.kd = 1 then ow b.sp 1 ++ (ow b.st 1 ++ ow b.hn 2)
  else if b.kd = 2 then nmo b
  else if b.kd = 3 then nmo b ++ be b.od.toNat
  else if b.kd = 4 then ow b.st 1 ++ ow b.ai 1
  else if b.kd = 5 then ow b.st 1
  else if b.kd = 6 then ow b.ct 1 ++ (ow b.sr 2 ++ ow b.sz 1)
  else if b.kd = 7 then ow b.ct 1 ++ (ow b.st 1 ++ ow b.sz 1)
  else if b.kd = 8 then ow b.ct 1 ++ ow b.st 1
  else if b.kd = 9 then ow b.ch 1 ++ ow b.cn 1
  else if b.kd = 10 then pln b
  else if b.kd = 11 then pln b ++ ow b.st 1
  else be b.od.toNat ++ ow b.cn 1
def octs (b : Bd) : List UInt8 := ow b.kd 1 ++ rst b
/-- A string out of octets (a word). -/
def oz (l : List UInt8) : ByteArray := ⟨l.toArray⟩
def enc (b : Bd) : ByteArray := if chk b = 0 then oz (octs b) else ⟨#[]⟩
theorem oz_size (l : List UInt8) : (oz l).size = l.length := by simp [oz, ByteArray.size]
theorem oz_list (l : List UInt8) : (oz l).data.toList = l := rfl
theorem oz_of (s : ByteArray) : oz s.data.toList = s := by unfold oz; simp
theorem ow_len (z : Int) (k : Nat) : (ow z k).length = k := le_len _ _
theorem nm_len (b : Bd) : b.nm.data.toList.length = b.nm.size := Array.length_toList
theorem octs_len (b : Bd) (h : b.nm.size ≤ 3000) : (octs b).length ≤ 3010 := by
  have hl := nm_len b
  have hr : (rst b).length ≤ 3009 := by
    have h1 : (pln b).length = 12 := by unfold pln; simp only [List.length_append, ow_len]
    have h2 : (nmo b).length = b.nm.size + 3 := by unfold nmo; simp only [List.length_append, ow_len, hl]; omega
    unfold rst
    by_cases k1 : b.kd = 1
    · rw [if_pos k1]; simp only [List.length_append, ow_len]; omega
    rw [if_neg k1]
    by_cases k2 : b.kd = 2
    · rw [if_pos k2, h2]; omega
    rw [if_neg k2]
    by_cases k3 : b.kd = 3
    · rw [if_pos k3, List.length_append, h2, be_len]; omega
    rw [if_neg k3]
    by_cases k4 : b.kd = 4
    · rw [if_pos k4]; simp only [List.length_append, ow_len]; omega
    rw [if_neg k4]
    by_cases k5 : b.kd = 5
    · rw [if_pos k5, ow_len]; omega
    rw [if_neg k5]
    by_cases k6 : b.kd = 6
    · rw [if_pos k6]; simp only [List.length_append, ow_len]; omega
    rw [if_neg k6]
    by_cases k7 : b.kd = 7
    · rw [if_pos k7]; simp only [List.length_append, ow_len]; omega
    rw [if_neg k7]
    by_cases k8 : b.kd = 8
    · rw [if_pos k8]; simp only [List.length_append, ow_len]; omega
    rw [if_neg k8]
    by_cases k9 : b.kd = 9
    · rw [if_pos k9]; simp only [List.length_append, ow_len]; omega
    rw [if_neg k9]
    by_cases k10 : b.kd = 10
    · rw [if_pos k10, h1]; omega
    rw [if_neg k10]
    by_cases k11 : b.kd = 11
    · rw [if_pos k11, List.length_append, h1, ow_len]; omega
    rw [if_neg k11, List.length_append, be_len, ow_len]; omega
  unfold octs
  rw [List.length_append, ow_len]
  omega
/-- The numbers of a valid body fit into their octets. -/
structure Fit (b : Bd) : Prop where
  kd : 1 ≤ b.kd ∧ b.kd ≤ 12
  sp : 0 ≤ b.sp ∧ b.sp ≤ 255
  st : 0 ≤ b.st ∧ b.st ≤ 255
  hn : 0 ≤ b.hn ∧ b.hn ≤ 65535
  nm : b.nm.size ≤ 32
  ls : 0 ≤ b.ls ∧ b.ls ≤ 255
  dv : 0 ≤ b.dv ∧ b.dv ≤ 255
  od : 0 ≤ b.od ∧ b.od < 281474976710656
  ai : 0 ≤ b.ai ∧ b.ai ≤ 255
  ct : 0 ≤ b.ct ∧ b.ct ≤ 255
  sr : 0 ≤ b.sr ∧ b.sr ≤ 65535
  sz : 0 ≤ b.sz ∧ b.sz ≤ 255
  ch : 0 ≤ b.ch ∧ b.ch ≤ 255
  cn : 0 ≤ b.cn ∧ b.cn ≤ 255
  pf : 0 ≤ b.pf ∧ b.pf ≤ 16777216
  pp : 0 ≤ b.pp ∧ b.pp ≤ 65535
  pl : 0 ≤ b.pl ∧ b.pl ≤ 65535
theorem sgl_lt {a : Int} (h : sgl a = true) : a < 281474976710656 := by
  unfold sgl vald at h
  simp at h
  omega
theorem ext_iff (a b : Bd) : a = b ↔ a.kd = b.kd ∧ a.sp = b.sp ∧ a.st = b.st ∧ a.hn = b.hn ∧ a.nm = b.nm ∧ a.ls = b.ls ∧ a.dv = b.dv ∧ a.od = b.od ∧ a.ai = b.ai ∧ a.ct = b.ct ∧ a.sr = b.sr ∧ a.sz = b.sz ∧ a.ch = b.ch ∧ a.cn = b.cn ∧ a.pf = b.pf ∧ a.pp = b.pp ∧ a.pl = b.pl := by
  cases a; cases b; simp
theorem plf_le {b : Bd} (h : plf b = true) : (0 ≤ b.pf ∧ b.pf ≤ 16777216) ∧ (0 ≤ b.pp ∧ b.pp ≤ 65535) ∧ (0 ≤ b.pl ∧ b.pl ≤ 65535) := by
  unfold plf at h
  rw [Bool.and_eq_true, Bool.and_eq_true, wn_iff, wn_iff, wn_iff] at h
  omega
theorem plf_wop {b : Bd} (h : (plf b || wop b) = true) : (0 ≤ b.pf ∧ b.pf ≤ 16777216) ∧ (0 ≤ b.pp ∧ b.pp ≤ 65535) ∧ (0 ≤ b.pl ∧ b.pl ≤ 65535) := by
  rw [Bool.or_eq_true] at h
  rcases h with h | h
  · exact plf_le h
  · unfold wop pz at h
    simp at h
    omega
theorem fit {b : Bd} (hw : BdW b) (h : chk b = 0) : Fit b := by
  obtain ⟨hk, hu, hr, hn⟩ := chk_ok.1 h
  have hs := sgl_lt (a := b.od)
  have hw0 := hw.1
  have hp1 := plf_le (b := b)
  have hp2 := plf_wop (b := b)
  have hz : zb.kd = 0 ∧ zb.sp = 0 ∧ zb.st = 0 ∧ zb.hn = 0 ∧ zb.nm.size = 0 ∧ zb.ls = 0 ∧ zb.dv = 0 ∧ zb.od = 0 ∧ zb.ai = 0 ∧ zb.ct = 0 ∧ zb.sr = 0 ∧ zb.sz = 0 ∧ zb.ch = 0 ∧ zb.cn = 0 ∧ zb.pf = 0 ∧ zb.pp = 0 ∧ zb.pl = 0 := by decide
  generalize hd : b.kd = k at hk
  rw [ext_iff] at hu
  unfold usB at hu
  unfold rng at hr
  generalize zb = z at *
  obtain ⟨z0, z1, z2, z3, z4, z5, z6, z7, z8, z9, z10, z11, z12, z13, z14, z15, z16⟩ := hz
  rcases kinds hk with rfl | rfl | rfl | rfl | rfl | rfl | rfl | rfl | rfl | rfl | rfl | rfl
  all_goals
    simp only [hd, Int.reduceEq, if_true, if_false] at hu hr
    first | simp only [Bool.and_eq_true, wn_iff] at hr | skip
    first | have hs := hs hr.2 | have hs := hs hr.1 | skip
    first | have hp := hp1 hr | have hp := hp2 hr.2 | skip
    constructor <;> first | omega | (have := hu.2.2.2.2.1; rw [← this]; omega)
end Go.Mg
