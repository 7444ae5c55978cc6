/-
  BEACONS (of no program): layer 14. The check, the elements, the octets; what octets mean; the round trips.
-/
import Derived.Test.YtojiffpmmgjpjaaDoorElMath
import Derived.Test.YtojiffpmmgjpjaaDoorTmMath
import Derived.Test.YtojiffpmmgjpjaaDoorWrMath
namespace Go.Bn
open Go.Wr
open Go.Em (El)
open Go.Tm (Tm)

structure Pr where
  a : Int
  i : Int
  x : Int
  t : Int
structure Bn where
  st : Int
  iv : Int
  nm : ByteArray
  ch : Int
  ld : Int
  tm : Tm
  sc : Int
  sn : Int
  p0 : Pr
  p1 : Pr
  p2 : Pr
  p3 : Pr
def zp : Pr := ⟨0, 0, 0, 0⟩
/-- The zero beacon. -/
def zb : Bn := ⟨0, 0, ⟨#[]⟩, 0, 0, Go.Tm.zt, 0, 0, zp, zp, zp, zp⟩
def Bn.pr (b : Bn) : Nat → Pr
  | 0 => b.p0
  | 1 => b.p1
  | 2 => b.p2
  | _ => b.p3
def Bn.setPr (b : Bn) (k : Nat) (p : Pr) : Bn :=
  match k with
  | 0 => { b with p0 := p }
  | 1 => { b with p1 := p }
  | 2 => { b with p2 := p }
  | _ => { b with p3 := p }

def wn (n lo hi : Int) : Bool := decide (lo ≤ n) && decide (n ≤ hi)
theorem wn_iff {n lo hi : Int} : wn n lo hi = true ↔ lo ≤ n ∧ n ≤ hi := by unfold wn; simp
theorem wn_not {n lo hi : Int} : wn n lo hi = false ↔ ¬ (lo ≤ n ∧ n ≤ hi) := by rw [← wn_iff]; cases wn n lo hi <;> simp
def prOk (p : Pr) : Bool := wn p.a 2 15 && (wn p.i 0 p.x && (decide (p.x ≤ 10) && wn p.t 0 32767))
theorem prOk_iff {p : Pr} : prOk p = true ↔ (2 ≤ p.a ∧ p.a ≤ 15) ∧ (0 ≤ p.i ∧ p.i ≤ p.x) ∧ p.x ≤ 10 ∧ 0 ≤ p.t ∧ p.t ≤ 32767 := by
  unfold prOk; simp [wn_iff]
def chkP (p : Pr) : Int := if prOk p = true then 0 else 4
/-- The first k categories are valid. -/
def oks (b : Bn) : Nat → Bool
  | 0 => true
  | k + 1 => oks b k && prOk (b.pr k)
def chkPs (b : Bn) : Int := if oks b 4 = true then 0 else 4
def chkS (c n : Int) : Int := if (wn c 0 8 && wn n 0 255) = true then (if c = 0 ∧ ¬ n = 0 then 3 else 0) else 4
def chkT (t : Tm) : Int := Go.Tm.chk t.c t.p t.m.toNat
def chk (b : Bn) : Int :=
  if (wn b.st 0 16777216 && wn b.iv 1 65535) = true then
    if b.nm.size = 0 then 1 else if 32 < b.nm.size then 2 else
    if (wn b.ch 1 8 && wn b.ld 0 65535) = true then
      if chkT b.tm = 0 then
        if chkS b.sc b.sn = 0 then chkPs b else chkS b.sc b.sn
      else chkT b.tm
    else 4
  else 4
theorem chkS_ok {c n : Int} : chkS c n = 0 ↔ (0 ≤ c ∧ c ≤ 8) ∧ (0 ≤ n ∧ n ≤ 255) ∧ ¬ (c = 0 ∧ ¬ n = 0) := by
  unfold chkS
  constructor
  · intro h
    split at h
    · rename_i h1
      simp [wn_iff] at h1
      split at h
      · exact absurd h (by decide)
      · rename_i h2; exact ⟨h1.1, h1.2, h2⟩
    · exact absurd h (by decide)
  · rintro ⟨h1, h2, h3⟩
    rw [if_pos (by simp [wn_iff]; exact ⟨h1, h2⟩), if_neg h3]
theorem oks_four {b : Bn} : oks b 4 = true ↔ prOk b.p0 = true ∧ prOk b.p1 = true ∧ prOk b.p2 = true ∧ prOk b.p3 = true := by
  simp [oks, Bn.pr, and_assoc]
theorem oks_all {b : Bn} : oks b 4 = true ↔ ∀ k, k < 4 → prOk (b.pr k) = true := by
  rw [oks_four]
  constructor
  · rintro ⟨h0, h1, h2, h3⟩ k hk
    match k, hk with
    | 0, _ => exact h0
    | 1, _ => exact h1
    | 2, _ => exact h2
    | 3, _ => exact h3
  · intro h; exact ⟨h 0 (by decide), h 1 (by decide), h 2 (by decide), h 3 (by decide)⟩
/-- A valid beacon. -/
structure Ok (b : Bn) : Prop where
  st : 0 ≤ b.st ∧ b.st ≤ 16777216
  iv : 1 ≤ b.iv ∧ b.iv ≤ 65535
  nm : 1 ≤ b.nm.size ∧ b.nm.size ≤ 32
  ch : 1 ≤ b.ch ∧ b.ch ≤ 8
  ld : 0 ≤ b.ld ∧ b.ld ≤ 65535
  tm : chkT b.tm = 0
  sw : (0 ≤ b.sc ∧ b.sc ≤ 8) ∧ (0 ≤ b.sn ∧ b.sn ≤ 255) ∧ ¬ (b.sc = 0 ∧ ¬ b.sn = 0)
  ps : prOk b.p0 = true ∧ prOk b.p1 = true ∧ prOk b.p2 = true ∧ prOk b.p3 = true
theorem chk_ok {b : Bn} : chk b = 0 ↔ Ok b := by
  constructor
  · intro h
    unfold chk at h
    split at h
    · rename_i h1
      simp [wn_iff] at h1
      split at h
      · exact absurd h (by decide)
      · rename_i h2
        split at h
        · exact absurd h (by decide)
        · rename_i h3
          split at h
          · rename_i h4
            simp [wn_iff] at h4
            split at h
            · rename_i h5
              split at h
              · rename_i h6
                unfold chkPs at h
                split at h
                · rename_i h7
                  exact ⟨h1.1, h1.2, ⟨by omega, by omega⟩, h4.1, h4.2, h5, chkS_ok.1 h6, oks_four.1 h7⟩
                · exact absurd h (by decide)
              · rename_i h6; exact absurd h h6
            · rename_i h5; exact absurd h h5
          · exact absurd h (by decide)
    · exact absurd h (by decide)
  · intro h
    unfold chk chkPs
    rw [if_pos (by simp [wn_iff]; exact ⟨h.st, h.iv⟩), if_neg (by have := h.nm; omega), if_neg (by have := h.nm; omega), if_pos (by simp [wn_iff]; exact ⟨h.ch, h.ld⟩), if_pos h.tm, if_pos (chkS_ok.2 h.sw), if_pos (oks_four.2 h.ps)]

/-! The octets. -/
/-- A string out of octets (a word). -/
def oz (l : List UInt8) : ByteArray := ⟨l.toArray⟩
theorem oz_size (l : List UInt8) : (oz l).size = l.length := by simp [oz, ByteArray.size]
theorem oz_list (l : List UInt8) : (oz l).data.toList = l := by simp [oz]
theorem oz_of (s : ByteArray) : oz s.data.toList = s := Go.Em.ba_ext (by simp [oz])
def prL (p : Pr) : List UInt8 := le p.a.toNat 1 ++ le p.i.toNat 1 ++ le p.x.toNat 1 ++ le p.t.toNat 2
theorem prL_len (p : Pr) : (prL p).length = 5 := by simp [prL, le_len]
/-- The octets of the first k categories. -/
def psL (b : Bn) : Nat → List UInt8
  | 0 => []
  | k + 1 => psL b k ++ prL (b.pr k)
theorem psL_len (b : Bn) : ∀ k, (psL b k).length = 5 * k
  | 0 => rfl
  | k + 1 => by rw [psL, List.length_append, psL_len b k, prL_len]; omega
def els5 (b : Bn) : List El := [⟨0, b.nm⟩, ⟨3, oz (le b.ch.toNat 1)⟩, ⟨5, Go.Tm.enc b.tm.c b.tm.p b.tm.g b.tm.m.toNat⟩, ⟨11, oz (le b.ld.toNat 2)⟩, ⟨12, oz (psL b 4)⟩]
def elS (b : Bn) : El := ⟨37, oz (le b.sc.toNat 1 ++ le b.sn.toNat 1)⟩
def els (b : Bn) : List El := if b.sc = 0 then els5 b else els5 b ++ [elS b]
/-- The octets of a beacon with other elements. -/
def octs (b : Bn) (l : List El) : ByteArray := oz (le b.st.toNat 4 ++ le b.iv.toNat 2 ++ (Go.Em.enc l).data.toList)
def enc (b : Bn) : ByteArray := octs b (els b)
def encR (b : Bn) : ByteArray := if chk b = 0 then enc b else ⟨#[]⟩

/-! What octets mean. -/
def ids : List Int := [0, 3, 5, 11, 12, 37]
def kn (id : Int) : Bool := ids.contains id
theorem kn_iff {id : Int} : kn id = true ↔ id = 0 ∨ id = 3 ∨ id = 5 ∨ id = 11 ∨ id = 12 ∨ id = 37 := by
  unfold kn ids; simp
def knl (l : List El) : List El := l.filter fun e => kn e.id
def ord (l : List El) : Bool := decide (l.length = 5 ∨ l.length = 6) && decide (l.map (·.id) = ids.take l.length)
def sz1 (s : ByteArray) (n : Nat) : Int := if s.size < n then 1 else if n < s.size then 2 else 0
def num (s : ByteArray) (i k : Nat) : Int := ((val ((s.data.toList.drop i).take k) : Nat) : Int)
def prAt (s : ByteArray) (i : Nat) : Pr := ⟨num s i 1, num s (i + 1) 1, num s (i + 2) 1, num s (i + 3) 2⟩
/-- The error of an element. -/
def elE (e : El) : Int :=
  if e.id = 0 then 0 else if e.id = 3 then sz1 e.s 1 else if e.id = 5 then (Go.Tm.dec e.s).2 else if e.id = 11 then sz1 e.s 2 else if e.id = 12 then sz1 e.s 20 else sz1 e.s 2
/-- A beacon with what an element says. -/
def elB (b : Bn) (e : El) : Bn :=
  if e.id = 0 then { b with nm := e.s } else if e.id = 3 then { b with ch := num e.s 0 1 } else if e.id = 5 then { b with tm := (Go.Tm.dec e.s).1 } else if e.id = 11 then { b with ld := num e.s 0 2 }
  else if e.id = 12 then { b with p0 := prAt e.s 0, p1 := prAt e.s 5, p2 := prAt e.s 10, p3 := prAt e.s 15 } else { b with sc := num e.s 0 1, sn := num e.s 1 1 }
def lsE : List El → Int
  | [] => 0
  | e :: l => if elE e = 0 then lsE l else elE e
def lsB (b : Bn) (l : List El) : Bn := l.foldl elB b
def hdB (s : ByteArray) : Bn := { zb with st := num s 0 4, iv := num s 4 2 }
/-- The error behind the elements. -/
def swE (b : Bn) (l : List El) : Int := if lsE l = 0 then (if l.length = 6 ∧ (lsB b l).sc = 0 then 3 else 0) else lsE l
/-- What is read of a string, and what then is wrong. -/
def rdE (s : ByteArray) : Int :=
  if s.size < 6 then 1 else if (Go.Em.dec (s.extract 6 s.size)).2 = 0 then (if ord (knl (Go.Em.dec (s.extract 6 s.size)).1) = true then swE (hdB s) (knl (Go.Em.dec (s.extract 6 s.size)).1) else 3) else (Go.Em.dec (s.extract 6 s.size)).2
def rdB (s : ByteArray) : Bn := lsB (hdB s) (knl (Go.Em.dec (s.extract 6 s.size)).1)
def decE (s : ByteArray) : Int := if rdE s = 0 then chk (rdB s) else rdE s
def decB (s : ByteArray) : Bn := if decE s = 0 then rdB s else zb

/-! Lists in order. -/
theorem ord_iff {l : List El} : ord l = true ↔ ((∃ x0 x1 x2 x3 x4, l = [x0, x1, x2, x3, x4] ∧ x0.id = 0 ∧ x1.id = 3 ∧ x2.id = 5 ∧ x3.id = 11 ∧ x4.id = 12) ∨ (∃ x0 x1 x2 x3 x4 x5, l = [x0, x1, x2, x3, x4, x5] ∧ x0.id = 0 ∧ x1.id = 3 ∧ x2.id = 5 ∧ x3.id = 11 ∧ x4.id = 12 ∧ x5.id = 37)) := by
  unfold ord
  rw [Bool.and_eq_true, decide_eq_true_iff, decide_eq_true_iff]
  constructor
  · rintro ⟨h | h, hi⟩
    · left
      match l, h with
      | [x0, x1, x2, x3, x4], _ =>
        simp [ids] at hi
        exact ⟨x0, x1, x2, x3, x4, rfl, hi⟩
    · right
      match l, h with
      | [x0, x1, x2, x3, x4, x5], _ =>
        simp [ids] at hi
        exact ⟨x0, x1, x2, x3, x4, x5, rfl, hi⟩
  · rintro (⟨x0, x1, x2, x3, x4, rfl, h0, h1, h2, h3, h4⟩ | ⟨x0, x1, x2, x3, x4, x5, rfl, h0, h1, h2, h3, h4, h5⟩)
    · simp [ids, h0, h1, h2, h3, h4]
    · simp [ids, h0, h1, h2, h3, h4, h5]

theorem kn_el {e : El} (h : e.id = 0 ∨ e.id = 3 ∨ e.id = 5 ∨ e.id = 11 ∨ e.id = 12 ∨ e.id = 37) : kn e.id = true := kn_iff.2 h
theorem els_kn (b : Bn) : ∀ e ∈ els b, kn e.id = true := by
  intro e he
  unfold els at he
  split at he
  · simp [els5] at he; rcases he with rfl | rfl | rfl | rfl | rfl <;> rfl
  · simp [els5, elS] at he; rcases he with rfl | rfl | rfl | rfl | rfl | rfl <;> rfl
theorem els_ord (b : Bn) : ord (els b) = true := by
  rw [ord_iff]
  unfold els
  split
  · exact .inl ⟨_, _, _, _, _, rfl, rfl, rfl, rfl, rfl, rfl⟩
  · exact .inr ⟨_, _, _, _, _, _, rfl, rfl, rfl, rfl, rfl, rfl, rfl⟩

theorem val_back (l : List UInt8) : le (val l) l.length = l := by
  induction l with
  | nil => rfl
  | cons x l ih =>
    have key : ∀ k n (x : UInt8), le (x.toNat + 256 * n) (k + 1) = x :: le n k := by
      intro k
      induction k with
      | zero =>
        intro n x
        simp only [le, List.nil_append, pow_zero, Nat.div_one]
        have : (x.toNat + 256 * n) % 256 = x.toNat := by have := x.toNat_lt; omega
        rw [this]; simp
      | succ k ihk =>
        intro n x
        rw [le, ihk, le, List.cons_append]
        have : (x.toNat + 256 * n) / pow (k + 1) = n / pow k := by
          rw [pow_succ, Nat.mul_comm (pow k) 256, ← Nat.div_div_eq_div_mul]
          have : (x.toNat + 256 * n) / 256 = n := by have := x.toNat_lt; omega
          rw [this]
        rw [this]
    rw [val, List.length_cons, key, ih]
theorem num_oz (l r m : List UInt8) (k : Nat) (hm : m.length = k) : num (oz (l ++ m ++ r)) l.length k = ((val m : Nat) : Int) := by
  unfold num
  rw [oz_list, List.append_assoc, List.drop_left, ← hm, List.take_left]
theorem num_eq {m n : List UInt8} {i k : Nat} {z : Int} (h : num (oz m) i k = z) (e : n = m) : num (oz n) i k = z := e ▸ h
theorem num_le {l r : List UInt8} {z : Int} {i k : Nat} (hl : l.length = i) (h0 : 0 ≤ z) (h1 : z < (pow k : Nat)) : num (oz (l ++ le z.toNat k ++ r)) i k = z := by
  rw [← hl, num_oz _ _ _ _ (le_len _ _), val_le_of_lt (by omega)]
  omega
theorem ex_list (s : ByteArray) (p : Nat) : (s.extract p s.size).data.toList = s.data.toList.drop p := by
  rw [ByteArray.data_extract, Array.toList_extract, List.extract_eq_take_drop]
  exact List.take_of_length_le (by rw [List.length_drop, Array.length_toList]; exact Nat.le_refl _)
theorem octs_tail (b : Bn) (l : List El) : (octs b l).extract 6 (octs b l).size = Go.Em.enc l := by
  refine Go.Em.ba_ext ?_
  rw [ex_list]
  unfold octs
  rw [oz_list, List.drop_append, List.drop_eq_nil_of_le (by simp [le_len]), List.nil_append]
  simp [le_len]
theorem octs_size (b : Bn) (l : List El) : (octs b l).size = 6 + (Go.Em.enc l).size := by
  unfold octs
  rw [oz_size, List.length_append, List.length_append, le_len, le_len, Array.length_toList]; rfl
theorem pow1 : pow 1 = 256 := by decide
theorem pow2 : pow 2 = 65536 := by decide
theorem pow4 : pow 4 = 4294967296 := by decide

theorem prAt_psL (l r : List UInt8) (p : Pr) (h : prOk p = true) (i : Nat) (hi : l.length = i) : prAt (oz (l ++ prL p ++ r)) i = p := by
  have hp := prOk_iff.1 h
  obtain ⟨a, n, x, t⟩ := p
  simp only at hp
  have p1 := pow1
  have p2 := pow2
  have e0 : num (oz (l ++ prL ⟨a, n, x, t⟩ ++ r)) i 1 = a := by
    have := num_le (l := l) (r := le n.toNat 1 ++ le x.toNat 1 ++ le t.toNat 2 ++ r) (z := a) (i := i) (k := 1) hi (by omega) (by omega)
    exact num_eq this (by simp [prL])
  have e1 : num (oz (l ++ prL ⟨a, n, x, t⟩ ++ r)) (i + 1) 1 = n := by
    have := num_le (l := l ++ le a.toNat 1) (r := le x.toNat 1 ++ le t.toNat 2 ++ r) (z := n) (i := i + 1) (k := 1) (by simp [le_len, hi]) (by omega) (by omega)
    exact num_eq this (by simp [prL])
  have e2 : num (oz (l ++ prL ⟨a, n, x, t⟩ ++ r)) (i + 2) 1 = x := by
    have := num_le (l := l ++ le a.toNat 1 ++ le n.toNat 1) (r := le t.toNat 2 ++ r) (z := x) (i := i + 2) (k := 1) (by simp [le_len, hi]) (by omega) (by omega)
    exact num_eq this (by simp [prL])
  have e3 : num (oz (l ++ prL ⟨a, n, x, t⟩ ++ r)) (i + 3) 2 = t := by
    have := num_le (l := l ++ le a.toNat 1 ++ le n.toNat 1 ++ le x.toNat 1) (r := r) (z := t) (i := i + 3) (k := 2) (by simp [le_len, hi]) (by omega) (by omega)
    exact num_eq this (by simp [prL])
  unfold prAt
  rw [e0, e1, e2, e3]

theorem prAt_eq {m n : List UInt8} {i : Nat} {z : Pr} (h : prAt (oz m) i = z) (e : n = m) : prAt (oz n) i = z := e ▸ h
/-- A map with a set of 64 bits. -/
def TmW (t : Tm) : Prop := 0 ≤ t.m ∧ t.m < 18446744073709551616
theorem tm_back {t : Tm} (hw : TmW t) (h : chkT t = 0) : Go.Tm.dec (Go.Tm.enc t.c t.p t.g t.m.toNat) = (t, 0) := by
  have := Go.Tm.dec_enc (c := t.c) (p := t.p) (g := t.g) (s := t.m.toNat) (by have := hw.2; omega) h
  rw [this, Int.toNat_of_nonneg hw.1]
theorem sz1_eq {s : ByteArray} {n : Nat} (h : s.size = n) : sz1 s n = 0 := by unfold sz1; rw [if_neg (by omega), if_neg (by omega)]
theorem sz1_zero {s : ByteArray} {n : Nat} (h : sz1 s n = 0) : s.size = n := by
  unfold sz1 at h
  split at h
  · exact absurd h (by decide)
  · split at h
    · exact absurd h (by decide)
    · omega

theorem els5_lsE {b : Bn} (h : Ok b) (hw : TmW b.tm) : ∀ l, lsE (els5 b ++ l) = lsE l := by
  intro l
  have e1 : sz1 (oz (le b.ch.toNat 1)) 1 = 0 := sz1_eq (by rw [oz_size, le_len])
  have e3 : sz1 (oz (le b.ld.toNat 2)) 2 = 0 := sz1_eq (by rw [oz_size, le_len])
  have e4 : sz1 (oz (psL b 4)) 20 = 0 := sz1_eq (by rw [oz_size, psL_len])
  have e2 : (Go.Tm.dec (Go.Tm.enc b.tm.c b.tm.p b.tm.g b.tm.m.toNat)).2 = 0 := by rw [tm_back hw h.tm]
  simp [els5, lsE, elE, e1, e2, e3, e4]
theorem els_lsE {b : Bn} (h : Ok b) (hw : TmW b.tm) : lsE (els b) = 0 := by
  unfold els
  split
  · have := els5_lsE h hw []; rw [List.append_nil] at this; exact this
  · rw [els5_lsE h hw]
    have e5 : sz1 (oz (le b.sc.toNat 1 ++ le b.sn.toNat 1)) 2 = 0 := sz1_eq (by rw [oz_size, List.length_append, le_len, le_len])
    simp [elS, lsE, elE, e5]
theorem bn_eta (b : Bn) : (⟨b.st, b.iv, b.nm, b.ch, b.ld, b.tm, b.sc, b.sn, b.p0, b.p1, b.p2, b.p3⟩ : Bn) = b := rfl
theorem els_lsB {b : Bn} (h : Ok b) (hw : TmW b.tm) (st iv : Int) (hst : st = b.st) (hiv : iv = b.iv) : lsB { zb with st := st, iv := iv } (els b) = b := by
  have p1 := pow1
  have p2 := pow2
  have hch := h.ch
  have hld := h.ld
  have hsw := h.sw
  have e1 : num (oz (le b.ch.toNat 1)) 0 1 = b.ch := by
    have := num_le (l := []) (r := []) (z := b.ch) (i := 0) (k := 1) rfl (by omega) (by omega)
    exact num_eq this (by simp)
  have e3 : num (oz (le b.ld.toNat 2)) 0 2 = b.ld := by
    have := num_le (l := []) (r := []) (z := b.ld) (i := 0) (k := 2) rfl (by omega) (by omega)
    exact num_eq this (by simp)
  have e2 : (Go.Tm.dec (Go.Tm.enc b.tm.c b.tm.p b.tm.g b.tm.m.toNat)).1 = b.tm := by rw [tm_back hw h.tm]
  have q0 : prAt (oz (psL b 4)) 0 = b.p0 := by
    have := prAt_psL [] (prL b.p1 ++ prL b.p2 ++ prL b.p3) b.p0 h.ps.1 0 rfl
    exact prAt_eq this (by simp [psL, Bn.pr])
  have q1 : prAt (oz (psL b 4)) 5 = b.p1 := by
    have := prAt_psL (prL b.p0) (prL b.p2 ++ prL b.p3) b.p1 h.ps.2.1 5 (prL_len _)
    exact prAt_eq this (by simp [psL, Bn.pr])
  have q2 : prAt (oz (psL b 4)) 10 = b.p2 := by
    have := prAt_psL (prL b.p0 ++ prL b.p1) (prL b.p3) b.p2 h.ps.2.2.1 10 (by simp [prL_len])
    exact prAt_eq this (by simp [psL, Bn.pr])
  have q3 : prAt (oz (psL b 4)) 15 = b.p3 := by
    have := prAt_psL (prL b.p0 ++ prL b.p1 ++ prL b.p2) [] b.p3 h.ps.2.2.2 15 (by simp [prL_len])
    exact prAt_eq this (by simp [psL, Bn.pr])
  unfold els
  split
  · rename_i h0
    have hsn : b.sn = 0 := by have := hsw.2.2; omega
    simp [els5, lsB, elB, e1, e2, e3, q0, q1, q2, q3]
    rw [hst, hiv, show zb.sc = b.sc from h0.symm, show zb.sn = b.sn from hsn.symm]
  · have e5 : num (oz (le b.sc.toNat 1 ++ le b.sn.toNat 1)) 0 1 = b.sc := by
      have := num_le (l := []) (r := le b.sn.toNat 1) (z := b.sc) (i := 0) (k := 1) rfl (by omega) (by omega)
      exact num_eq this (by simp)
    have e6 : num (oz (le b.sc.toNat 1 ++ le b.sn.toNat 1)) 1 1 = b.sn := by
      have := num_le (l := le b.sc.toNat 1) (r := []) (z := b.sn) (i := 1) (k := 1) (le_len _ _) (by omega) (by omega)
      exact num_eq this (by simp)
    simp [els5, elS, lsB, elB, e1, e2, e3, q0, q1, q2, q3, e5, e6, hst, hiv]

/-- What was encoded, with other elements among its own, is read. -/
theorem dec_octs {b : Bn} {L : List El} (h : chk b = 0) (hw : TmW b.tm) (hk : knl L = els b) (hc : Go.Em.chk L = 0) : decE (octs b L) = 0 ∧ decB (octs b L) = b := by
  have hb := chk_ok.1 h
  have p2 := pow2
  have p4 := pow4
  have hst := hb.st
  have hiv := hb.iv
  have n0 : num (octs b L) 0 4 = b.st := by
    have := num_le (l := []) (r := le b.iv.toNat 2 ++ (Go.Em.enc L).data.toList) (z := b.st) (i := 0) (k := 4) rfl (by omega) (by omega)
    unfold octs; exact num_eq this (by simp)
  have n1 : num (octs b L) 4 2 = b.iv := by
    have := num_le (l := le b.st.toNat 4) (r := (Go.Em.enc L).data.toList) (z := b.iv) (i := 4) (k := 2) (le_len _ _) (by omega) (by omega)
    unfold octs; exact num_eq this rfl
  have hd : Go.Em.dec ((octs b L).extract 6 (octs b L).size) = (L, 0) := by rw [octs_tail]; exact Go.Em.dec_enc hc
  have hB : lsB (hdB (octs b L)) (els b) = b := els_lsB hb hw _ _ n0 n1
  have hr : rdE (octs b L) = 0 := by
    unfold rdE swE
    rw [if_neg (by rw [octs_size]; omega), hd, hk, if_pos rfl, if_pos (els_ord b), if_pos (els_lsE hb hw), hB]
    refine if_neg ?_
    rintro ⟨h1, h2⟩
    unfold els at h1
    rw [if_pos h2] at h1
    exact absurd h1 (by simp [els5])
  have hrb : rdB (octs b L) = b := by unfold rdB; rw [hd, hk]; exact hB
  have hE : decE (octs b L) = 0 := by unfold decE; rw [if_pos hr, hrb, h]
  exact ⟨hE, by unfold decB; rw [if_pos hE, hrb]⟩

theorem le_num {s : ByteArray} {i k : Nat} (h : i + k ≤ s.size) : le (num s i k).toNat k = (s.data.toList.drop i).take k := by
  unfold num
  have := val_back ((s.data.toList.drop i).take k)
  rw [List.length_take, List.length_drop, Array.length_toList, Nat.min_eq_left (by have : s.data.size = s.size := rfl; omega)] at this
  simpa using this
theorem take_all {s : ByteArray} {n : Nat} (h : s.size = n) : oz (s.data.toList.take n) = s := by
  rw [List.take_of_length_le (by rw [Array.length_toList]; exact Nat.le_of_eq h), oz_of]
theorem one_back {s : ByteArray} {n : Nat} (h : s.size = n) : oz (le (num s 0 n).toNat n) = s := by
  rw [le_num (by omega), List.drop_zero, take_all h]
theorem take_add {l : List UInt8} {i k : Nat} : l.take i ++ (l.drop i).take k = l.take (i + k) := (List.take_add ..).symm
theorem pr_back {s : ByteArray} {i : Nat} (h : i + 5 ≤ s.size) : s.data.toList.take i ++ prL (prAt s i) = s.data.toList.take (i + 5) := by
  unfold prL prAt
  simp only
  rw [le_num (by omega), le_num (by omega), le_num (by omega), le_num (by omega)]
  rw [← List.append_assoc, ← List.append_assoc, ← List.append_assoc, take_add, take_add, take_add, take_add]
theorem sw_back {s : ByteArray} (h : s.size = 2) : oz (le (num s 0 1).toNat 1 ++ le (num s 1 1).toNat 1) = s := by
  rw [le_num (by omega), le_num (by omega), List.drop_zero, take_add]
  exact take_all h

theorem el_ext {a b : El} (h1 : a.id = b.id) (h2 : a.s = b.s) : a = b := by obtain ⟨i, s⟩ := a; obtain ⟨j, t⟩ := b; simp at h1 h2; rw [h1, h2]
theorem tm_of {s : ByteArray} (h : (Go.Tm.dec s).2 = 0) : TmW (Go.Tm.dec s).1 ∧ Go.Tm.enc (Go.Tm.dec s).1.c (Go.Tm.dec s).1.p (Go.Tm.dec s).1.g (Go.Tm.dec s).1.m.toNat = s := by
  obtain ⟨c, p, g, m, hm, h1, -, h2⟩ := Go.Tm.dec_ok h
  rw [h1]
  exact ⟨⟨by simp, by simp; omega⟩, by simpa using h2⟩
theorem els5_back {b : Bn} {x0 x1 x2 x3 x4 : El} (i0 : x0.id = 0) (i1 : x1.id = 3) (i2 : x2.id = 5) (i3 : x3.id = 11) (i4 : x4.id = 12) (h1 : x1.s.size = 1) (h2 : (Go.Tm.dec x2.s).2 = 0) (h3 : x3.s.size = 2) (h4 : x4.s.size = 20)
    (b0 : b.nm = x0.s) (b1 : b.ch = num x1.s 0 1) (b2 : b.tm = (Go.Tm.dec x2.s).1) (b3 : b.ld = num x3.s 0 2) (q0 : b.p0 = prAt x4.s 0) (q1 : b.p1 = prAt x4.s 5) (q2 : b.p2 = prAt x4.s 10) (q3 : b.p3 = prAt x4.s 15) : els5 b = [x0, x1, x2, x3, x4] := by
  have hp : oz (psL b 4) = x4.s := by
    simp only [psL, Bn.pr, q0, q1, q2, q3]
    have r0 := pr_back (s := x4.s) (i := 0) (by omega)
    have r1 := pr_back (s := x4.s) (i := 5) (by omega)
    have r2 := pr_back (s := x4.s) (i := 10) (by omega)
    have r3 := pr_back (s := x4.s) (i := 15) (by omega)
    rw [show ([] : List UInt8) = x4.s.data.toList.take 0 from rfl, r0, r1, r2, r3]
    exact take_all h4
  unfold els5
  rw [b0, b1, b2, b3, one_back h1, one_back h3, (tm_of h2).2, hp]
  congr 1
  · exact el_ext i0.symm rfl
  congr 1
  · exact el_ext i1.symm rfl
  congr 1
  · exact el_ext i2.symm rfl
  congr 1
  · exact el_ext i3.symm rfl
  congr 1
  exact el_ext i4.symm rfl

/-- The elements of what was read are those that were read. -/
theorem els_back {b : Bn} {l : List El} (ho : ord l = true) (hs : swE b l = 0) (hb : b.sc = 0 ∧ b.sn = 0) : els (lsB b l) = l ∧ TmW (lsB b l).tm := by
  unfold swE at hs
  split at hs
  · rename_i hl
    split at hs
    · exact absurd hs (by decide)
    · rename_i hn
      rcases ord_iff.1 ho with ⟨x0, x1, x2, x3, x4, rfl, i0, i1, i2, i3, i4⟩ | ⟨x0, x1, x2, x3, x4, x5, rfl, i0, i1, i2, i3, i4, i5⟩
      · have t : elE x1 = 0 ∧ elE x2 = 0 ∧ elE x3 = 0 ∧ elE x4 = 0 := by
          simp only [lsE] at hl
          refine ⟨?_, ?_, ?_, ?_⟩
          all_goals (by_cases z0 : elE x0 = 0 <;> by_cases z1 : elE x1 = 0 <;> by_cases z2 : elE x2 = 0 <;> by_cases z3 : elE x3 = 0 <;> by_cases z4 : elE x4 = 0 <;> simp_all)
        simp [elE, i1, i2, i3, i4] at t
        have hB : lsB b [x0, x1, x2, x3, x4] = { b with nm := x0.s, ch := num x1.s 0 1, tm := (Go.Tm.dec x2.s).1, ld := num x3.s 0 2, p0 := prAt x4.s 0, p1 := prAt x4.s 5, p2 := prAt x4.s 10, p3 := prAt x4.s 15 } := by
          simp [lsB, elB, i0, i1, i2, i3, i4]
        rw [hB]
        refine ⟨?_, (tm_of t.2.1).1⟩
        unfold els
        rw [if_pos hb.1]
        exact els5_back i0 i1 i2 i3 i4 (sz1_zero t.1) t.2.1 (sz1_zero t.2.2.1) (sz1_zero t.2.2.2) rfl rfl rfl rfl rfl rfl rfl rfl
      · have t : elE x1 = 0 ∧ elE x2 = 0 ∧ elE x3 = 0 ∧ elE x4 = 0 ∧ elE x5 = 0 := by
          simp only [lsE] at hl
          refine ⟨?_, ?_, ?_, ?_, ?_⟩
          all_goals (by_cases z0 : elE x0 = 0 <;> by_cases z1 : elE x1 = 0 <;> by_cases z2 : elE x2 = 0 <;> by_cases z3 : elE x3 = 0 <;> by_cases z4 : elE x4 = 0 <;> by_cases z5 : elE x5 = 0 <;> simp_all)
        simp [elE, i1, i2, i3, i4, i5] at t
        have hB : lsB b [x0, x1, x2, x3, x4, x5] = { b with nm := x0.s, ch := num x1.s 0 1, tm := (Go.Tm.dec x2.s).1, ld := num x3.s 0 2, p0 := prAt x4.s 0, p1 := prAt x4.s 5, p2 := prAt x4.s 10, p3 := prAt x4.s 15, sc := num x5.s 0 1, sn := num x5.s 1 1 } := by
          simp [lsB, elB, i0, i1, i2, i3, i4, i5]
        rw [hB] at hn ⊢
        refine ⟨?_, (tm_of t.2.1).1⟩
        have hsc : ¬ num x5.s 0 1 = 0 := fun h => hn ⟨rfl, h⟩
        unfold els
        rw [if_neg hsc, els5_back i0 i1 i2 i3 i4 (sz1_zero t.1) t.2.1 (sz1_zero t.2.2.1) (sz1_zero t.2.2.2.1) rfl rfl rfl rfl rfl rfl rfl rfl]
        unfold elS
        simp only
        rw [sw_back (sz1_zero t.2.2.2.2)]
        rw [show (⟨37, x5.s⟩ : El) = x5 from el_ext i5.symm rfl]
        rfl
  · rename_i hl; exact absurd hs hl

/-- What is accepted: valid, and of just these octets where all elements are known. -/
theorem dec_only {s : ByteArray} (h : decE s = 0) : 6 ≤ s.size ∧ chk (decB s) = 0 ∧ TmW (decB s).tm ∧ (Go.Em.dec (s.extract 6 s.size)).2 = 0 ∧ els (decB s) = knl (Go.Em.dec (s.extract 6 s.size)).1 ∧
    (knl (Go.Em.dec (s.extract 6 s.size)).1 = (Go.Em.dec (s.extract 6 s.size)).1 → enc (decB s) = s) := by
  have hB : decB s = rdB s := by unfold decB; exact if_pos h
  rw [hB]
  unfold decE at h
  split at h
  · rename_i hr
    unfold rdE at hr
    split at hr
    · exact absurd hr (by decide)
    · rename_i h6
      split at hr
      · rename_i hd
        split at hr
        · rename_i ho
          obtain ⟨e1, e2⟩ := els_back (b := hdB s) ho hr ⟨rfl, rfl⟩
          refine ⟨by omega, h, e2, hd, e1, fun hk => ?_⟩
          have h0 : (rdB s).st = num s 0 4 ∧ (rdB s).iv = num s 4 2 := by
            unfold rdB
            have key : ∀ (l : List El) (b : Bn), (lsB b l).st = b.st ∧ (lsB b l).iv = b.iv := by
              intro l
              induction l with
              | nil => intro b; exact ⟨rfl, rfl⟩
              | cons x l ih =>
                intro b
                have := ih (elB b x)
                have e : (elB b x).st = b.st ∧ (elB b x).iv = b.iv := by unfold elB; split <;> (try split) <;> (try split) <;> (try split) <;> (try split) <;> exact ⟨rfl, rfl⟩
                exact ⟨this.1.trans e.1, this.2.trans e.2⟩
            exact key _ (hdB s)
          unfold enc octs
          rw [show els (rdB s) = (Go.Em.dec (s.extract 6 s.size)).1 from e1.trans hk, (Go.Em.enc_dec hd).2, h0.1, h0.2, le_num (by omega), le_num (by omega), List.drop_zero, take_add, ex_list, List.take_append_drop, oz_of]
        · exact absurd hr (by decide)
      · rename_i hd; exact absurd hr hd
  · rename_i hr; exact absurd h hr
end Go.Bn
