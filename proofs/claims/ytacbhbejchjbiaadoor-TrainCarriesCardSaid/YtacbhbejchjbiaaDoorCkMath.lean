/-
  OF NO PROGRAM: the two registers of layer 3 on natural numbers. The register of 32 bits is told on numbers of any size, so that a whole string can be exclusive-ored in at once: 'reg_val'. Detection of changed bits, sealing and opening, the register of 8 bits.
-/
import Derived.Test.YtacbhbejchjbiaaDoorWrMath
namespace Go.Ck
open Go.Wr

/-- The number that is exclusive-ored in (a plain name, that the walk does not open). -/
def poly : Nat := 3988292384
/-- One step of the register. -/
def st (x : Nat) : Nat := x / 2 ^^^ (if x % 2 = 1 then poly else 0)
/-- n steps. -/
def stn : Nat → Nat → Nat
  | 0, x => x
  | n + 1, x => stn n (st x)
/-- All ones. -/
def ones : Nat := 4294967295

theorem st_xor (a b : Nat) : st (a ^^^ b) = st a ^^^ st b := by
  unfold st
  have h1 : (a ^^^ b) / 2 = a / 2 ^^^ b / 2 := by
    have := Nat.shiftRight_xor_distrib (a := a) (b := b) (i := 1)
    simpa [Nat.shiftRight_eq_div_pow] using this
  have h2 : (a ^^^ b) % 2 = (a % 2 + b % 2) % 2 := by
    have := Nat.xor_mod_two_pow (a := a) (b := b) (n := 1)
    rw [Nat.pow_one] at this
    rw [this]
    rcases Nat.mod_two_eq_zero_or_one a with h | h <;> rcases Nat.mod_two_eq_zero_or_one b with h' | h' <;> rw [h, h'] <;> rfl
  rw [h1, h2]
  rcases Nat.mod_two_eq_zero_or_one a with h | h <;> rcases Nat.mod_two_eq_zero_or_one b with h' | h' <;> rw [h, h'] <;> simp
  · rw [Nat.xor_assoc]
  · rw [Nat.xor_assoc, Nat.xor_assoc, Nat.xor_comm poly]
  · rw [show a / 2 ^^^ poly ^^^ (b / 2 ^^^ poly) = (a / 2 ^^^ b / 2) ^^^ (poly ^^^ poly) from by
      rw [Nat.xor_assoc, ← Nat.xor_assoc poly, Nat.xor_comm poly (b / 2), Nat.xor_assoc, ← Nat.xor_assoc (a / 2)], Nat.xor_self, Nat.xor_zero]
theorem st_two (x : Nat) : st (2 * x) = x := by
  unfold st
  rw [Nat.mul_div_cancel_left x (by decide), Nat.mul_mod_right, if_neg (by decide), Nat.xor_zero]
theorem st_zero : st 0 = 0 := st_two 0
theorem stn_zero (n : Nat) : stn n 0 = 0 := by
  induction n with
  | zero => rfl
  | succ n ih => rw [stn, st_zero, ih]
theorem stn_xor (n : Nat) : ∀ a b, stn n (a ^^^ b) = stn n a ^^^ stn n b := by
  induction n with
  | zero => intro a b; rfl
  | succ n ih => intro a b; rw [stn, st_xor, ih]; rfl
theorem stn_add (m n x : Nat) : stn (m + n) x = stn n (stn m x) := by
  induction m generalizing x with
  | zero => rw [Nat.zero_add]; rfl
  | succ m ih => rw [show m + 1 + n = (m + n) + 1 from by omega, stn, ih]; rfl
theorem stn_shift (n x : Nat) : stn n (2 ^ n * x) = x := by
  induction n with
  | zero => simp [stn]
  | succ n ih => rw [stn, show 2 ^ (n + 1) * x = 2 * (2 ^ n * x) from by rw [Nat.pow_succ, Nat.mul_comm (2 ^ n) 2, Nat.mul_assoc], st_two, ih]
theorem poly_lt : poly < 2 ^ 32 := by decide
theorem st_lt {x : Nat} (h : x < 2 ^ 32) : st x < 2 ^ 32 := by
  unfold st
  refine Nat.xor_lt_two_pow (by omega) ?_
  split
  · exact poly_lt
  · decide
theorem stn_lt (n : Nat) {x : Nat} (h : x < 2 ^ 32) : stn n x < 2 ^ 32 := by
  induction n generalizing x with
  | zero => exact h
  | succ n ih => exact ih (st_lt h)
theorem st_ne {x : Nat} (h : x < 2 ^ 32) (h0 : x ≠ 0) : st x ≠ 0 := by
  intro e
  unfold st at e
  by_cases ho : x % 2 = 1
  · rw [if_pos ho] at e
    have e2 : x / 2 = poly := by
      have := congrArg (· ^^^ poly) e
      simpa [Nat.xor_assoc] using this
    have : poly = 3988292384 := rfl
    omega
  · rw [if_neg ho, Nat.xor_zero] at e
    omega
theorem stn_ne (n : Nat) {x : Nat} (h : x < 2 ^ 32) (h0 : x ≠ 0) : stn n x ≠ 0 := by
  induction n generalizing x with
  | zero => exact h0
  | succ n ih => exact ih (st_lt h) (st_ne h h0)
theorem stn_inj (n : Nat) {a b : Nat} (ha : a < 2 ^ 32) (hb : b < 2 ^ 32) (h : stn n a = stn n b) : a = b := by
  refine Classical.byContradiction fun hne => ?_
  have hx : a ^^^ b ≠ 0 := fun e => hne (by
    have := congrArg (· ^^^ b) e
    simpa [Nat.xor_assoc] using this)
  refine stn_ne n (Nat.xor_lt_two_pow ha hb) hx ?_
  rw [stn_xor, h, Nat.xor_self]

/-- n steps take n bits off: the others are shifted down, and what was taken off goes by itself. -/
theorem stn_split (n x : Nat) : stn n x = x / 2 ^ n ^^^ stn n (x % 2 ^ n) := by
  have e : x = 2 ^ n * (x / 2 ^ n) ^^^ x % 2 ^ n := by
    rw [Nat.xor_comm, Nat.mul_comm]
    apply Nat.eq_of_testBit_eq
    intro j
    rw [Nat.testBit_xor, Nat.testBit_mod_two_pow, Nat.testBit_mul_two_pow, Nat.testBit_div_two_pow]
    by_cases hj : j < n
    · simp [hj, show ¬ n ≤ j from by omega]
    · simp [hj, show n ≤ j from by omega]
  calc stn n x = stn n (2 ^ n * (x / 2 ^ n) ^^^ x % 2 ^ n) := by rw [← e]
    _ = _ := by rw [stn_xor, stn_shift]

/-! ### The register over a string -/
/-- One octet. -/
def oc (r o : Nat) : Nat := stn 8 (r ^^^ o)
/-- A string. -/
def reg (r : Nat) (l : List UInt8) : Nat := l.foldl (fun r o => oc r o.toNat) r
theorem reg_nil (r : Nat) : reg r [] = r := rfl
theorem reg_cons (r : Nat) (o : UInt8) (l : List UInt8) : reg r (o :: l) = reg (oc r o.toNat) l := rfl
theorem reg_append (r : Nat) (a b : List UInt8) : reg r (a ++ b) = reg (reg r a) b := by unfold reg; rw [List.foldl_append]
theorem reg_snoc (r : Nat) (l : List UInt8) (o : UInt8) : reg r (l ++ [o]) = oc (reg r l) o.toNat := by rw [reg_append]; rfl
theorem u8_lt (o : UInt8) : o.toNat < 2 ^ 32 := Nat.lt_of_lt_of_le o.toNat_lt (by decide)
theorem oc_lt {r : Nat} (h : r < 2 ^ 32) (o : UInt8) : oc r o.toNat < 2 ^ 32 := stn_lt 8 (Nat.xor_lt_two_pow h (u8_lt o))
theorem reg_lt {r : Nat} (h : r < 2 ^ 32) (l : List UInt8) : reg r l < 2 ^ 32 := by
  induction l generalizing r with
  | nil => exact h
  | cons o l ih => exact ih (oc_lt h o)
theorem val_cons_xor (o : UInt8) (l : List UInt8) : val (o :: l) = o.toNat ^^^ 2 ^ 8 * val l := by
  have h := or_shift (k := 1) (val l) (a := o.toNat) (by have := o.toNat_lt; unfold pow; omega)
  rw [val, show (256 : Nat) * val l = val l * pow 1 from by unfold pow; omega, ← h]
  apply Nat.eq_of_testBit_eq
  intro j
  rw [Nat.testBit_or, Nat.testBit_xor, show pow 1 = 2 ^ 8 from rfl, Nat.testBit_mul_two_pow]
  by_cases hj : 8 ≤ j
  · have : o.toNat.testBit j = false := Nat.testBit_lt_two_pow (Nat.lt_of_lt_of_le o.toNat_lt (Nat.pow_le_pow_right (by decide) hj))
    rw [this]; simp
  · simp [hj]
/-- THE WHOLE STRING AT ONCE: its number exclusive-ored into the register, and as many steps as it has bits. -/
theorem reg_val (r : Nat) (l : List UInt8) : reg r l = stn (8 * l.length) (r ^^^ val l) := by
  induction l generalizing r with
  | nil => simp [reg_nil, val, stn]
  | cons o l ih =>
    rw [reg_cons, ih, List.length_cons, show 8 * (l.length + 1) = 8 + 8 * l.length from by omega, stn_add]
    congr 1
    rw [val_cons_xor, ← Nat.xor_assoc, stn_xor 8 (r ^^^ o.toNat), stn_shift]
    rfl
theorem pow4 : pow 4 = 2 ^ 32 := by decide
theorem val_lt4 {v : List UInt8} (h : v.length = 4) : val v < 2 ^ 32 := by have := val_lt v; rw [h, pow4] at this; exact this
theorem val_inj {a b : List UInt8} (hl : a.length = b.length) (h : val a = val b) : a = b := by
  induction a generalizing b with
  | nil => exact (List.eq_nil_of_length_eq_zero hl.symm).symm
  | cons x a ih =>
    match b, hl with
    | y :: b, hl =>
      rw [val, val] at h
      have hx := x.toNat_lt
      have hy := y.toNat_lt
      have e1 : x.toNat = y.toNat := by omega
      have e2 : val a = val b := by omega
      rw [UInt8.toNat_inj.1 e1, ih (by simpa using hl) e2]

/-! ### The checksum; sealed octets -/
def crc (l : List UInt8) : Nat := reg ones l ^^^ ones
theorem ones_lt : ones < 2 ^ 32 := by decide
theorem crc_lt (l : List UInt8) : crc l < 2 ^ 32 := Nat.xor_lt_two_pow (reg_lt ones_lt l) ones_lt
/-- The last four octets are the checksum of those before them exactly if the register over all comes to one number. -/
theorem opens_iff (u v : List UInt8) (hv : v.length = 4) : v = le (crc u) 4 ↔ reg ones (u ++ v) = stn 32 ones := by
  have h1 : reg ones (u ++ v) = stn 32 (reg ones u ^^^ val v) := by rw [reg_append, reg_val, hv]
  have hr := reg_lt ones_lt u
  have hx : reg ones u ^^^ val v < 2 ^ 32 := Nat.xor_lt_two_pow hr (val_lt4 hv)
  rw [h1]
  constructor
  · intro h
    rw [h, val_le_of_lt (by rw [pow4]; exact crc_lt u)]
    unfold crc
    rw [← Nat.xor_assoc, Nat.xor_self, Nat.zero_xor]
  · intro h
    have e := stn_inj 32 hx ones_lt h
    have e2 : val v = crc u := by
      unfold crc
      have h2 := congrArg (reg ones u ^^^ ·) e
      rw [← Nat.xor_assoc, Nat.xor_self, Nat.zero_xor] at h2
      exact h2
    refine val_inj (by rw [hv, le_len]) ?_
    rw [val_le_of_lt (by rw [pow4]; exact crc_lt u), e2]
/-- DETECTION: of sealed octets of which bits within 32 consecutive ones are changed the last four are not the checksum of those before them. -/
theorem detects (s u v : List UInt8) (w p : Nat) (hv : v.length = 4) (hu : u.length = s.length) (hw : w < 2 ^ 32) (h0 : w ≠ 0) (hp : p ≤ 8 * (s.length + 4))
    (he : val (u ++ v) = val (s ++ le (crc s) 4) ^^^ 2 ^ p * w) : v ≠ le (crc u) 4 := by
  intro h
  have h1 := (opens_iff u v hv).1 h
  have h2 := (opens_iff s (le (crc s) 4) (le_len _ _)).1 rfl
  rw [reg_val, List.length_append, hv, hu, he] at h1
  rw [reg_val, List.length_append, le_len] at h2
  rw [← Nat.xor_assoc, stn_xor, h2] at h1
  have h3 : stn (8 * (s.length + 4)) (2 ^ p * w) = 0 := by
    have := congrArg (stn 32 ones ^^^ ·) h1
    simpa [← Nat.xor_assoc] using this
  rw [show 8 * (s.length + 4) = p + (8 * (s.length + 4) - p) from by omega, stn_add, stn_shift] at h3
  exact stn_ne _ hw h0 h3
/-- What was sealed is opened. -/
theorem sealed_opens (s : List UInt8) : (s ++ le (crc s) 4).drop s.length = le (crc ((s ++ le (crc s) 4).take s.length)) 4 := by
  rw [List.drop_left, List.take_left]
/-- A checksum in two parts. -/
theorem crc_parts (a b : List UInt8) : reg (crc a ^^^ ones) b ^^^ ones = crc (a ++ b) := by
  unfold crc
  rw [Nat.xor_assoc, Nat.xor_self, Nat.xor_zero, reg_append]

/-! ### The operations as the walk leaves them -/
theorem stn_succ (k x : Nat) : stn (k + 1) x = st (stn k x) := stn_add k 1 x
theorem and1_u32 {x : Nat} (h : x < 4294967296) : bits .and .u32 (x : Int) 1 = ((x % 2 : Nat) : Int) := by
  have := u32_and_nat x 1 h (by decide)
  rw [Nat.and_one_is_mod] at this; exact this
theorem odd_u32 {x : Nat} (h : x < 4294967296) (ho : x % 2 = 1) : (bits .and .u32 (x : Int) 1 == 1) = true := by rw [and1_u32 h, ho]; rfl
theorem even_u32 {x : Nat} (h : x < 4294967296) (ho : ¬ x % 2 = 1) : (bits .and .u32 (x : Int) 1 == 1) = false := by
  rw [and1_u32 h, show x % 2 = 0 from by omega]; rfl
theorem st_odd {x : Nat} (h : x < 4294967296) (ho : x % 2 = 1) : bits .xor .u32 ((x : Int) / 2) 3988292384 = ((st x : Nat) : Int) := by
  have := u32_xor_nat (x / 2) poly (by omega) (by decide)
  rw [show st x = x / 2 ^^^ poly from by unfold st; rw [if_pos ho]]; exact this
theorem st_even {x : Nat} (ho : ¬ x % 2 = 1) : (x : Int) / 2 = ((st x : Nat) : Int) := by
  rw [show st x = x / 2 from by unfold st; rw [if_neg ho, Nat.xor_zero]]; rfl
theorem and255_u32 {x : Nat} (h : x < 4294967296) : bits .and .u32 (x : Int) 255 = (x : Int) % 256 := by
  have := u32_and_nat x 255 h (by decide)
  rw [show (255 : Nat) = 2 ^ 8 - 1 from rfl, Nat.and_two_pow_sub_one_eq_mod] at this
  exact this
theorem bit_u32 (p k : Nat) (h : p < 4294967296) : bits .and .u32 ((p : Int) / 2 ^ k) 1 = if p.testBit k = true then 1 else 0 := by
  have e : (p : Int) / 2 ^ k = ((p / 2 ^ k : Nat) : Int) := by rw [Int.natCast_ediv, Int.natCast_pow]; rfl
  rw [e, and1_u32 (Nat.lt_of_le_of_lt (Nat.div_le_self _ _) h), Nat.testBit_eq_decide_div_mod_eq]
  by_cases h1 : p / 2 ^ k % 2 = 1
  · rw [h1]; rfl
  · rw [if_neg (by simpa using h1), show p / 2 ^ k % 2 = 0 from by omega]; rfl
theorem flip_u8 {v j : Nat} (h : v < 256) (hj : j < 8) : bits .xor .u8 (v : Int) ((2 : Int) ^ j % 256) = ((v ^^^ 2 ^ j : Nat) : Int) ∧ v ^^^ 2 ^ j < 256 := by
  have hp : 2 ^ j < 256 := Nat.lt_of_lt_of_le (Nat.pow_lt_pow_right (by decide) hj) (by decide)
  have e : (2 : Int) ^ j % 256 = ((2 ^ j : Nat) : Int) := by
    rw [show (2 : Int) ^ j = ((2 ^ j : Nat) : Int) from by rw [Int.natCast_pow]; rfl]
    generalize (2 ^ j : Nat) = y at hp
    omega
  rw [e]
  exact ⟨u8_xor_nat v (2 ^ j) h hp, Nat.xor_lt_two_pow (n := 8) h hp⟩
theorem and15_u32 {x : Nat} (h : x < 4294967296) : bits .and .u32 (x : Int) 15 = ((x % 16 : Nat) : Int) := by
  have := u32_and_nat x 15 h (by decide)
  rw [show (15 : Nat) = 2 ^ 4 - 1 from rfl, Nat.and_two_pow_sub_one_eq_mod] at this
  exact this
theorem not_u32 {x : Nat} (h : x < 4294967296) : bits .xor .u32 IntKind.u32.max (x : Int) = ((x ^^^ ones : Nat) : Int) := by
  rw [Nat.xor_comm]
  exact u32_xor_nat 4294967295 x (by decide) h
theorem xor_u32 {a b : Nat} (ha : a < 4294967296) (hb : b < 4294967296) : bits .xor .u32 (a : Int) (b : Int) = ((a ^^^ b : Nat) : Int) := u32_xor_nat a b ha hb
theorem xor_oct {a : Nat} (o : UInt8) (ha : a < 4294967296) : bits .xor .u32 (a : Int) ((o.toNat : Int) % 4294967296) = ((a ^^^ o.toNat : Nat) : Int) := by
  have ho := o.toNat_lt
  rw [show (o.toNat : Int) % 4294967296 = (o.toNat : Int) from by omega]
  exact u32_xor_nat _ _ ha (by omega)
theorem reg_take (r : Nat) (s : ByteArray) (m : Nat) (h : m < s.size) : reg r (s.data.toList.take (m + 1)) = oc (reg r (s.data.toList.take m)) (s[m]'h).toNat := by
  rw [List.take_succ_eq_append_getElem (show m < s.data.toList.length from h), reg_snoc]; rfl

/-! ### Four bits at a time, by a table -/
/-- What a table of 16 entries holds. -/
def tab (i : Nat) : Nat := stn 4 i
theorem stn_tab (x : Nat) : stn 4 x = x / 16 ^^^ tab (x % 16) := stn_split 4 x
theorem tab_lt {i : Nat} (h : i < 16) : tab i < 4294967296 := stn_lt 4 (Nat.lt_of_lt_of_le h (by decide))
theorem nib_u32 {x : Nat} (h : x < 4294967296) : bits .xor .u32 ((x : Int) / 16) ((tab (x % 16) : Nat) : Int) = ((stn 4 x : Nat) : Int) := by
  rw [stn_tab]
  exact u32_xor_nat (x / 16) (tab (x % 16)) (by omega) (tab_lt (Nat.mod_lt _ (by decide)))
theorem tab_list : (List.range 16).map tab = [0, 498536548, 997073096, 651767980, 1994146192, 1802195444, 1303535960, 1342533948, 3988292384, 4027552580, 3604390888, 3412177804, 2607071920, 2262029012, 2685067896, 3183342108] := by decide +kernel
theorem oc_tab (r o : Nat) : oc r o = (let x := r ^^^ o; let y := x / 16 ^^^ tab (x % 16); y / 16 ^^^ tab (y % 16)) := by
  show stn (4 + 4) (r ^^^ o) = _
  rw [stn_add, stn_tab (r ^^^ o), stn_tab]

/-! ### The register of 8 bits -/
/-- One step. -/
def s8 (r : Nat) : Nat := if 256 ≤ 2 * r then (2 * r - 256) ^^^ 7 else 2 * r
def s8n : Nat → Nat → Nat
  | 0, x => x
  | n + 1, x => s8n n (s8 x)
def oc8 (r o : Nat) : Nat := s8n 8 (r ^^^ o)
def reg8 (r : Nat) (l : List UInt8) : Nat := l.foldl (fun r o => oc8 r o.toNat) r
def crc8 (l : List UInt8) : Nat := 255 - reg8 255 l
theorem s8_fin : ∀ r : Fin 256, s8 r.val < 256 ∧ (if s8 r.val % 2 = 1 then ((s8 r.val ^^^ 7) + 256) / 2 else s8 r.val / 2) = r.val := by decide +kernel
theorem s8_lt {r : Nat} (h : r < 256) : s8 r < 256 := (s8_fin ⟨r, h⟩).1
theorem s8_inj {a b : Nat} (ha : a < 256) (hb : b < 256) (h : s8 a = s8 b) : a = b := by
  have e1 := (s8_fin ⟨a, ha⟩).2
  have e2 := (s8_fin ⟨b, hb⟩).2
  dsimp only at e1 e2
  rw [h] at e1
  exact e1.symm.trans e2
theorem s8n_lt (n : Nat) {r : Nat} (h : r < 256) : s8n n r < 256 := by
  induction n generalizing r with
  | zero => exact h
  | succ n ih => exact ih (s8_lt h)
theorem s8n_inj (n : Nat) {a b : Nat} (ha : a < 256) (hb : b < 256) (h : s8n n a = s8n n b) : a = b := by
  induction n generalizing a b with
  | zero => exact h
  | succ n ih => exact s8_inj ha hb (ih (s8_lt ha) (s8_lt hb) h)
theorem xor_lt8 {a b : Nat} (ha : a < 256) (hb : b < 256) : a ^^^ b < 256 := Nat.xor_lt_two_pow (n := 8) ha hb
theorem u8_lt8 (o : UInt8) : o.toNat < 256 := o.toNat_lt
theorem oc8_lt {r : Nat} (h : r < 256) (o : UInt8) : oc8 r o.toNat < 256 := by unfold oc8; exact s8n_lt 8 (xor_lt8 h (u8_lt8 o))
theorem xor_cancel_right {a b c : Nat} (h : a ^^^ c = b ^^^ c) : a = b := by
  have := congrArg (· ^^^ c) h
  simpa [Nat.xor_assoc] using this
theorem oc8_inj {a b : Nat} (ha : a < 256) (hb : b < 256) (o : UInt8) (h : oc8 a o.toNat = oc8 b o.toNat) : a = b := by
  unfold oc8 at h
  exact xor_cancel_right (s8n_inj 8 (xor_lt8 ha (u8_lt8 o)) (xor_lt8 hb (u8_lt8 o)) h)
theorem oc8_inj' {r : Nat} (hr : r < 256) (x y : UInt8) (h : oc8 r x.toNat = oc8 r y.toNat) : x = y := by
  unfold oc8 at h
  have e := s8n_inj 8 (xor_lt8 hr (u8_lt8 x)) (xor_lt8 hr (u8_lt8 y)) h
  rw [Nat.xor_comm r, Nat.xor_comm r] at e
  exact UInt8.toNat_inj.1 (xor_cancel_right e)
theorem reg8_nil (r : Nat) : reg8 r [] = r := rfl
theorem reg8_cons (r : Nat) (o : UInt8) (l : List UInt8) : reg8 r (o :: l) = reg8 (oc8 r o.toNat) l := by unfold reg8; rw [List.foldl_cons]
theorem reg8_lt {r : Nat} (h : r < 256) (l : List UInt8) : reg8 r l < 256 := by
  induction l generalizing r with
  | nil => exact h
  | cons o l ih => rw [reg8_cons]; exact ih (oc8_lt h o)
theorem reg8_append (r : Nat) (a b : List UInt8) : reg8 r (a ++ b) = reg8 (reg8 r a) b := by unfold reg8; rw [List.foldl_append]
theorem reg8_snoc (r : Nat) (l : List UInt8) (o : UInt8) : reg8 r (l ++ [o]) = oc8 (reg8 r l) o.toNat := by rw [reg8_append, reg8_cons, reg8_nil]
theorem reg8_inj (l : List UInt8) {a b : Nat} (ha : a < 256) (hb : b < 256) (h : reg8 a l = reg8 b l) : a = b := by
  induction l generalizing a b with
  | nil => exact h
  | cons o l ih => rw [reg8_cons, reg8_cons] at h; exact oc8_inj ha hb o (ih (oc8_lt ha o) (oc8_lt hb o) h)
theorem s8n_succ (k x : Nat) : s8n (k + 1) x = s8 (s8n k x) := by
  induction k generalizing x with
  | zero => rfl
  | succ k ih => rw [s8n, ih]; rfl
theorem reg8_take (r : Nat) (s : ByteArray) (m : Nat) (h : m < s.size) : reg8 r (s.data.toList.take (m + 1)) = oc8 (reg8 r (s.data.toList.take m)) (s[m]'h).toNat := by
  rw [List.take_succ_eq_append_getElem (show m < s.data.toList.length from h), reg8_snoc]; rfl
theorem i64_xor_nat (a b : Nat) (ha : a < 9223372036854775808) (hb : b < 9223372036854775808) : bits .xor .i64 (a : Int) (b : Int) = ((a ^^^ b : Nat) : Int) := by
  have hx : a ^^^ b < 2 ^ 63 := Nat.xor_lt_two_pow (by omega) (by omega)
  show IntKind.i64.wrap ((BitVec.ofInt 64 (a : Int) ^^^ BitVec.ofInt 64 (b : Int)).toNat : Int) = _
  rw [BitVec.toNat_xor, ofInt_u64 a (by omega), ofInt_u64 b (by omega)]
  exact IntWalk.i64_in _ (by omega)
theorem xor_oct8 {a : Nat} (o : UInt8) (ha : a < 256) : bits .xor .i64 (a : Int) (Go.RowKit.wrap64 (o.toNat : Int)) = ((a ^^^ o.toNat : Nat) : Int) := by
  have ho := o.toNat_lt
  rw [IntWalk.wrap64_in (o.toNat : Int) (by omega)]
  exact i64_xor_nat _ _ (by omega) (by omega)
theorem s8_big {x : Nat} (h : x < 256) (hb : 256 ≤ 2 * x) : bits .xor .i64 (2 * (x : Int) - 256) 7 = ((s8 x : Nat) : Int) := by
  have e : 2 * (x : Int) - 256 = ((2 * x - 256 : Nat) : Int) := by omega
  rw [show s8 x = (2 * x - 256) ^^^ 7 from by unfold s8; rw [if_pos hb], e]
  exact i64_xor_nat _ 7 (by omega) (by decide)
theorem s8_small {x : Nat} (hb : ¬ 256 ≤ 2 * x) : 2 * (x : Int) = ((s8 x : Nat) : Int) := by
  rw [show s8 x = 2 * x from by unfold s8; rw [if_neg hb]]; omega
theorem crc8_walk {r : Nat} (h : r < 256) : Go.RowKit.wrap64 (255 - (r : Int)) % 256 = ((255 - r : Nat) : Int) := by
  rw [IntWalk.wrap64_in _ (by omega)]; omega
/-- The register of 8 bits as an exclusive or with all ones. -/
theorem sub_xor255 : ∀ r : Fin 256, 255 - r.val = r.val ^^^ 255 := by decide +kernel
/-- What the table of 16 entries of the register of 8 bits holds. -/
def tab8 (i : Nat) : Nat := s8n 4 (16 * i)
theorem nib8_fin : ∀ r : Fin 256, s8n 4 r.val = (r.val * 16 % 256) ^^^ tab8 (r.val / 16) := by decide +kernel
theorem nib8 {r : Nat} (h : r < 256) : s8n 4 r = (r * 16 % 256) ^^^ tab8 (r / 16) := nib8_fin ⟨r, h⟩
theorem tab8_lt {i : Nat} (h : i < 16) : tab8 i < 256 := s8n_lt 4 (by omega)
theorem s8n_add (m n x : Nat) : s8n (m + n) x = s8n n (s8n m x) := by
  induction m generalizing x with
  | zero => rw [Nat.zero_add]; rfl
  | succ m ih => rw [show m + 1 + n = (m + n) + 1 from by omega, s8n, ih]; rfl
theorem xor_u8 {a b : Nat} (ha : a < 256) (hb : b < 256) : bits .xor .u8 (a : Int) (b : Int) = ((a ^^^ b : Nat) : Int) := u8_xor_nat a b ha hb
theorem not_u8 {x : Nat} (h : x < 256) : bits .xor .u8 IntKind.u8.max (x : Int) = ((255 - x : Nat) : Int) := by
  have e := u8_xor_nat 255 x (by decide) h
  rw [Nat.xor_comm] at e
  rw [sub_xor255 ⟨x, h⟩]; exact e
theorem nib_u8 {x : Nat} (h : x < 256) : bits .xor .u8 ((x : Int) * 16 % 256) ((tab8 (x / 16) : Nat) : Int) = ((s8n 4 x : Nat) : Int) := by
  rw [nib8 h]
  exact u8_xor_nat (x * 16 % 256) (tab8 (x / 16)) (Nat.mod_lt _ (by decide)) (tab8_lt (by omega))
/-- ONE OCTET REPLACED BY ANOTHER: another checksum. -/
theorem crc8_ne (a b : List UInt8) (x y : UInt8) (h : x ≠ y) : crc8 (a ++ x :: b) ≠ crc8 (a ++ y :: b) := by
  intro e
  have h0 : (255 : Nat) < 256 := by decide
  have l1 := reg8_lt h0 (a ++ x :: b)
  have l2 := reg8_lt h0 (a ++ y :: b)
  unfold crc8 at e
  have e2 : reg8 255 (a ++ x :: b) = reg8 255 (a ++ y :: b) := by omega
  rw [reg8_append, reg8_append, reg8_cons, reg8_cons] at e2
  exact h (oc8_inj' (reg8_lt h0 a) x y (reg8_inj b (oc8_lt (reg8_lt h0 a) x) (oc8_lt (reg8_lt h0 a) y) e2))


/-! ### Bits of a string changed one by one -/
/-- Bit n of a string changed. -/
def flp (l : List UInt8) (n : Nat) : List UInt8 := l.set (n / 8) (UInt8.ofNat ((l.getD (n / 8) 0).toNat ^^^ 2 ^ (n % 8)))
theorem flp_len (l : List UInt8) (n : Nat) : (flp l n).length = l.length := List.length_set ..
theorem val_flp (l : List UInt8) (n : Nat) (h : n < 8 * l.length) : val (flp l n) = val l ^^^ 2 ^ n := by
  induction l generalizing n with
  | nil => simp at h
  | cons o l ih =>
    by_cases hn : n < 8
    · have e0 : n / 8 = 0 := by omega
      have e1 : n % 8 = n := by omega
      unfold flp
      rw [e0, e1, List.set_cons_zero, List.getD_cons_zero, val_cons_xor, val_cons_xor, UInt8.toNat_ofNat']
      have hlt : o.toNat ^^^ 2 ^ n < 2 ^ 8 := Nat.xor_lt_two_pow o.toNat_lt (Nat.pow_lt_pow_right (by decide) hn)
      rw [Nat.mod_eq_of_lt hlt, Nat.xor_assoc, Nat.xor_comm (2 ^ n), ← Nat.xor_assoc]
    · obtain ⟨m, rfl⟩ : ∃ m, n = m + 8 := ⟨n - 8, by omega⟩
      have e0 : (m + 8) / 8 = m / 8 + 1 := by omega
      have e1 : (m + 8) % 8 = m % 8 := by omega
      have e2 : flp (o :: l) (m + 8) = o :: flp l m := by unfold flp; rw [e0, e1]; simp
      rw [e2, val_cons_xor, ih m (by rw [List.length_cons] at h; omega), val_cons_xor, Nat.pow_add, Nat.mul_comm (2 ^ m), Nat.xor_assoc]
      congr 1
      apply Nat.eq_of_testBit_eq
      intro j
      rw [Nat.testBit_xor, Nat.mul_comm, Nat.testBit_mul_two_pow, Nat.mul_comm (2 ^ 8) (val l), Nat.testBit_mul_two_pow, Nat.mul_comm (2 ^ 8) (2 ^ m), Nat.testBit_mul_two_pow, Nat.testBit_xor]
      by_cases hj : 8 ≤ j <;> simp [hj]

/-- The first k bits of a pattern laid over a string from bit n on: where the pattern has a 1 the bit is changed; what lies beyond the end is passed over. -/
def flps (l : List UInt8) (n p : Nat) : Nat → List UInt8
  | 0 => l
  | k + 1 => if p.testBit k = true ∧ n + k < 8 * l.length then flp (flps l n p k) (n + k) else flps l n p k
theorem flps_len (l : List UInt8) (n p k : Nat) : (flps l n p k).length = l.length := by
  induction k with
  | zero => rfl
  | succ k ih =>
    rw [flps]; split
    · rw [flp_len, ih]
    · exact ih
theorem val_flps (l : List UInt8) (n p k : Nat) : val (flps l n p k) = val l ^^^ 2 ^ n * (p % 2 ^ k % 2 ^ (8 * l.length - n)) := by
  induction k with
  | zero => rw [flps, Nat.pow_zero, Nat.mod_one, Nat.zero_mod, Nat.mul_zero, Nat.xor_zero]
  | succ k ih =>
    rw [flps]
    by_cases h : p.testBit k = true ∧ n + k < 8 * l.length
    · rw [if_pos h, val_flp _ _ (by rw [flps_len]; exact h.2), ih, Nat.xor_assoc]
      congr 1
      apply Nat.eq_of_testBit_eq
      intro j
      rw [Nat.testBit_xor, Nat.mul_comm (2 ^ n), Nat.testBit_mul_two_pow, Nat.testBit_mod_two_pow, Nat.testBit_mod_two_pow, Nat.mul_comm (2 ^ n), Nat.testBit_mul_two_pow, Nat.testBit_mod_two_pow, Nat.testBit_mod_two_pow, Nat.testBit_two_pow]
      by_cases hj : n ≤ j
      · obtain ⟨i, rfl⟩ : ∃ i, j = n + i := ⟨j - n, by omega⟩
        rw [show n + i - n = i from by omega]
        by_cases hi : i = k
        · subst hi
          simp [h.1, show i < 8 * l.length - n from by omega]
        · have e1 : decide (n + k = n + i) = false := decide_eq_false (by omega)
          have e2 : decide (i < k + 1) = decide (i < k) := by rw [decide_eq_decide]; omega
          rw [e1, e2, Bool.xor_false]
      · have e1 : decide (n + k = j) = false := decide_eq_false (by omega)
        simp [hj, e1]
    · rw [if_neg h, ih]
      congr 2
      apply Nat.eq_of_testBit_eq
      intro j
      rw [Nat.testBit_mod_two_pow, Nat.testBit_mod_two_pow, Nat.testBit_mod_two_pow, Nat.testBit_mod_two_pow]
      by_cases hj : j = k
      · subst hj
        by_cases ht : p.testBit j = true
        · have : ¬ j < 8 * l.length - n := fun hh => h ⟨ht, by omega⟩
          simp [this]
        · simp [Bool.not_eq_true _ ▸ ht]
      · have e2 : decide (j < k + 1) = decide (j < k) := by rw [decide_eq_decide]; omega
        rw [e2]
/-- DETECTION, as the law tells it. -/
theorem flips_detected (s : List UInt8) (n p : Nat) (hp : p < 2 ^ 32) (hn : n < 8 * (s.length + 4)) (h : flps (s ++ le (crc s) 4) n p 32 ≠ s ++ le (crc s) 4) :
    (flps (s ++ le (crc s) 4) n p 32).drop s.length ≠ le (crc ((flps (s ++ le (crc s) 4) n p 32).take s.length)) 4 := by
  have hl : (s ++ le (crc s) 4).length = s.length + 4 := by rw [List.length_append, le_len]
  have hv := val_flps (s ++ le (crc s) 4) n p 32
  rw [hl, Nat.mod_eq_of_lt hp] at hv
  have hfl := flps_len (s ++ le (crc s) 4) n p 32
  generalize flps (s ++ le (crc s) 4) n p 32 = T at *
  refine detects s (T.take s.length) (T.drop s.length) (p % 2 ^ (8 * (s.length + 4) - n)) n (by rw [List.length_drop]; omega) (by rw [List.length_take]; omega) (Nat.lt_of_le_of_lt (Nat.mod_le _ _) hp) (fun h0 => ?_) (by omega) (by rw [List.take_append_drop]; exact hv)
  rw [h0, Nat.mul_zero, Nat.xor_zero] at hv
  exact h (val_inj hfl hv)
end Go.Ck
