/-
  OF NO PROGRAM: math/bits.OnesCount64's parallel sums count the bits: byte by byte.
-/
import Derived.Laws.BitsAllLaws
import Derived.IntWalk
namespace Go.Bs

/-- f applied to each of the n lowest bytes. -/
def byt (f : Nat → Nat) : Nat → Nat → Nat
  | 0, _ => 0
  | n + 1, x => 256 * byt f n (x / 256) + f (x % 256)
/-- The sum of f over the n lowest bytes. -/
def bsum (f : Nat → Nat) : Nat → Nat → Nat
  | 0, _ => 0
  | n + 1, x => bsum f n (x / 256) + f (x % 256)
/-- n bytes, all c. -/
def rep (c : Nat) : Nat → Nat
  | 0 => 0
  | n + 1 => 256 * rep c n + c

theorem and_byte (a b c d : Nat) (hb : b < 256) (hd : d < 256) : (256 * a + b) &&& (256 * c + d) = 256 * (a &&& c) + (b &&& d) := by
  have hbd : b &&& d < 2 ^ 8 := Nat.and_lt_two_pow _ hd
  apply Nat.eq_of_testBit_eq
  intro j
  rw [Nat.testBit_and, show 256 = 2 ^ 8 from rfl, Nat.testBit_two_pow_mul_add _ hb, Nat.testBit_two_pow_mul_add _ hd, Nat.testBit_two_pow_mul_add _ hbd]
  split
  · rw [Nat.testBit_and]
  · rw [Nat.testBit_and]

/-- x >> k masked with bytes c: each byte by itself, where the mask strikes what comes in from the byte above. -/
theorem shr_and (k c : Nat) (hc : c < 256) (hk : k ≤ 8) (hm : ∀ (b t : Nat), b < 256 → t < 2 ^ k → ((2 ^ (8 - k) * t + b / 2 ^ k) &&& c) = ((b / 2 ^ k) &&& c)) :
    ∀ (n x : Nat), (x / 2 ^ k) &&& rep c n = byt (fun b => (b / 2 ^ k) &&& c) n x
  | 0, x => by simp [rep, byt]
  | n + 1, x => by
    have e : x / 2 ^ k = 256 * (x / 256 / 2 ^ k) + (2 ^ (8 - k) * (x / 256 % 2 ^ k) + x % 256 / 2 ^ k) := by
      have h8 : 256 = 2 ^ (8 - k) * 2 ^ k := by rw [← Nat.pow_add, show 8 - k + k = 8 from by omega]
      have hx : x = 256 * (x / 256) + x % 256 := (Nat.div_add_mod ..).symm
      have hy : x / 256 = 2 ^ k * (x / 256 / 2 ^ k) + x / 256 % 2 ^ k := (Nat.div_add_mod ..).symm
      have hp : 0 < 2 ^ k := Nat.two_pow_pos k
      calc x / 2 ^ k = (2 ^ k * (2 ^ (8 - k) * (x / 256)) + x % 256) / 2 ^ k := by
            congr 1
            rw [← Nat.mul_assoc, Nat.mul_comm (2 ^ k), ← h8]; exact hx
        _ = 2 ^ (8 - k) * (x / 256) + x % 256 / 2 ^ k := by rw [Nat.mul_add_div hp]
        _ = 256 * (x / 256 / 2 ^ k) + (2 ^ (8 - k) * (x / 256 % 2 ^ k) + x % 256 / 2 ^ k) := by
          have h9 := congrArg (2 ^ (8 - k) * ·) hy
          simp only [Nat.mul_add, ← Nat.mul_assoc, ← h8] at h9
          omega
    have hlt : 2 ^ (8 - k) * (x / 256 % 2 ^ k) + x % 256 / 2 ^ k < 256 := by
      have h1 : x / 256 % 2 ^ k < 2 ^ k := Nat.mod_lt _ (Nat.two_pow_pos k)
      have h2 : x % 256 / 2 ^ k < 2 ^ (8 - k) := by
        rw [Nat.div_lt_iff_lt_mul (Nat.two_pow_pos k), ← Nat.pow_add, show 8 - k + k = 8 from by omega]; omega
      have h8 : 2 ^ (8 - k) * 2 ^ k = 256 := by rw [← Nat.pow_add, show 8 - k + k = 8 from by omega]
      have h3 : 2 ^ (8 - k) * (x / 256 % 2 ^ k + 1) ≤ 2 ^ (8 - k) * 2 ^ k := Nat.mul_le_mul_left _ (by omega)
      rw [Nat.mul_add] at h3
      omega
    rw [rep, byt, ← shr_and k c hc hk hm n (x / 256), e, and_byte _ _ _ _ hlt hc, hm _ _ (by omega) (Nat.mod_lt _ (Nat.two_pow_pos k))]
theorem and_rep (c : Nat) (hc : c < 256) : ∀ (n x : Nat), x &&& rep c n = byt (fun b => b &&& c) n x
  | 0, x => by simp [rep, byt]
  | n + 1, x => by
    have hx : x = 256 * (x / 256) + x % 256 := (Nat.div_add_mod ..).symm
    rw [rep, byt, ← and_rep c hc n (x / 256)]
    conv => lhs; rw [hx]
    exact and_byte _ _ _ _ (by omega) hc
theorem byt_add (f g : Nat → Nat) : ∀ (n x : Nat), byt f n x + byt g n x = byt (fun b => f b + g b) n x
  | 0, _ => rfl
  | n + 1, x => by rw [byt, byt, byt, ← byt_add f g n]; omega
theorem byt_byt (f g : Nat → Nat) (hg : ∀ b, b < 256 → g b < 256) : ∀ (n x : Nat), byt f n (byt g n x) = byt (fun b => f (g b)) n x
  | 0, _ => rfl
  | n + 1, x => by
    have h := hg (x % 256) (by omega)
    rw [byt, show byt g (n + 1) x = 256 * byt g n (x / 256) + g (x % 256) from rfl, show (256 * byt g n (x / 256) + g (x % 256)) / 256 = byt g n (x / 256) from by omega, show (256 * byt g n (x / 256) + g (x % 256)) % 256 = g (x % 256) from by omega, byt_byt f g hg n]
    rfl

/-- The bytes below n have nibbles up to 4; above them is nothing. -/
def Nib : Nat → Nat → Prop
  | 0, x => x = 0
  | n + 1, x => x % 256 % 16 ≤ 4 ∧ x % 256 / 16 ≤ 4 ∧ Nib n (x / 256)
theorem Nib.low : ∀ {n x : Nat}, Nib n x → x % 16 ≤ 4
  | 0, x, h => by rw [show x = 0 from h]; decide
  | n + 1, x, h => by have := h.1; omega
theorem nib_byt (f : Nat → Nat) (hf : ∀ b, b < 256 → f b < 256 ∧ f b % 16 ≤ 4 ∧ f b / 16 ≤ 4) : ∀ (n x : Nat), Nib n (byt f n x)
  | 0, _ => rfl
  | n + 1, x => by
    have h := hf (x % 256) (by omega)
    unfold byt Nib
    rw [show (256 * byt f n (x / 256) + f (x % 256)) / 256 = byt f n (x / 256) from by omega, show (256 * byt f n (x / 256) + f (x % 256)) % 256 = f (x % 256) from by omega]
    exact ⟨h.2.1, h.2.2, nib_byt f hf n _⟩
theorem nib_mask : ∀ t : Fin 5, ∀ b : Fin 256, b.val % 16 ≤ 4 → b.val / 16 ≤ 4 → (16 * t.val + b.val / 16 + b.val) &&& 15 = b.val / 16 + b.val % 16 := by decide +kernel
theorem nib_sum : ∀ (n x : Nat), Nib n x → (x / 16 + x) &&& rep 15 n = byt (fun b => b / 16 + b % 16) n x
  | 0, x, h => by rw [show x = 0 from h]; rfl
  | n + 1, x, h => by
    obtain ⟨h1, h2, h3⟩ := h
    have hl := h3.low
    have e : x / 16 + x = 256 * (x / 256 / 16 + x / 256) + (16 * (x / 256 % 16) + x % 256 / 16 + x % 256) := by omega
    have hm := nib_mask ⟨x / 256 % 16, by omega⟩ ⟨x % 256, by omega⟩ h1 h2
    simp only at hm
    rw [rep, byt, ← nib_sum n _ h3, e, and_byte _ _ _ _ (by omega) (by decide), hm]

/-- How many of the k lowest bits are 1. -/
def cb : Nat → Nat → Nat
  | 0, _ => 0
  | k + 1, x => x % 2 + cb k (x / 2)
theorem cb_top : ∀ (k x : Nat), cb (k + 1) x = cb k x + (x.testBit k).toNat
  | 0, x => by
    simp only [cb, Nat.testBit_zero]
    by_cases h : x % 2 = 1 <;> simp [h] <;> omega
  | k + 1, x => by
    rw [cb, cb_top k (x / 2), Nat.testBit_succ, cb]; omega
theorem cb_add : ∀ (j k x : Nat), cb (j + k) x = cb j x + cb k (x / 2 ^ j)
  | 0, k, x => by simp [cb]
  | j + 1, k, x => by
    rw [show j + 1 + k = (j + k) + 1 from by omega, cb, cb_add j k, cb, Nat.pow_succ', Nat.div_div_eq_div_mul]; omega
theorem cb_mod : ∀ (j x : Nat), cb j (x % 2 ^ j) = cb j x
  | 0, _ => rfl
  | j + 1, x => by
    have h1 : x % 2 ^ (j + 1) % 2 = x % 2 := Nat.mod_mod_of_dvd x (Nat.dvd_of_pow_dvd (Nat.le_add_left 1 j) (Nat.dvd_refl _) |> fun h => by simpa using h)
    have h2 : x % 2 ^ (j + 1) / 2 = x / 2 % 2 ^ j := by rw [Nat.pow_succ', Nat.mod_mul_right_div_self]
    rw [cb, h1, h2, cb_mod j, cb]
theorem cb_bytes : ∀ (n x : Nat), cb (8 * n) x = bsum (cb 8) n x
  | 0, _ => rfl
  | n + 1, x => by
    rw [show 8 * (n + 1) = 8 + 8 * n from by omega, cb_add, bsum, show 256 = 2 ^ 8 from rfl, cb_mod, cb_bytes n]; omega

def pb (b : Nat) : Nat :=
  let b1 := (b / 2 &&& 85) + (b &&& 85)
  let b2 := (b1 / 4 &&& 51) + (b1 &&& 51)
  b2 / 16 + b2 % 16
theorem pb_eq : ∀ b : Fin 256, pb b.val = cb 8 b.val ∧ pb b.val ≤ 8 := by decide +kernel
theorem bsum_congr (f g : Nat → Nat) (h : ∀ b, b < 256 → f b = g b) : ∀ (n x : Nat), bsum f n x = bsum g n x
  | 0, _ => rfl
  | n + 1, x => by rw [bsum, bsum, bsum_congr f g h n, h _ (by omega)]

/-- The first three steps. -/
theorem pop3 (x : Nat) :
    let x1 := (x / 2 &&& rep 85 8) + (x &&& rep 85 8)
    let x2 := (x1 / 4 &&& rep 51 8) + (x1 &&& rep 51 8)
    (x2 / 16 + x2) &&& rep 15 8 = byt pb 8 x := by
  intro x1 x2
  have m1 : ∀ (b t : Nat), b < 256 → t < 2 ^ 1 → ((2 ^ (8 - 1) * t + b / 2 ^ 1) &&& 85) = ((b / 2 ^ 1) &&& 85) := fun b t hb ht =>
    (by decide +kernel : ∀ b : Fin 256, ∀ t : Fin 2, ((2 ^ (8 - 1) * t.val + b.val / 2 ^ 1) &&& 85) = ((b.val / 2 ^ 1) &&& 85)) ⟨b, hb⟩ ⟨t, ht⟩
  have m2 : ∀ (b t : Nat), b < 256 → t < 2 ^ 2 → ((2 ^ (8 - 2) * t + b / 2 ^ 2) &&& 51) = ((b / 2 ^ 2) &&& 51) := fun b t hb ht =>
    (by decide +kernel : ∀ b : Fin 256, ∀ t : Fin 4, ((2 ^ (8 - 2) * t.val + b.val / 2 ^ 2) &&& 51) = ((b.val / 2 ^ 2) &&& 51)) ⟨b, hb⟩ ⟨t, ht⟩
  have e1 : x1 = byt (fun b => (b / 2 &&& 85) + (b &&& 85)) 8 x := by
    have h1 := shr_and 1 85 (by decide) (by decide) m1 8 x
    have h2 := and_rep 85 (by decide) 8 x
    show (x / 2 ^ 1 &&& rep 85 8) + (x &&& rep 85 8) = _
    rw [h1, h2, byt_add]
  have e2 : x2 = byt (fun b => (((b / 2 &&& 85) + (b &&& 85)) / 4 &&& 51) + (((b / 2 &&& 85) + (b &&& 85)) &&& 51)) 8 x := by
    have h1 := shr_and 2 51 (by decide) (by decide) m2 8 x1
    have h2 := and_rep 51 (by decide) 8 x1
    show (x1 / 2 ^ 2 &&& rep 51 8) + (x1 &&& rep 51 8) = _
    rw [h1, h2, byt_add, e1, byt_byt]
    · intro b hb
      exact (by decide +kernel : ∀ b : Fin 256, (b.val / 2 &&& 85) + (b.val &&& 85) < 256) ⟨b, hb⟩
  have hn : Nib 8 x2 := by
    rw [e2]
    refine nib_byt _ (fun b hb => ?_) 8 x
    exact (by decide +kernel : ∀ b : Fin 256, (((b.val / 2 &&& 85) + (b.val &&& 85)) / 4 &&& 51) + (((b.val / 2 &&& 85) + (b.val &&& 85)) &&& 51) < 256 ∧ ((((b.val / 2 &&& 85) + (b.val &&& 85)) / 4 &&& 51) + (((b.val / 2 &&& 85) + (b.val &&& 85)) &&& 51)) % 16 ≤ 4 ∧ ((((b.val / 2 &&& 85) + (b.val &&& 85)) / 4 &&& 51) + (((b.val / 2 &&& 85) + (b.val &&& 85)) &&& 51)) / 16 ≤ 4) ⟨b, hb⟩
  rw [nib_sum 8 x2 hn, e2, byt_byt]
  · rfl
  · intro b hb
    exact (by decide +kernel : ∀ b : Fin 256, (((b.val / 2 &&& 85) + (b.val &&& 85)) / 4 &&& 51) + (((b.val / 2 &&& 85) + (b.val &&& 85)) &&& 51) < 256) ⟨b, hb⟩

/-- The last three steps: the low seven bits are the sum of the bytes. -/
theorem pop6 (x x3 x4 x5 x6 : Nat) (e3 : x3 = byt pb 8 x) (e4 : x4 = x3 + x3 / 256) (e5 : x5 = x4 + x4 / 65536) (e6 : x6 = x5 + x5 / 4294967296) :
    x3 < 18446744073709551616 ∧ x4 < 18446744073709551616 ∧ x5 < 18446744073709551616 ∧ x6 < 9223372036854775808 ∧ x6 % 128 = cb 64 x := by
  have hp : ∀ y, pb (y % 256) ≤ 8 := fun y => (pb_eq ⟨y % 256, by omega⟩).2
  have hc : cb 64 x = bsum pb 8 x := by
    rw [show 64 = 8 * 8 from rfl, cb_bytes]
    exact bsum_congr _ _ (fun b hb => (pb_eq ⟨b, hb⟩).1.symm) 8 x
  have h0 := hp x
  have h1 := hp (x / 256)
  have h2 := hp (x / 256 / 256)
  have h3 := hp (x / 256 / 256 / 256)
  have h4 := hp (x / 256 / 256 / 256 / 256)
  have h5 := hp (x / 256 / 256 / 256 / 256 / 256)
  have h6 := hp (x / 256 / 256 / 256 / 256 / 256 / 256)
  have h7 := hp (x / 256 / 256 / 256 / 256 / 256 / 256 / 256)
  rw [hc]
  simp only [byt, bsum] at e3 ⊢
  generalize pb (x % 256) = p0 at *
  generalize pb (x / 256 % 256) = p1 at *
  generalize pb (x / 256 / 256 % 256) = p2 at *
  generalize pb (x / 256 / 256 / 256 % 256) = p3 at *
  generalize pb (x / 256 / 256 / 256 / 256 % 256) = p4 at *
  generalize pb (x / 256 / 256 / 256 / 256 / 256 % 256) = p5 at *
  generalize pb (x / 256 / 256 / 256 / 256 / 256 / 256 % 256) = p6 at *
  generalize pb (x / 256 / 256 / 256 / 256 / 256 / 256 / 256 % 256) = p7 at *
  clear hp hc
  have e4' : x4 = (p0 + p1) + 256 * (p1 + p2) + 65536 * (p2 + p3) + 16777216 * (p3 + p4) + 4294967296 * (p4 + p5) + 1099511627776 * (p5 + p6) + 281474976710656 * (p6 + p7) + 72057594037927936 * p7 := by
    omega
  have e5' : x5 = (p0 + p1 + p2 + p3) + 256 * (p1 + p2 + p3 + p4) + 65536 * (p2 + p3 + p4 + p5) + 16777216 * (p3 + p4 + p5 + p6) + 4294967296 * (p4 + p5 + p6 + p7) + 1099511627776 * (p5 + p6 + p7) + 281474976710656 * (p6 + p7) + 72057594037927936 * p7 := by
    clear e3 e4
    omega
  have r3 : x3 < 18446744073709551616 := by omega
  have r4 : x4 < 18446744073709551616 := by clear e3 e4; omega
  have r5 : x5 < 18446744073709551616 := by clear e3 e4 e5 e4'; omega
  clear e3 e4 e5 e4'
  have q : x5 / 4294967296 = (p4 + p5 + p6 + p7) + 256 * (p5 + p6 + p7) + 65536 * (p6 + p7) + 16777216 * p7 := by
    clear r3 r4 r5 e6
    omega
  rw [q, e5'] at e6
  clear q e5'
  refine ⟨r3, r4, r5, ?_, ?_⟩
  · omega
  · omega

theorem and_i64_nat (a b : Nat) (ha : a < 9223372036854775808) (hb : b < 9223372036854775808) : bits .and .i64 (a : Int) (b : Int) = ((a &&& b : Nat) : Int) := by
  have h1 : (BitVec.ofInt 64 (a : Int)).toNat = a := by
    rw [BitVec.ofInt_natCast, BitVec.toNat_ofNat]; exact Nat.mod_eq_of_lt (by omega)
  have h2 : (BitVec.ofInt 64 (b : Int)).toNat = b := by
    rw [BitVec.ofInt_natCast, BitVec.toNat_ofNat]; exact Nat.mod_eq_of_lt (by omega)
  have h3 : a &&& b ≤ b := Nat.and_le_right
  show IntKind.i64.wrap ((BitVec.ofInt 64 (a : Int) &&& BitVec.ofInt 64 (b : Int)).toNat : Int) = _
  rw [BitVec.toNat_and, h1, h2]
  exact IntWalk.i64_in _ (by omega)
theorem rep85 : rep 85 8 = 6148914691236517205 := by decide
theorem rep51 : rep 51 8 = 3689348814741910323 := by decide
theorem rep15 : rep 15 8 = 1085102592571150095 := by decide

/-- The steps, in the forms that the walk leaves. -/
theorem pop_forms (s : Nat) (hs : s < 18446744073709551616) : ∃ x1 x2 x3 x4 x5 x6 : Nat,
    IntKind.u64.wrap (bits .and .u64 ((s : Int) / 2) 6148914691236517205 + bits .and .u64 (s : Int) 6148914691236517205) = (x1 : Int) ∧
    IntKind.u64.wrap (bits .and .u64 ((x1 : Int) / 4) 3689348814741910323 + bits .and .u64 (x1 : Int) 3689348814741910323) = (x2 : Int) ∧
    bits .and .u64 (IntKind.u64.wrap ((x2 : Int) / 16 + (x2 : Int))) 1085102592571150095 = (x3 : Int) ∧
    IntKind.u64.wrap ((x3 : Int) + (x3 : Int) / 256) = (x4 : Int) ∧
    IntKind.u64.wrap ((x4 : Int) + (x4 : Int) / 65536) = (x5 : Int) ∧
    IntKind.u64.wrap ((x5 : Int) + (x5 : Int) / 4294967296) = (x6 : Int) ∧
    RowKit.wrap64 (x6 : Int) = (x6 : Int) ∧ bits .and .i64 (x6 : Int) 127 = (cb 64 s : Int) := by
  have h3 := pop3 s
  simp only at h3
  obtain ⟨x1, e1⟩ : ∃ x1, x1 = (s / 2 &&& rep 85 8) + (s &&& rep 85 8) := ⟨_, rfl⟩
  rw [← e1] at h3
  obtain ⟨x2, e2⟩ : ∃ x2, x2 = (x1 / 4 &&& rep 51 8) + (x1 &&& rep 51 8) := ⟨_, rfl⟩
  rw [← e2] at h3
  obtain ⟨x3, e3⟩ : ∃ x3, x3 = (x2 / 16 + x2) &&& rep 15 8 := ⟨_, rfl⟩
  rw [← e3] at h3
  obtain ⟨b3, b4, b5, b6, h6⟩ := pop6 s x3 (x3 + x3 / 256) (x3 + x3 / 256 + (x3 + x3 / 256) / 65536) (x3 + x3 / 256 + (x3 + x3 / 256) / 65536 + (x3 + x3 / 256 + (x3 + x3 / 256) / 65536) / 4294967296) h3 rfl rfl rfl
  have l1 : s / 2 &&& rep 85 8 ≤ rep 85 8 := Nat.and_le_right
  have l2 : s &&& rep 85 8 ≤ rep 85 8 := Nat.and_le_right
  have l3 : x1 / 4 &&& rep 51 8 ≤ rep 51 8 := Nat.and_le_right
  have l4 : x1 &&& rep 51 8 ≤ rep 51 8 := Nat.and_le_right
  rw [rep85] at l1 l2 e1
  rw [rep51] at l3 l4 e2
  rw [rep15] at e3
  have hx1 : x1 < 18446744073709551616 := by omega
  have hx2 : x2 < 7378697629483820647 := by omega
  have k1 : bits .and .u64 ((s : Int) / 2) 6148914691236517205 = ((s / 2 &&& 6148914691236517205 : Nat) : Int) := u64_and_nat (s / 2) 6148914691236517205 (by omega) (by decide)
  have k2 : bits .and .u64 (s : Int) 6148914691236517205 = ((s &&& 6148914691236517205 : Nat) : Int) := u64_and_nat s 6148914691236517205 hs (by decide)
  have k3 : bits .and .u64 ((x1 : Int) / 4) 3689348814741910323 = ((x1 / 4 &&& 3689348814741910323 : Nat) : Int) := u64_and_nat (x1 / 4) 3689348814741910323 (by omega) (by decide)
  have k4 : bits .and .u64 (x1 : Int) 3689348814741910323 = ((x1 &&& 3689348814741910323 : Nat) : Int) := u64_and_nat x1 3689348814741910323 hx1 (by decide)
  have k5 : bits .and .u64 ((x2 / 16 + x2 : Nat) : Int) 1085102592571150095 = ((x2 / 16 + x2 &&& 1085102592571150095 : Nat) : Int) := u64_and_nat (x2 / 16 + x2) 1085102592571150095 (by omega) (by decide)
  refine ⟨x1, x2, x3, x3 + x3 / 256, x3 + x3 / 256 + (x3 + x3 / 256) / 65536, x3 + x3 / 256 + (x3 + x3 / 256) / 65536 + (x3 + x3 / 256 + (x3 + x3 / 256) / 65536) / 4294967296, ?_, ?_, ?_, ?_, ?_, ?_, ?_, ?_⟩
  · rw [k1, k2, IntWalk.u64_in _ (by omega)]; omega
  · rw [k3, k4, IntWalk.u64_in _ (by omega)]; omega
  · rw [IntWalk.u64_in _ (by omega), e3]; exact k5
  · rw [IntWalk.u64_in _ (by omega)]; omega
  · rw [IntWalk.u64_in _ (by omega)]; omega
  · rw [IntWalk.u64_in _ (by omega)]; omega
  · unfold RowKit.wrap64; omega
  · generalize x3 + x3 / 256 + (x3 + x3 / 256) / 65536 + (x3 + x3 / 256 + (x3 + x3 / 256) / 65536) / 4294967296 = x6 at *
    have : bits .and .i64 (x6 : Int) 127 = ((x6 &&& 127 : Nat) : Int) := and_i64_nat x6 127 (by omega) (by decide)
    rw [this, show 127 = 2 ^ 7 - 1 from rfl, Nat.and_two_pow_sub_one_eq_mod, ← h6]
end Go.Bs
