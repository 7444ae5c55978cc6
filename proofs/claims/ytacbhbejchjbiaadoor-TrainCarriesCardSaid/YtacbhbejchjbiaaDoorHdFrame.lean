/-
  FRAMES (of no program): layer 10: the check and the length.
-/
import Derived.Test.YtacbhbejchjbiaaDoorHdMath
namespace Go.Hd

structure Fr where
  kd : Int
  rt : Bool
  mo : Bool
  pw : Bool
  st : Bool
  la : Bool
  jo : Bool
  po : Int
  du : Int
  ta : Int
  fa : Int
  th : Int
  sq : Int
  fg : Int
  ct : Int
  ky : Int
  cn : Int
  bo : ByteArray

def vad (a : Int) : Prop := 0 < a ∧ a < 281474976710656
instance (a : Int) : Decidable (vad a) := by unfold vad; infer_instance
def grp (a : Int) : Prop := vad a ∧ a / 1099511627776 % 2 = 1
instance (a : Int) : Decidable (grp a) := by unfold grp; infer_instance
def rng (n lo hi : Int) : Prop := lo ≤ n ∧ n ≤ hi
instance (n lo hi : Int) : Decidable (rng n lo hi) := by unfold rng; infer_instance
/-- Numbers and addresses that the kind uses are in their ranges. -/
def rngs (f : Fr) : Prop :=
  rng f.du 0 32767 ∧ vad f.ta ∧ (fro f.kd → vad f.fa ∧ ¬ grp f.fa) ∧ (nb f.kd → vad f.th ∧ (grp f.th → f.kd = 18 ∧ ¬ grp f.ta) ∧ rng f.sq 0 4095) ∧
  (pl f.kd → rng f.po 0 2 ∧ rng f.ct 0 3) ∧ (f.kd = 18 → rng f.fg 0 15 ∧ rng f.ky 0 65535 ∧ rng f.cn 0 1099511627775)
instance (f : Fr) : Decidable (rngs f) := by unfold rngs; infer_instance
/-- A flag that the kind does not use is set. -/
def ufl (f : Fr) : Prop := ((f.rt = true ∨ f.pw = true) ∧ ¬ nb f.kd) ∨ ((f.mo = true ∨ f.jo = true) ∧ ¬ f.kd = 18) ∨ ((f.st = true ∨ f.la = true) ∧ ¬ pl f.kd)
instance (f : Fr) : Decidable (ufl f) := by unfold ufl; infer_instance
/-- A field that the kind does not use is not zero. -/
def unu (f : Fr) : Prop :=
  ufl f ∨ (¬ pl f.kd ∧ (¬ f.po = 0 ∨ ¬ f.ct = 0)) ∨ (¬ fro f.kd ∧ ¬ f.fa = 0) ∨ (¬ nb f.kd ∧ (¬ f.th = 0 ∨ ¬ f.sq = 0)) ∨ (¬ bd f.kd ∧ ¬ f.bo.size = 0) ∨ (¬ f.kd = 18 ∧ (¬ f.fg = 0 ∨ ¬ f.ky = 0 ∨ ¬ f.cn = 0))
instance (f : Fr) : Decidable (unu f) := by unfold unu; infer_instance
def bad (f : Fr) : Prop :=
  unu f ∨ (f.kd = 19 ∧ f.po = 2) ∨ (¬ f.cn = 0 ∧ f.ky = 0) ∨ ((¬ f.fg = 0 ∨ f.mo = true) ∧ (f.jo = true ∨ f.po = 2)) ∨ (grp f.ta ∧ ((pl f.kd ∧ ¬ f.po = 1) ∨ f.rt = true))
instance (f : Fr) : Decidable (bad f) := by unfold bad; infer_instance
/-- The check of a frame. -/
def chk (f : Fr) : Int := if ¬ isK f.kd then 3 else if ¬ rngs f then 4 else if bd f.kd ∧ 2048 < f.bo.size then 2 else if bad f then 3 else 0
/-- The length of a header. -/
def len (f : Fr) : Int :=
  if ¬ isK f.kd then 0 else 10 + (if fro f.kd then 6 else 0) + (if nb f.kd then 8 else 0) + (if pl f.kd then 1 else 0) + (if f.kd = 18 then (if f.ky = 0 then 2 else 7) else 0)

theorem bne_dec (x : Int) : (x != 0) = !decide (x = 0) := by by_cases h : x = 0 <;> simp [h]
/-- The flags of a frame, as a number. -/
def setv (f : Fr) : Int := (if f.rt then 1 else 0) + (if f.mo then 2 else 0) + (if f.pw then 4 else 0) + (if f.st then 8 else 0) + (if f.la then 16 else 0) + (if f.jo then 32 else 0)
theorem setv_bounds (f : Fr) : 0 ≤ setv f ∧ setv f ≤ 63 := by
  unfold setv
  cases f.rt <;> cases f.mo <;> cases f.pw <;> cases f.st <;> cases f.la <;> cases f.jo <;> decide
theorem flg_bounds (k : Int) : 0 ≤ flg k ∧ flg k ≤ 63 := by
  unfold flg
  split
  · decide
  · split
    · decide
    · split <;> decide
/-- A flag of the place i is set and not used. -/
def ub (f : Fr) (i : Nat) : Prop := setv f / 2 ^ i % 2 = 1 ∧ flg f.kd / 2 ^ i % 2 = 0
theorem set_bits (f : Fr) : (setv f / 2 ^ 0 % 2 = 1 ↔ f.rt = true) ∧ (setv f / 2 ^ 1 % 2 = 1 ↔ f.mo = true) ∧ (setv f / 2 ^ 2 % 2 = 1 ↔ f.pw = true) ∧ (setv f / 2 ^ 3 % 2 = 1 ↔ f.st = true) ∧ (setv f / 2 ^ 4 % 2 = 1 ↔ f.la = true) ∧ (setv f / 2 ^ 5 % 2 = 1 ↔ f.jo = true) := by
  unfold setv
  cases f.rt <;> cases f.mo <;> cases f.pw <;> cases f.st <;> cases f.la <;> cases f.jo <;> decide
theorem flg_bits (k : Int) : (flg k / 2 ^ 0 % 2 = 0 ↔ ¬ nb k) ∧ (flg k / 2 ^ 1 % 2 = 0 ↔ ¬ k = 18) ∧ (flg k / 2 ^ 2 % 2 = 0 ↔ ¬ nb k) ∧ (flg k / 2 ^ 3 % 2 = 0 ↔ ¬ pl k) ∧ (flg k / 2 ^ 4 % 2 = 0 ↔ ¬ pl k) ∧ (flg k / 2 ^ 5 % 2 = 0 ↔ ¬ k = 18) := by
  have c : (mg k ∧ nb k ∧ ¬ pl k ∧ ¬ k = 18 ∧ flg k = 5) ∨ (¬ mg k ∧ nb k ∧ pl k ∧ k = 18 ∧ flg k = 63) ∨ (¬ mg k ∧ nb k ∧ pl k ∧ ¬ k = 18 ∧ flg k = 29) ∨ (¬ mg k ∧ ¬ nb k ∧ ¬ pl k ∧ ¬ k = 18 ∧ flg k = 0) := by
    unfold flg
    by_cases h1 : mg k
    · rw [if_pos h1]; refine .inl ⟨h1, .inl h1, ?_, ?_, rfl⟩
      · unfold mg at h1; unfold pl; omega
      · unfold mg at h1; omega
    · rw [if_neg h1]
      by_cases h2 : k = 18
      · rw [if_pos h2]; exact .inr (.inl ⟨h1, .inr (.inl h2), .inl h2, h2, rfl⟩)
      · rw [if_neg h2]
        by_cases h3 : k = 19
        · rw [if_pos h3]; exact .inr (.inr (.inl ⟨h1, .inr (.inr h3), .inr h3, h2, rfl⟩))
        · rw [if_neg h3]
          have hp : ¬ pl k := fun h => h.elim h2 h3
          exact .inr (.inr (.inr ⟨h1, fun h => h.elim h1 hp, hp, h2, rfl⟩))
  rcases c with ⟨-, h1, h2, h3, h4⟩ | ⟨-, h1, h2, h3, h4⟩ | ⟨-, h1, h2, h3, h4⟩ | ⟨-, h1, h2, h3, h4⟩ <;> rw [h4] <;> simp [h1, h2, h3] <;> decide
theorem ufl_bits (f : Fr) : ufl f ↔ ∃ i, i < 6 ∧ ub f i := by
  obtain ⟨a0, a1, a2, a3, a4, a5⟩ := set_bits f
  obtain ⟨b0, b1, b2, b3, b4, b5⟩ := flg_bits f.kd
  unfold ufl ub
  constructor
  · rintro (⟨h | h, h'⟩ | ⟨h | h, h'⟩ | ⟨h | h, h'⟩)
    · exact ⟨0, by decide, a0.2 h, b0.2 h'⟩
    · exact ⟨2, by decide, a2.2 h, b2.2 h'⟩
    · exact ⟨1, by decide, a1.2 h, b1.2 h'⟩
    · exact ⟨5, by decide, a5.2 h, b5.2 h'⟩
    · exact ⟨3, by decide, a3.2 h, b3.2 h'⟩
    · exact ⟨4, by decide, a4.2 h, b4.2 h'⟩
  · rintro ⟨i, hi, h, h'⟩
    match i, hi with
    | 0, _ => exact .inl ⟨.inl (a0.1 h), b0.1 h'⟩
    | 1, _ => exact .inr (.inl ⟨.inl (a1.1 h), b1.1 h'⟩)
    | 2, _ => exact .inl ⟨.inr (a2.1 h), b2.1 h'⟩
    | 3, _ => exact .inr (.inr ⟨.inl (a3.1 h), b3.1 h'⟩)
    | 4, _ => exact .inr (.inr ⟨.inr (a4.1 h), b4.1 h'⟩)
    | 5, _ => exact .inr (.inl ⟨.inr (a5.1 h), b5.1 h'⟩)
end Go.Hd
