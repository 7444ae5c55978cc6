/-
  THE OCTETS OF A HEADER (of no program): layer 10.
-/
import Derived.Test.YtacbhbejchjbiaaDoorHdFrame
import Derived.Test.YtacbhbejchjbiaaDoorAdMath
namespace Go.Hd
open Go.Wr Go.Ad

/-- The octets of the header of a frame. -/
def o1 (f : Fr) : List UInt8 := le f.kd.toNat 1 ++ le (setv f + 64 * f.po).toNat 1 ++ le f.du.toNat 2 ++ be f.ta.toNat
def o2 (f : Fr) : List UInt8 := if fro f.kd then be f.fa.toNat else []
def o3 (f : Fr) : List UInt8 := if nb f.kd then be f.th.toNat ++ le (16 * f.sq + f.fg).toNat 2 else []
def o4 (f : Fr) : List UInt8 := if pl f.kd then le f.ct.toNat 1 else []
def o5 (f : Fr) : List UInt8 := if f.kd = 18 then le f.ky.toNat 2 ++ (if f.ky = 0 then [] else le f.cn.toNat 5) else []
def oct (f : Fr) : List UInt8 := o1 f ++ o2 f ++ o3 f ++ o4 f ++ o5 f

/-- What a valid frame's numbers are. -/
structure Okf (f : Fr) : Prop where
  kd : isK f.kd
  po : 0 ≤ f.po ∧ f.po ≤ 2
  pl0 : ¬ pl f.kd → f.po = 0
  du : 0 ≤ f.du ∧ f.du ≤ 32767
  ta : vad f.ta
  fa : fro f.kd → vad f.fa ∧ ¬ grp f.fa
  th : nb f.kd → vad f.th
  sq : nb f.kd → 0 ≤ f.sq ∧ f.sq ≤ 4095
  fg : 0 ≤ f.fg ∧ f.fg ≤ 15
  ct : pl f.kd → 0 ≤ f.ct ∧ f.ct ≤ 3
  ky : f.kd = 18 → 0 ≤ f.ky ∧ f.ky ≤ 65535
  cn : f.kd = 18 → 0 ≤ f.cn ∧ f.cn ≤ 1099511627775

theorem chk_ok {f : Fr} (h : chk f = 0) : isK f.kd ∧ rngs f ∧ ¬ (bd f.kd ∧ 2048 < f.bo.size) ∧ ¬ bad f := by
  unfold chk at h
  by_cases h1 : isK f.kd
  · by_cases h2 : rngs f
    · by_cases h3 : bd f.kd ∧ 2048 < f.bo.size
      · simp only [h1, h2, h3, not_true, if_false, and_self, if_true] at h; omega
      · by_cases h4 : bad f
        · simp only [h1, h2, h3, h4, not_true, if_false, if_true] at h; omega
        · exact ⟨h1, h2, h3, h4⟩
    · simp only [h1, h2, not_true, not_false_eq_true, if_false, if_true] at h; omega
  · simp only [h1, not_false_eq_true, if_true] at h; omega
theorem chk_zero {f : Fr} (h1 : isK f.kd) (h2 : rngs f) (h3 : ¬ (bd f.kd ∧ 2048 < f.bo.size)) (h4 : ¬ bad f) : chk f = 0 := by
  unfold chk
  simp only [h1, h2, h3, h4, not_true, if_false]
theorem okf_of {f : Fr} (h : chk f = 0) : Okf f := by
  obtain ⟨h1, ⟨r1, r2, r3, r4, r5, r6⟩, h3, h4⟩ := chk_ok h
  have hu : ¬ unu f := fun hu => h4 (.inl hu)
  have hp : ¬ pl f.kd → f.po = 0 ∧ f.ct = 0 := fun hp => by
    by_cases h0 : f.po = 0
    · by_cases h00 : f.ct = 0
      · exact ⟨h0, h00⟩
      · exact absurd (.inr (.inl ⟨hp, .inr h00⟩)) hu
    · exact absurd (.inr (.inl ⟨hp, .inl h0⟩)) hu
  have hd : ¬ f.kd = 18 → f.fg = 0 := fun hp => by
    by_cases h0 : f.fg = 0
    · exact h0
    · exact absurd (.inr (.inr (.inr (.inr (.inr ⟨hp, .inl h0⟩))))) hu
  refine ⟨h1, ?_, fun hp' => (hp hp').1, r1, r2, r3, fun h => (r4 h).1, fun h => (r4 h).2.2, ?_, fun h => (r5 h).2, fun h => (r6 h).2.1, fun h => (r6 h).2.2⟩
  · by_cases hp' : pl f.kd
    · exact (r5 hp').1
    · rw [(hp hp').1]; omega
  · by_cases hp' : f.kd = 18
    · exact (r6 hp').1
    · rw [hd hp']; omega
theorem oct_len (f : Fr) : (oct f).length ≤ 40 := by
  unfold oct o1 o2 o3 o4 o5
  repeat' split
  all_goals simp [le_len, be_len]
theorem oct_len_is {f : Fr} (h : chk f = 0) : ((oct f).length : Int) = len f := by
  have hk := (okf_of h).kd
  have e1 : (o1 f).length = 10 := by unfold o1; simp [le_len, be_len]
  have e2 : ((o2 f).length : Int) = if fro f.kd then 6 else 0 := by unfold o2; split <;> simp [be_len]
  have e3 : ((o3 f).length : Int) = if nb f.kd then 8 else 0 := by unfold o3; split <;> simp [be_len, le_len]
  have e4 : ((o4 f).length : Int) = if pl f.kd then 1 else 0 := by unfold o4; split <;> simp [le_len]
  have e5 : ((o5 f).length : Int) = if f.kd = 18 then (if f.ky = 0 then 2 else 7) else 0 := by
    unfold o5; split
    · split <;> simp [le_len]
    · simp
  unfold oct len
  rw [if_neg (not_not_intro hk)]
  simp only [List.length_append, Int.natCast_add]
  rw [e1, e2, e3, e4, e5]
  rfl
end Go.Hd
