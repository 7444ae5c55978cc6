/-
  SETS OF FIELDS AS BITS: what is filled and not used; what is used and out of its range (layer 15).
-/
import Derived.Test.YtcpfkikifhcdmaaMgProg
import Derived.Laws.BitsAllLaws
import Derived.Laws.BitsLemmas
namespace Go.Mg
open Go.Wr

/-- A number as 64 bits. -/
def B (z : Int) : BitVec 64 := BitVec.ofInt 64 z
theorem B_wrap (x : BitVec 64) : B (IntKind.i64.wrap (x.toNat : Int)) = x := by
  unfold B
  apply BitVec.eq_of_toNat_eq
  have hx := x.isLt
  rw [BitVec.toNat_ofInt, IntKind.wrap_i64]
  omega
theorem B_or (a b : Int) : B (bits .or .i64 a b) = B a ||| B b := B_wrap _
theorem wrap_zero (x : BitVec 64) : IntKind.i64.wrap (x.toNat : Int) = 0 ↔ x = 0#64 := by
  rw [IntKind.wrap_i64]
  have hx := x.isLt
  constructor
  · intro h0
    apply BitVec.eq_of_toNat_eq
    have e0 : (0#64).toNat = 0 := rfl
    rw [e0]
    omega
  · intro h0
    have e0 : (0#64).toNat = 0 := rfl
    rw [h0, e0]; decide
theorem andNot_zero (a b : Int) : bits .andNot .i64 a b = 0 ↔ B a &&& ~~~ B b = 0#64 := wrap_zero _
theorem and_zero (a b : Int) : bits .and .i64 a b = 0 ↔ B a &&& B b = 0#64 := wrap_zero _
theorem or_and_zero (x y m : BitVec 64) : (x ||| y) &&& m = 0#64 ↔ x &&& m = 0#64 ∧ y &&& m = 0#64 := by
  constructor
  · intro h
    constructor
    · ext i hi
      have := congrArg (fun z => z.getLsbD i) h
      simp at this ⊢
      intro hx; exact this (.inl hx)
    · ext i hi
      have := congrArg (fun z => z.getLsbD i) h
      simp at this ⊢
      intro hx; exact this (.inr hx)
  · rintro ⟨h1, h2⟩
    ext i hi
    have g1 := congrArg (fun z => z.getLsbD i) h1
    have g2 := congrArg (fun z => z.getLsbD i) h2
    simp at g1 g2 ⊢
    rintro (hx | hx)
    · exact g1 hx
    · exact g2 hx
theorem wh_zero (b : Bool) (c : Int) (m : BitVec 64) : B (wh b c) &&& m = 0#64 ↔ (b = true → B c &&& m = 0#64) := by
  cases b
  · have e : B (wh false c) = 0#64 := rfl
    rw [e]; simp
  · have e : B (wh true c) = B c := rfl
    rw [e]; simp
theorem fif_zero (b : Bd) (u : Int) : bits .andNot .i64 (fif b) u = 0 ↔
    ((b.sp != 0) = true → B 1 &&& ~~~ B u = 0#64) ∧ ((b.st != 0) = true → B 2 &&& ~~~ B u = 0#64) ∧ ((b.hn != 0) = true → B 4 &&& ~~~ B u = 0#64) ∧ ((!b.nm.toList.isEmpty) = true → B 8 &&& ~~~ B u = 0#64) ∧ ((b.ls != 0) = true → B 16 &&& ~~~ B u = 0#64) ∧ ((b.dv != 0) = true → B 32 &&& ~~~ B u = 0#64) ∧ ((b.od != 0) = true → B 64 &&& ~~~ B u = 0#64) ∧ ((b.ai != 0) = true → B 128 &&& ~~~ B u = 0#64) ∧ ((b.ct != 0) = true → B 256 &&& ~~~ B u = 0#64) ∧ ((b.sr != 0) = true → B 512 &&& ~~~ B u = 0#64) ∧ ((b.sz != 0) = true → B 1024 &&& ~~~ B u = 0#64) ∧ ((b.ch != 0) = true → B 2048 &&& ~~~ B u = 0#64) ∧ ((b.cn != 0) = true → B 4096 &&& ~~~ B u = 0#64) ∧ ((!pz b) = true → B 8192 &&& ~~~ B u = 0#64) := by
  rw [andNot_zero]
  unfold fif
  simp only [B_or, or_and_zero, wh_zero, and_assoc]
theorem obf_zero (b : Bd) (u : Int) : bits .and .i64 (obf b) u = 0 ↔
    ((!wn b.sp 1 4) = true → B 1 &&& B u = 0#64) ∧ ((!wn b.st 0 255) = true → B 2 &&& B u = 0#64) ∧ ((!wn b.hn 0 65535) = true → B 4 &&& B u = 0#64) ∧ (b.nm.toList.isEmpty = true → B 8 &&& B u = 0#64) ∧ ((!wn b.ls 1 255) = true → B 16 &&& B u = 0#64) ∧ ((!wn b.dv 0 15) = true → B 32 &&& B u = 0#64) ∧ ((!sgl b.od) = true → B 64 &&& B u = 0#64) ∧ ((!wn b.ai 0 63) = true → B 128 &&& B u = 0#64) ∧ ((!wn b.ct 0 3) = true → B 256 &&& B u = 0#64) ∧ ((!wn b.sr 0 4095) = true → B 512 &&& B u = 0#64) ∧ ((!wn b.sz (if b.kd = 7 then 0 else 1) 64) = true → B 1024 &&& B u = 0#64) ∧ ((!wn b.ch 1 8) = true → B 2048 &&& B u = 0#64) ∧ ((!wn b.cn 0 255) = true → B 4096 &&& B u = 0#64) ∧ ((!(plf b || wop b)) = true → B 8192 &&& B u = 0#64) := by
  rw [and_zero]
  unfold obf
  simp only [B_or, or_and_zero, wh_zero, and_assoc]
theorem empty_iff' (s : ByteArray) : s.toList.isEmpty = decide (s.size = 0) := by
  rw [ByteArray.toList_eq]
  obtain ⟨⟨l⟩⟩ := s
  cases l <;> simp [ByteArray.size]
theorem size_zero (s : ByteArray) : s.size = 0 ↔ s = ⟨#[]⟩ := by
  constructor
  · intro h; apply ByteArray.ext; exact Array.eq_empty_of_size_eq_zero h
  · intro h; rw [h]; rfl
theorem n2_1 : (B 1 &&& ~~~ B 2 = 0#64) = False := eq_false (by decide +kernel)
theorem a2_1 : (B 1 &&& B 2 = 0#64) = True := eq_true (by decide +kernel)
theorem n2_2 : (B 2 &&& ~~~ B 2 = 0#64) = True := eq_true (by decide +kernel)
theorem a2_2 : (B 2 &&& B 2 = 0#64) = False := eq_false (by decide +kernel)
theorem n2_4 : (B 4 &&& ~~~ B 2 = 0#64) = False := eq_false (by decide +kernel)
theorem a2_4 : (B 4 &&& B 2 = 0#64) = True := eq_true (by decide +kernel)
theorem n2_8 : (B 8 &&& ~~~ B 2 = 0#64) = False := eq_false (by decide +kernel)
theorem a2_8 : (B 8 &&& B 2 = 0#64) = True := eq_true (by decide +kernel)
theorem n2_16 : (B 16 &&& ~~~ B 2 = 0#64) = False := eq_false (by decide +kernel)
theorem a2_16 : (B 16 &&& B 2 = 0#64) = True := eq_true (by decide +kernel)
theorem n2_32 : (B 32 &&& ~~~ B 2 = 0#64) = False := eq_false (by decide +kernel)
theorem a2_32 : (B 32 &&& B 2 = 0#64) = True := eq_true (by decide +kernel)
theorem n2_64 : (B 64 &&& ~~~ B 2 = 0#64) = False := eq_false (by decide +kernel)
theorem a2_64 : (B 64 &&& B 2 = 0#64) = True := eq_true (by decide +kernel)
theorem n2_128 : (B 128 &&& ~~~ B 2 = 0#64) = False := eq_false (by decide +kernel)
theorem a2_128 : (B 128 &&& B 2 = 0#64) = True := eq_true (by decide +kernel)
theorem n2_256 : (B 256 &&& ~~~ B 2 = 0#64) = False := eq_false (by decide +kernel)
theorem a2_256 : (B 256 &&& B 2 = 0#64) = True := eq_true (by decide +kernel)
theorem n2_512 : (B 512 &&& ~~~ B 2 = 0#64) = False := eq_false (by decide +kernel)
theorem a2_512 : (B 512 &&& B 2 = 0#64) = True := eq_true (by decide +kernel)
theorem n2_1024 : (B 1024 &&& ~~~ B 2 = 0#64) = False := eq_false (by decide +kernel)
theorem a2_1024 : (B 1024 &&& B 2 = 0#64) = True := eq_true (by decide +kernel)
theorem n2_2048 : (B 2048 &&& ~~~ B 2 = 0#64) = False := eq_false (by decide +kernel)
theorem a2_2048 : (B 2048 &&& B 2 = 0#64) = True := eq_true (by decide +kernel)
theorem n2_4096 : (B 4096 &&& ~~~ B 2 = 0#64) = False := eq_false (by decide +kernel)
theorem a2_4096 : (B 4096 &&& B 2 = 0#64) = True := eq_true (by decide +kernel)
theorem n2_8192 : (B 8192 &&& ~~~ B 2 = 0#64) = False := eq_false (by decide +kernel)
theorem a2_8192 : (B 8192 &&& B 2 = 0#64) = True := eq_true (by decide +kernel)
theorem n7_1 : (B 1 &&& ~~~ B 7 = 0#64) = True := eq_true (by decide +kernel)
theorem a7_1 : (B 1 &&& B 7 = 0#64) = False := eq_false (by decide +kernel)
theorem n7_2 : (B 2 &&& ~~~ B 7 = 0#64) = True := eq_true (by decide +kernel)
theorem a7_2 : (B 2 &&& B 7 = 0#64) = False := eq_false (by decide +kernel)
theorem n7_4 : (B 4 &&& ~~~ B 7 = 0#64) = True := eq_true (by decide +kernel)
theorem a7_4 : (B 4 &&& B 7 = 0#64) = False := eq_false (by decide +kernel)
theorem n7_8 : (B 8 &&& ~~~ B 7 = 0#64) = False := eq_false (by decide +kernel)
theorem a7_8 : (B 8 &&& B 7 = 0#64) = True := eq_true (by decide +kernel)
theorem n7_16 : (B 16 &&& ~~~ B 7 = 0#64) = False := eq_false (by decide +kernel)
theorem a7_16 : (B 16 &&& B 7 = 0#64) = True := eq_true (by decide +kernel)
theorem n7_32 : (B 32 &&& ~~~ B 7 = 0#64) = False := eq_false (by decide +kernel)
theorem a7_32 : (B 32 &&& B 7 = 0#64) = True := eq_true (by decide +kernel)
theorem n7_64 : (B 64 &&& ~~~ B 7 = 0#64) = False := eq_false (by decide +kernel)
theorem a7_64 : (B 64 &&& B 7 = 0#64) = True := eq_true (by decide +kernel)
theorem n7_128 : (B 128 &&& ~~~ B 7 = 0#64) = False := eq_false (by decide +kernel)
theorem a7_128 : (B 128 &&& B 7 = 0#64) = True := eq_true (by decide +kernel)
theorem n7_256 : (B 256 &&& ~~~ B 7 = 0#64) = False := eq_false (by decide +kernel)
theorem a7_256 : (B 256 &&& B 7 = 0#64) = True := eq_true (by decide +kernel)
theorem n7_512 : (B 512 &&& ~~~ B 7 = 0#64) = False := eq_false (by decide +kernel)
theorem a7_512 : (B 512 &&& B 7 = 0#64) = True := eq_true (by decide +kernel)
theorem n7_1024 : (B 1024 &&& ~~~ B 7 = 0#64) = False := eq_false (by decide +kernel)
theorem a7_1024 : (B 1024 &&& B 7 = 0#64) = True := eq_true (by decide +kernel)
theorem n7_2048 : (B 2048 &&& ~~~ B 7 = 0#64) = False := eq_false (by decide +kernel)
theorem a7_2048 : (B 2048 &&& B 7 = 0#64) = True := eq_true (by decide +kernel)
theorem n7_4096 : (B 4096 &&& ~~~ B 7 = 0#64) = False := eq_false (by decide +kernel)
theorem a7_4096 : (B 4096 &&& B 7 = 0#64) = True := eq_true (by decide +kernel)
theorem n7_8192 : (B 8192 &&& ~~~ B 7 = 0#64) = False := eq_false (by decide +kernel)
theorem a7_8192 : (B 8192 &&& B 7 = 0#64) = True := eq_true (by decide +kernel)
theorem n56_1 : (B 1 &&& ~~~ B 56 = 0#64) = False := eq_false (by decide +kernel)
theorem a56_1 : (B 1 &&& B 56 = 0#64) = True := eq_true (by decide +kernel)
theorem n56_2 : (B 2 &&& ~~~ B 56 = 0#64) = False := eq_false (by decide +kernel)
theorem a56_2 : (B 2 &&& B 56 = 0#64) = True := eq_true (by decide +kernel)
theorem n56_4 : (B 4 &&& ~~~ B 56 = 0#64) = False := eq_false (by decide +kernel)
theorem a56_4 : (B 4 &&& B 56 = 0#64) = True := eq_true (by decide +kernel)
theorem n56_8 : (B 8 &&& ~~~ B 56 = 0#64) = True := eq_true (by decide +kernel)
theorem a56_8 : (B 8 &&& B 56 = 0#64) = False := eq_false (by decide +kernel)
theorem n56_16 : (B 16 &&& ~~~ B 56 = 0#64) = True := eq_true (by decide +kernel)
theorem a56_16 : (B 16 &&& B 56 = 0#64) = False := eq_false (by decide +kernel)
theorem n56_32 : (B 32 &&& ~~~ B 56 = 0#64) = True := eq_true (by decide +kernel)
theorem a56_32 : (B 32 &&& B 56 = 0#64) = False := eq_false (by decide +kernel)
theorem n56_64 : (B 64 &&& ~~~ B 56 = 0#64) = False := eq_false (by decide +kernel)
theorem a56_64 : (B 64 &&& B 56 = 0#64) = True := eq_true (by decide +kernel)
theorem n56_128 : (B 128 &&& ~~~ B 56 = 0#64) = False := eq_false (by decide +kernel)
theorem a56_128 : (B 128 &&& B 56 = 0#64) = True := eq_true (by decide +kernel)
theorem n56_256 : (B 256 &&& ~~~ B 56 = 0#64) = False := eq_false (by decide +kernel)
theorem a56_256 : (B 256 &&& B 56 = 0#64) = True := eq_true (by decide +kernel)
theorem n56_512 : (B 512 &&& ~~~ B 56 = 0#64) = False := eq_false (by decide +kernel)
theorem a56_512 : (B 512 &&& B 56 = 0#64) = True := eq_true (by decide +kernel)
theorem n56_1024 : (B 1024 &&& ~~~ B 56 = 0#64) = False := eq_false (by decide +kernel)
theorem a56_1024 : (B 1024 &&& B 56 = 0#64) = True := eq_true (by decide +kernel)
theorem n56_2048 : (B 2048 &&& ~~~ B 56 = 0#64) = False := eq_false (by decide +kernel)
theorem a56_2048 : (B 2048 &&& B 56 = 0#64) = True := eq_true (by decide +kernel)
theorem n56_4096 : (B 4096 &&& ~~~ B 56 = 0#64) = False := eq_false (by decide +kernel)
theorem a56_4096 : (B 4096 &&& B 56 = 0#64) = True := eq_true (by decide +kernel)
theorem n56_8192 : (B 8192 &&& ~~~ B 56 = 0#64) = False := eq_false (by decide +kernel)
theorem a56_8192 : (B 8192 &&& B 56 = 0#64) = True := eq_true (by decide +kernel)
theorem n120_1 : (B 1 &&& ~~~ B 120 = 0#64) = False := eq_false (by decide +kernel)
theorem a120_1 : (B 1 &&& B 120 = 0#64) = True := eq_true (by decide +kernel)
theorem n120_2 : (B 2 &&& ~~~ B 120 = 0#64) = False := eq_false (by decide +kernel)
theorem a120_2 : (B 2 &&& B 120 = 0#64) = True := eq_true (by decide +kernel)
theorem n120_4 : (B 4 &&& ~~~ B 120 = 0#64) = False := eq_false (by decide +kernel)
theorem a120_4 : (B 4 &&& B 120 = 0#64) = True := eq_true (by decide +kernel)
theorem n120_8 : (B 8 &&& ~~~ B 120 = 0#64) = True := eq_true (by decide +kernel)
theorem a120_8 : (B 8 &&& B 120 = 0#64) = False := eq_false (by decide +kernel)
theorem n120_16 : (B 16 &&& ~~~ B 120 = 0#64) = True := eq_true (by decide +kernel)
theorem a120_16 : (B 16 &&& B 120 = 0#64) = False := eq_false (by decide +kernel)
theorem n120_32 : (B 32 &&& ~~~ B 120 = 0#64) = True := eq_true (by decide +kernel)
theorem a120_32 : (B 32 &&& B 120 = 0#64) = False := eq_false (by decide +kernel)
theorem n120_64 : (B 64 &&& ~~~ B 120 = 0#64) = True := eq_true (by decide +kernel)
theorem a120_64 : (B 64 &&& B 120 = 0#64) = False := eq_false (by decide +kernel)
theorem n120_128 : (B 128 &&& ~~~ B 120 = 0#64) = False := eq_false (by decide +kernel)
theorem a120_128 : (B 128 &&& B 120 = 0#64) = True := eq_true (by decide +kernel)
theorem n120_256 : (B 256 &&& ~~~ B 120 = 0#64) = False := eq_false (by decide +kernel)
theorem a120_256 : (B 256 &&& B 120 = 0#64) = True := eq_true (by decide +kernel)
theorem n120_512 : (B 512 &&& ~~~ B 120 = 0#64) = False := eq_false (by decide +kernel)
theorem a120_512 : (B 512 &&& B 120 = 0#64) = True := eq_true (by decide +kernel)
theorem n120_1024 : (B 1024 &&& ~~~ B 120 = 0#64) = False := eq_false (by decide +kernel)
theorem a120_1024 : (B 1024 &&& B 120 = 0#64) = True := eq_true (by decide +kernel)
theorem n120_2048 : (B 2048 &&& ~~~ B 120 = 0#64) = False := eq_false (by decide +kernel)
theorem a120_2048 : (B 2048 &&& B 120 = 0#64) = True := eq_true (by decide +kernel)
theorem n120_4096 : (B 4096 &&& ~~~ B 120 = 0#64) = False := eq_false (by decide +kernel)
theorem a120_4096 : (B 4096 &&& B 120 = 0#64) = True := eq_true (by decide +kernel)
theorem n120_8192 : (B 8192 &&& ~~~ B 120 = 0#64) = False := eq_false (by decide +kernel)
theorem a120_8192 : (B 8192 &&& B 120 = 0#64) = True := eq_true (by decide +kernel)
theorem n130_1 : (B 1 &&& ~~~ B 130 = 0#64) = False := eq_false (by decide +kernel)
theorem a130_1 : (B 1 &&& B 130 = 0#64) = True := eq_true (by decide +kernel)
theorem n130_2 : (B 2 &&& ~~~ B 130 = 0#64) = True := eq_true (by decide +kernel)
theorem a130_2 : (B 2 &&& B 130 = 0#64) = False := eq_false (by decide +kernel)
theorem n130_4 : (B 4 &&& ~~~ B 130 = 0#64) = False := eq_false (by decide +kernel)
theorem a130_4 : (B 4 &&& B 130 = 0#64) = True := eq_true (by decide +kernel)
theorem n130_8 : (B 8 &&& ~~~ B 130 = 0#64) = False := eq_false (by decide +kernel)
theorem a130_8 : (B 8 &&& B 130 = 0#64) = True := eq_true (by decide +kernel)
theorem n130_16 : (B 16 &&& ~~~ B 130 = 0#64) = False := eq_false (by decide +kernel)
theorem a130_16 : (B 16 &&& B 130 = 0#64) = True := eq_true (by decide +kernel)
theorem n130_32 : (B 32 &&& ~~~ B 130 = 0#64) = False := eq_false (by decide +kernel)
theorem a130_32 : (B 32 &&& B 130 = 0#64) = True := eq_true (by decide +kernel)
theorem n130_64 : (B 64 &&& ~~~ B 130 = 0#64) = False := eq_false (by decide +kernel)
theorem a130_64 : (B 64 &&& B 130 = 0#64) = True := eq_true (by decide +kernel)
theorem n130_128 : (B 128 &&& ~~~ B 130 = 0#64) = True := eq_true (by decide +kernel)
theorem a130_128 : (B 128 &&& B 130 = 0#64) = False := eq_false (by decide +kernel)
theorem n130_256 : (B 256 &&& ~~~ B 130 = 0#64) = False := eq_false (by decide +kernel)
theorem a130_256 : (B 256 &&& B 130 = 0#64) = True := eq_true (by decide +kernel)
theorem n130_512 : (B 512 &&& ~~~ B 130 = 0#64) = False := eq_false (by decide +kernel)
theorem a130_512 : (B 512 &&& B 130 = 0#64) = True := eq_true (by decide +kernel)
theorem n130_1024 : (B 1024 &&& ~~~ B 130 = 0#64) = False := eq_false (by decide +kernel)
theorem a130_1024 : (B 1024 &&& B 130 = 0#64) = True := eq_true (by decide +kernel)
theorem n130_2048 : (B 2048 &&& ~~~ B 130 = 0#64) = False := eq_false (by decide +kernel)
theorem a130_2048 : (B 2048 &&& B 130 = 0#64) = True := eq_true (by decide +kernel)
theorem n130_4096 : (B 4096 &&& ~~~ B 130 = 0#64) = False := eq_false (by decide +kernel)
theorem a130_4096 : (B 4096 &&& B 130 = 0#64) = True := eq_true (by decide +kernel)
theorem n130_8192 : (B 8192 &&& ~~~ B 130 = 0#64) = False := eq_false (by decide +kernel)
theorem a130_8192 : (B 8192 &&& B 130 = 0#64) = True := eq_true (by decide +kernel)
theorem n258_1 : (B 1 &&& ~~~ B 258 = 0#64) = False := eq_false (by decide +kernel)
theorem a258_1 : (B 1 &&& B 258 = 0#64) = True := eq_true (by decide +kernel)
theorem n258_2 : (B 2 &&& ~~~ B 258 = 0#64) = True := eq_true (by decide +kernel)
theorem a258_2 : (B 2 &&& B 258 = 0#64) = False := eq_false (by decide +kernel)
theorem n258_4 : (B 4 &&& ~~~ B 258 = 0#64) = False := eq_false (by decide +kernel)
theorem a258_4 : (B 4 &&& B 258 = 0#64) = True := eq_true (by decide +kernel)
theorem n258_8 : (B 8 &&& ~~~ B 258 = 0#64) = False := eq_false (by decide +kernel)
theorem a258_8 : (B 8 &&& B 258 = 0#64) = True := eq_true (by decide +kernel)
theorem n258_16 : (B 16 &&& ~~~ B 258 = 0#64) = False := eq_false (by decide +kernel)
theorem a258_16 : (B 16 &&& B 258 = 0#64) = True := eq_true (by decide +kernel)
theorem n258_32 : (B 32 &&& ~~~ B 258 = 0#64) = False := eq_false (by decide +kernel)
theorem a258_32 : (B 32 &&& B 258 = 0#64) = True := eq_true (by decide +kernel)
theorem n258_64 : (B 64 &&& ~~~ B 258 = 0#64) = False := eq_false (by decide +kernel)
theorem a258_64 : (B 64 &&& B 258 = 0#64) = True := eq_true (by decide +kernel)
theorem n258_128 : (B 128 &&& ~~~ B 258 = 0#64) = False := eq_false (by decide +kernel)
theorem a258_128 : (B 128 &&& B 258 = 0#64) = True := eq_true (by decide +kernel)
theorem n258_256 : (B 256 &&& ~~~ B 258 = 0#64) = True := eq_true (by decide +kernel)
theorem a258_256 : (B 256 &&& B 258 = 0#64) = False := eq_false (by decide +kernel)
theorem n258_512 : (B 512 &&& ~~~ B 258 = 0#64) = False := eq_false (by decide +kernel)
theorem a258_512 : (B 512 &&& B 258 = 0#64) = True := eq_true (by decide +kernel)
theorem n258_1024 : (B 1024 &&& ~~~ B 258 = 0#64) = False := eq_false (by decide +kernel)
theorem a258_1024 : (B 1024 &&& B 258 = 0#64) = True := eq_true (by decide +kernel)
theorem n258_2048 : (B 2048 &&& ~~~ B 258 = 0#64) = False := eq_false (by decide +kernel)
theorem a258_2048 : (B 2048 &&& B 258 = 0#64) = True := eq_true (by decide +kernel)
theorem n258_4096 : (B 4096 &&& ~~~ B 258 = 0#64) = False := eq_false (by decide +kernel)
theorem a258_4096 : (B 4096 &&& B 258 = 0#64) = True := eq_true (by decide +kernel)
theorem n258_8192 : (B 8192 &&& ~~~ B 258 = 0#64) = False := eq_false (by decide +kernel)
theorem a258_8192 : (B 8192 &&& B 258 = 0#64) = True := eq_true (by decide +kernel)
theorem n1282_1 : (B 1 &&& ~~~ B 1282 = 0#64) = False := eq_false (by decide +kernel)
theorem a1282_1 : (B 1 &&& B 1282 = 0#64) = True := eq_true (by decide +kernel)
theorem n1282_2 : (B 2 &&& ~~~ B 1282 = 0#64) = True := eq_true (by decide +kernel)
theorem a1282_2 : (B 2 &&& B 1282 = 0#64) = False := eq_false (by decide +kernel)
theorem n1282_4 : (B 4 &&& ~~~ B 1282 = 0#64) = False := eq_false (by decide +kernel)
theorem a1282_4 : (B 4 &&& B 1282 = 0#64) = True := eq_true (by decide +kernel)
theorem n1282_8 : (B 8 &&& ~~~ B 1282 = 0#64) = False := eq_false (by decide +kernel)
theorem a1282_8 : (B 8 &&& B 1282 = 0#64) = True := eq_true (by decide +kernel)
theorem n1282_16 : (B 16 &&& ~~~ B 1282 = 0#64) = False := eq_false (by decide +kernel)
theorem a1282_16 : (B 16 &&& B 1282 = 0#64) = True := eq_true (by decide +kernel)
theorem n1282_32 : (B 32 &&& ~~~ B 1282 = 0#64) = False := eq_false (by decide +kernel)
theorem a1282_32 : (B 32 &&& B 1282 = 0#64) = True := eq_true (by decide +kernel)
theorem n1282_64 : (B 64 &&& ~~~ B 1282 = 0#64) = False := eq_false (by decide +kernel)
theorem a1282_64 : (B 64 &&& B 1282 = 0#64) = True := eq_true (by decide +kernel)
theorem n1282_128 : (B 128 &&& ~~~ B 1282 = 0#64) = False := eq_false (by decide +kernel)
theorem a1282_128 : (B 128 &&& B 1282 = 0#64) = True := eq_true (by decide +kernel)
theorem n1282_256 : (B 256 &&& ~~~ B 1282 = 0#64) = True := eq_true (by decide +kernel)
theorem a1282_256 : (B 256 &&& B 1282 = 0#64) = False := eq_false (by decide +kernel)
theorem n1282_512 : (B 512 &&& ~~~ B 1282 = 0#64) = False := eq_false (by decide +kernel)
theorem a1282_512 : (B 512 &&& B 1282 = 0#64) = True := eq_true (by decide +kernel)
theorem n1282_1024 : (B 1024 &&& ~~~ B 1282 = 0#64) = True := eq_true (by decide +kernel)
theorem a1282_1024 : (B 1024 &&& B 1282 = 0#64) = False := eq_false (by decide +kernel)
theorem n1282_2048 : (B 2048 &&& ~~~ B 1282 = 0#64) = False := eq_false (by decide +kernel)
theorem a1282_2048 : (B 2048 &&& B 1282 = 0#64) = True := eq_true (by decide +kernel)
theorem n1282_4096 : (B 4096 &&& ~~~ B 1282 = 0#64) = False := eq_false (by decide +kernel)
theorem a1282_4096 : (B 4096 &&& B 1282 = 0#64) = True := eq_true (by decide +kernel)
theorem n1282_8192 : (B 8192 &&& ~~~ B 1282 = 0#64) = False := eq_false (by decide +kernel)
theorem a1282_8192 : (B 8192 &&& B 1282 = 0#64) = True := eq_true (by decide +kernel)
theorem n1792_1 : (B 1 &&& ~~~ B 1792 = 0#64) = False := eq_false (by decide +kernel)
theorem a1792_1 : (B 1 &&& B 1792 = 0#64) = True := eq_true (by decide +kernel)
theorem n1792_2 : (B 2 &&& ~~~ B 1792 = 0#64) = False := eq_false (by decide +kernel)
theorem a1792_2 : (B 2 &&& B 1792 = 0#64) = True := eq_true (by decide +kernel)
theorem n1792_4 : (B 4 &&& ~~~ B 1792 = 0#64) = False := eq_false (by decide +kernel)
theorem a1792_4 : (B 4 &&& B 1792 = 0#64) = True := eq_true (by decide +kernel)
theorem n1792_8 : (B 8 &&& ~~~ B 1792 = 0#64) = False := eq_false (by decide +kernel)
theorem a1792_8 : (B 8 &&& B 1792 = 0#64) = True := eq_true (by decide +kernel)
theorem n1792_16 : (B 16 &&& ~~~ B 1792 = 0#64) = False := eq_false (by decide +kernel)
theorem a1792_16 : (B 16 &&& B 1792 = 0#64) = True := eq_true (by decide +kernel)
theorem n1792_32 : (B 32 &&& ~~~ B 1792 = 0#64) = False := eq_false (by decide +kernel)
theorem a1792_32 : (B 32 &&& B 1792 = 0#64) = True := eq_true (by decide +kernel)
theorem n1792_64 : (B 64 &&& ~~~ B 1792 = 0#64) = False := eq_false (by decide +kernel)
theorem a1792_64 : (B 64 &&& B 1792 = 0#64) = True := eq_true (by decide +kernel)
theorem n1792_128 : (B 128 &&& ~~~ B 1792 = 0#64) = False := eq_false (by decide +kernel)
theorem a1792_128 : (B 128 &&& B 1792 = 0#64) = True := eq_true (by decide +kernel)
theorem n1792_256 : (B 256 &&& ~~~ B 1792 = 0#64) = True := eq_true (by decide +kernel)
theorem a1792_256 : (B 256 &&& B 1792 = 0#64) = False := eq_false (by decide +kernel)
theorem n1792_512 : (B 512 &&& ~~~ B 1792 = 0#64) = True := eq_true (by decide +kernel)
theorem a1792_512 : (B 512 &&& B 1792 = 0#64) = False := eq_false (by decide +kernel)
theorem n1792_1024 : (B 1024 &&& ~~~ B 1792 = 0#64) = True := eq_true (by decide +kernel)
theorem a1792_1024 : (B 1024 &&& B 1792 = 0#64) = False := eq_false (by decide +kernel)
theorem n1792_2048 : (B 2048 &&& ~~~ B 1792 = 0#64) = False := eq_false (by decide +kernel)
theorem a1792_2048 : (B 2048 &&& B 1792 = 0#64) = True := eq_true (by decide +kernel)
theorem n1792_4096 : (B 4096 &&& ~~~ B 1792 = 0#64) = False := eq_false (by decide +kernel)
theorem a1792_4096 : (B 4096 &&& B 1792 = 0#64) = True := eq_true (by decide +kernel)
theorem n1792_8192 : (B 8192 &&& ~~~ B 1792 = 0#64) = False := eq_false (by decide +kernel)
theorem a1792_8192 : (B 8192 &&& B 1792 = 0#64) = True := eq_true (by decide +kernel)
theorem n4160_1 : (B 1 &&& ~~~ B 4160 = 0#64) = False := eq_false (by decide +kernel)
theorem a4160_1 : (B 1 &&& B 4160 = 0#64) = True := eq_true (by decide +kernel)
theorem n4160_2 : (B 2 &&& ~~~ B 4160 = 0#64) = False := eq_false (by decide +kernel)
theorem a4160_2 : (B 2 &&& B 4160 = 0#64) = True := eq_true (by decide +kernel)
theorem n4160_4 : (B 4 &&& ~~~ B 4160 = 0#64) = False := eq_false (by decide +kernel)
theorem a4160_4 : (B 4 &&& B 4160 = 0#64) = True := eq_true (by decide +kernel)
theorem n4160_8 : (B 8 &&& ~~~ B 4160 = 0#64) = False := eq_false (by decide +kernel)
theorem a4160_8 : (B 8 &&& B 4160 = 0#64) = True := eq_true (by decide +kernel)
theorem n4160_16 : (B 16 &&& ~~~ B 4160 = 0#64) = False := eq_false (by decide +kernel)
theorem a4160_16 : (B 16 &&& B 4160 = 0#64) = True := eq_true (by decide +kernel)
theorem n4160_32 : (B 32 &&& ~~~ B 4160 = 0#64) = False := eq_false (by decide +kernel)
theorem a4160_32 : (B 32 &&& B 4160 = 0#64) = True := eq_true (by decide +kernel)
theorem n4160_64 : (B 64 &&& ~~~ B 4160 = 0#64) = True := eq_true (by decide +kernel)
theorem a4160_64 : (B 64 &&& B 4160 = 0#64) = False := eq_false (by decide +kernel)
theorem n4160_128 : (B 128 &&& ~~~ B 4160 = 0#64) = False := eq_false (by decide +kernel)
theorem a4160_128 : (B 128 &&& B 4160 = 0#64) = True := eq_true (by decide +kernel)
theorem n4160_256 : (B 256 &&& ~~~ B 4160 = 0#64) = False := eq_false (by decide +kernel)
theorem a4160_256 : (B 256 &&& B 4160 = 0#64) = True := eq_true (by decide +kernel)
theorem n4160_512 : (B 512 &&& ~~~ B 4160 = 0#64) = False := eq_false (by decide +kernel)
theorem a4160_512 : (B 512 &&& B 4160 = 0#64) = True := eq_true (by decide +kernel)
theorem n4160_1024 : (B 1024 &&& ~~~ B 4160 = 0#64) = False := eq_false (by decide +kernel)
theorem a4160_1024 : (B 1024 &&& B 4160 = 0#64) = True := eq_true (by decide +kernel)
theorem n4160_2048 : (B 2048 &&& ~~~ B 4160 = 0#64) = False := eq_false (by decide +kernel)
theorem a4160_2048 : (B 2048 &&& B 4160 = 0#64) = True := eq_true (by decide +kernel)
theorem n4160_4096 : (B 4096 &&& ~~~ B 4160 = 0#64) = True := eq_true (by decide +kernel)
theorem a4160_4096 : (B 4096 &&& B 4160 = 0#64) = False := eq_false (by decide +kernel)
theorem n4160_8192 : (B 8192 &&& ~~~ B 4160 = 0#64) = False := eq_false (by decide +kernel)
theorem a4160_8192 : (B 8192 &&& B 4160 = 0#64) = True := eq_true (by decide +kernel)
theorem n6144_1 : (B 1 &&& ~~~ B 6144 = 0#64) = False := eq_false (by decide +kernel)
theorem a6144_1 : (B 1 &&& B 6144 = 0#64) = True := eq_true (by decide +kernel)
theorem n6144_2 : (B 2 &&& ~~~ B 6144 = 0#64) = False := eq_false (by decide +kernel)
theorem a6144_2 : (B 2 &&& B 6144 = 0#64) = True := eq_true (by decide +kernel)
theorem n6144_4 : (B 4 &&& ~~~ B 6144 = 0#64) = False := eq_false (by decide +kernel)
theorem a6144_4 : (B 4 &&& B 6144 = 0#64) = True := eq_true (by decide +kernel)
theorem n6144_8 : (B 8 &&& ~~~ B 6144 = 0#64) = False := eq_false (by decide +kernel)
theorem a6144_8 : (B 8 &&& B 6144 = 0#64) = True := eq_true (by decide +kernel)
theorem n6144_16 : (B 16 &&& ~~~ B 6144 = 0#64) = False := eq_false (by decide +kernel)
theorem a6144_16 : (B 16 &&& B 6144 = 0#64) = True := eq_true (by decide +kernel)
theorem n6144_32 : (B 32 &&& ~~~ B 6144 = 0#64) = False := eq_false (by decide +kernel)
theorem a6144_32 : (B 32 &&& B 6144 = 0#64) = True := eq_true (by decide +kernel)
theorem n6144_64 : (B 64 &&& ~~~ B 6144 = 0#64) = False := eq_false (by decide +kernel)
theorem a6144_64 : (B 64 &&& B 6144 = 0#64) = True := eq_true (by decide +kernel)
theorem n6144_128 : (B 128 &&& ~~~ B 6144 = 0#64) = False := eq_false (by decide +kernel)
theorem a6144_128 : (B 128 &&& B 6144 = 0#64) = True := eq_true (by decide +kernel)
theorem n6144_256 : (B 256 &&& ~~~ B 6144 = 0#64) = False := eq_false (by decide +kernel)
theorem a6144_256 : (B 256 &&& B 6144 = 0#64) = True := eq_true (by decide +kernel)
theorem n6144_512 : (B 512 &&& ~~~ B 6144 = 0#64) = False := eq_false (by decide +kernel)
theorem a6144_512 : (B 512 &&& B 6144 = 0#64) = True := eq_true (by decide +kernel)
theorem n6144_1024 : (B 1024 &&& ~~~ B 6144 = 0#64) = False := eq_false (by decide +kernel)
theorem a6144_1024 : (B 1024 &&& B 6144 = 0#64) = True := eq_true (by decide +kernel)
theorem n6144_2048 : (B 2048 &&& ~~~ B 6144 = 0#64) = True := eq_true (by decide +kernel)
theorem a6144_2048 : (B 2048 &&& B 6144 = 0#64) = False := eq_false (by decide +kernel)
theorem n6144_4096 : (B 4096 &&& ~~~ B 6144 = 0#64) = True := eq_true (by decide +kernel)
theorem a6144_4096 : (B 4096 &&& B 6144 = 0#64) = False := eq_false (by decide +kernel)
theorem n6144_8192 : (B 8192 &&& ~~~ B 6144 = 0#64) = False := eq_false (by decide +kernel)
theorem a6144_8192 : (B 8192 &&& B 6144 = 0#64) = True := eq_true (by decide +kernel)
theorem n8192_1 : (B 1 &&& ~~~ B 8192 = 0#64) = False := eq_false (by decide +kernel)
theorem a8192_1 : (B 1 &&& B 8192 = 0#64) = True := eq_true (by decide +kernel)
theorem n8192_2 : (B 2 &&& ~~~ B 8192 = 0#64) = False := eq_false (by decide +kernel)
theorem a8192_2 : (B 2 &&& B 8192 = 0#64) = True := eq_true (by decide +kernel)
theorem n8192_4 : (B 4 &&& ~~~ B 8192 = 0#64) = False := eq_false (by decide +kernel)
theorem a8192_4 : (B 4 &&& B 8192 = 0#64) = True := eq_true (by decide +kernel)
theorem n8192_8 : (B 8 &&& ~~~ B 8192 = 0#64) = False := eq_false (by decide +kernel)
theorem a8192_8 : (B 8 &&& B 8192 = 0#64) = True := eq_true (by decide +kernel)
theorem n8192_16 : (B 16 &&& ~~~ B 8192 = 0#64) = False := eq_false (by decide +kernel)
theorem a8192_16 : (B 16 &&& B 8192 = 0#64) = True := eq_true (by decide +kernel)
theorem n8192_32 : (B 32 &&& ~~~ B 8192 = 0#64) = False := eq_false (by decide +kernel)
theorem a8192_32 : (B 32 &&& B 8192 = 0#64) = True := eq_true (by decide +kernel)
theorem n8192_64 : (B 64 &&& ~~~ B 8192 = 0#64) = False := eq_false (by decide +kernel)
theorem a8192_64 : (B 64 &&& B 8192 = 0#64) = True := eq_true (by decide +kernel)
theorem n8192_128 : (B 128 &&& ~~~ B 8192 = 0#64) = False := eq_false (by decide +kernel)
theorem a8192_128 : (B 128 &&& B 8192 = 0#64) = True := eq_true (by decide +kernel)
theorem n8192_256 : (B 256 &&& ~~~ B 8192 = 0#64) = False := eq_false (by decide +kernel)
theorem a8192_256 : (B 256 &&& B 8192 = 0#64) = True := eq_true (by decide +kernel)
theorem n8192_512 : (B 512 &&& ~~~ B 8192 = 0#64) = False := eq_false (by decide +kernel)
theorem a8192_512 : (B 512 &&& B 8192 = 0#64) = True := eq_true (by decide +kernel)
theorem n8192_1024 : (B 1024 &&& ~~~ B 8192 = 0#64) = False := eq_false (by decide +kernel)
theorem a8192_1024 : (B 1024 &&& B 8192 = 0#64) = True := eq_true (by decide +kernel)
theorem n8192_2048 : (B 2048 &&& ~~~ B 8192 = 0#64) = False := eq_false (by decide +kernel)
theorem a8192_2048 : (B 2048 &&& B 8192 = 0#64) = True := eq_true (by decide +kernel)
theorem n8192_4096 : (B 4096 &&& ~~~ B 8192 = 0#64) = False := eq_false (by decide +kernel)
theorem a8192_4096 : (B 4096 &&& B 8192 = 0#64) = True := eq_true (by decide +kernel)
theorem n8192_8192 : (B 8192 &&& ~~~ B 8192 = 0#64) = True := eq_true (by decide +kernel)
theorem a8192_8192 : (B 8192 &&& B 8192 = 0#64) = False := eq_false (by decide +kernel)
theorem n8194_1 : (B 1 &&& ~~~ B 8194 = 0#64) = False := eq_false (by decide +kernel)
theorem a8194_1 : (B 1 &&& B 8194 = 0#64) = True := eq_true (by decide +kernel)
theorem n8194_2 : (B 2 &&& ~~~ B 8194 = 0#64) = True := eq_true (by decide +kernel)
theorem a8194_2 : (B 2 &&& B 8194 = 0#64) = False := eq_false (by decide +kernel)
theorem n8194_4 : (B 4 &&& ~~~ B 8194 = 0#64) = False := eq_false (by decide +kernel)
theorem a8194_4 : (B 4 &&& B 8194 = 0#64) = True := eq_true (by decide +kernel)
theorem n8194_8 : (B 8 &&& ~~~ B 8194 = 0#64) = False := eq_false (by decide +kernel)
theorem a8194_8 : (B 8 &&& B 8194 = 0#64) = True := eq_true (by decide +kernel)
theorem n8194_16 : (B 16 &&& ~~~ B 8194 = 0#64) = False := eq_false (by decide +kernel)
theorem a8194_16 : (B 16 &&& B 8194 = 0#64) = True := eq_true (by decide +kernel)
theorem n8194_32 : (B 32 &&& ~~~ B 8194 = 0#64) = False := eq_false (by decide +kernel)
theorem a8194_32 : (B 32 &&& B 8194 = 0#64) = True := eq_true (by decide +kernel)
theorem n8194_64 : (B 64 &&& ~~~ B 8194 = 0#64) = False := eq_false (by decide +kernel)
theorem a8194_64 : (B 64 &&& B 8194 = 0#64) = True := eq_true (by decide +kernel)
theorem n8194_128 : (B 128 &&& ~~~ B 8194 = 0#64) = False := eq_false (by decide +kernel)
theorem a8194_128 : (B 128 &&& B 8194 = 0#64) = True := eq_true (by decide +kernel)
theorem n8194_256 : (B 256 &&& ~~~ B 8194 = 0#64) = False := eq_false (by decide +kernel)
theorem a8194_256 : (B 256 &&& B 8194 = 0#64) = True := eq_true (by decide +kernel)
theorem n8194_512 : (B 512 &&& ~~~ B 8194 = 0#64) = False := eq_false (by decide +kernel)
theorem a8194_512 : (B 512 &&& B 8194 = 0#64) = True := eq_true (by decide +kernel)
theorem n8194_1024 : (B 1024 &&& ~~~ B 8194 = 0#64) = False := eq_false (by decide +kernel)
theorem a8194_1024 : (B 1024 &&& B 8194 = 0#64) = True := eq_true (by decide +kernel)
theorem n8194_2048 : (B 2048 &&& ~~~ B 8194 = 0#64) = False := eq_false (by decide +kernel)
theorem a8194_2048 : (B 2048 &&& B 8194 = 0#64) = True := eq_true (by decide +kernel)
theorem n8194_4096 : (B 4096 &&& ~~~ B 8194 = 0#64) = False := eq_false (by decide +kernel)
theorem a8194_4096 : (B 4096 &&& B 8194 = 0#64) = True := eq_true (by decide +kernel)
theorem n8194_8192 : (B 8192 &&& ~~~ B 8194 = 0#64) = True := eq_true (by decide +kernel)
theorem a8194_8192 : (B 8192 &&& B 8194 = 0#64) = False := eq_false (by decide +kernel)
set_option maxHeartbeats 4000000 in
theorem fif_us (b : Bd) (hk : isK b.kd) : (bits .andNot .i64 (fif b) (us b.kd) != 0) = !decide (usB b = b) := by
  have h : bits .andNot .i64 (fif b) (us b.kd) = 0 ↔ usB b = b := by
    rw [fif_zero, empty_iff', ext_iff]
    have hz : zb.kd = 0 ∧ zb.sp = 0 ∧ zb.st = 0 ∧ zb.hn = 0 ∧ zb.nm = ⟨#[]⟩ ∧ zb.ls = 0 ∧ zb.dv = 0 ∧ zb.od = 0 ∧ zb.ai = 0 ∧ zb.ct = 0 ∧ zb.sr = 0 ∧ zb.sz = 0 ∧ zb.ch = 0 ∧ zb.cn = 0 ∧ zb.pf = 0 ∧ zb.pp = 0 ∧ zb.pl = 0 := by decide
    obtain ⟨z0, z1, z2, z3, z4, z5, z6, z7, z8, z9, z10, z11, z12, z13, z14, z15, z16⟩ := hz
    unfold usB pz
    generalize zb = z at *
    obtain ⟨e0, hE, z4'⟩ : ∃ e0 : ByteArray, (∀ s : ByteArray, s.size = 0 ↔ s = e0) ∧ z.nm = e0 := ⟨⟨#[]⟩, size_zero, z4⟩
    clear z4
    generalize hd : b.kd = k at hk
    rcases kinds hk with rfl | rfl | rfl | rfl | rfl | rfl | rfl | rfl | rfl | rfl | rfl | rfl
    · rw [show us 1 = 7 from rfl]; simp only [n7_1, n7_2, n7_4, n7_8, n7_16, n7_32, n7_64, n7_128, n7_256, n7_512, n7_1024, n7_2048, n7_4096, n7_8192, Int.reduceEq, if_true, if_false]; clear hk; simp [*]; try grind
    · rw [show us 2 = 56 from rfl]; simp only [n56_1, n56_2, n56_4, n56_8, n56_16, n56_32, n56_64, n56_128, n56_256, n56_512, n56_1024, n56_2048, n56_4096, n56_8192, Int.reduceEq, if_true, if_false]; clear hk; simp [*]; try grind
    · rw [show us 3 = 120 from rfl]; simp only [n120_1, n120_2, n120_4, n120_8, n120_16, n120_32, n120_64, n120_128, n120_256, n120_512, n120_1024, n120_2048, n120_4096, n120_8192, Int.reduceEq, if_true, if_false]; clear hk; simp [*]; try grind
    · rw [show us 4 = 130 from rfl]; simp only [n130_1, n130_2, n130_4, n130_8, n130_16, n130_32, n130_64, n130_128, n130_256, n130_512, n130_1024, n130_2048, n130_4096, n130_8192, Int.reduceEq, if_true, if_false]; clear hk; simp [*]; try grind
    · rw [show us 5 = 2 from rfl]; simp only [n2_1, n2_2, n2_4, n2_8, n2_16, n2_32, n2_64, n2_128, n2_256, n2_512, n2_1024, n2_2048, n2_4096, n2_8192, Int.reduceEq, if_true, if_false]; clear hk; simp [*]; try grind
    · rw [show us 6 = 1792 from rfl]; simp only [n1792_1, n1792_2, n1792_4, n1792_8, n1792_16, n1792_32, n1792_64, n1792_128, n1792_256, n1792_512, n1792_1024, n1792_2048, n1792_4096, n1792_8192, Int.reduceEq, if_true, if_false]; clear hk; simp [*]; try grind
    · rw [show us 7 = 1282 from rfl]; simp only [n1282_1, n1282_2, n1282_4, n1282_8, n1282_16, n1282_32, n1282_64, n1282_128, n1282_256, n1282_512, n1282_1024, n1282_2048, n1282_4096, n1282_8192, Int.reduceEq, if_true, if_false]; clear hk; simp [*]; try grind
    · rw [show us 8 = 258 from rfl]; simp only [n258_1, n258_2, n258_4, n258_8, n258_16, n258_32, n258_64, n258_128, n258_256, n258_512, n258_1024, n258_2048, n258_4096, n258_8192, Int.reduceEq, if_true, if_false]; clear hk; simp [*]; try grind
    · rw [show us 9 = 6144 from rfl]; simp only [n6144_1, n6144_2, n6144_4, n6144_8, n6144_16, n6144_32, n6144_64, n6144_128, n6144_256, n6144_512, n6144_1024, n6144_2048, n6144_4096, n6144_8192, Int.reduceEq, if_true, if_false]; clear hk; simp [*]; try grind
    · rw [show us 10 = 8192 from rfl]; simp only [n8192_1, n8192_2, n8192_4, n8192_8, n8192_16, n8192_32, n8192_64, n8192_128, n8192_256, n8192_512, n8192_1024, n8192_2048, n8192_4096, n8192_8192, Int.reduceEq, if_true, if_false]; clear hk; simp [*]; try grind
    · rw [show us 11 = 8194 from rfl]; simp only [n8194_1, n8194_2, n8194_4, n8194_8, n8194_16, n8194_32, n8194_64, n8194_128, n8194_256, n8194_512, n8194_1024, n8194_2048, n8194_4096, n8194_8192, Int.reduceEq, if_true, if_false]; clear hk; simp [*]; try grind
    · rw [show us 12 = 4160 from rfl]; simp only [n4160_1, n4160_2, n4160_4, n4160_8, n4160_16, n4160_32, n4160_64, n4160_128, n4160_256, n4160_512, n4160_1024, n4160_2048, n4160_4096, n4160_8192, Int.reduceEq, if_true, if_false]; clear hk; simp [*]; try grind
  by_cases hu : usB b = b
  · rw [decide_eq_true hu, h.2 hu]; rfl
  · rw [decide_eq_false hu]; simp only [Bool.not_false, bne_iff_ne]; exact fun h0 => hu (h.1 h0)
set_option maxHeartbeats 4000000 in
theorem obf_us (b : Bd) (hk : isK b.kd) : (bits .and .i64 (obf b) (us b.kd) != 0) = !rng b := by
  have h : bits .and .i64 (obf b) (us b.kd) = 0 ↔ rng b = true := by
    rw [obf_zero, empty_iff']
    unfold rng
    generalize hd : b.kd = k at hk
    rcases kinds hk with rfl | rfl | rfl | rfl | rfl | rfl | rfl | rfl | rfl | rfl | rfl | rfl
    · rw [show us 1 = 7 from rfl]; simp only [a7_1, a7_2, a7_4, a7_8, a7_16, a7_32, a7_64, a7_128, a7_256, a7_512, a7_1024, a7_2048, a7_4096, a7_8192, Int.reduceEq, if_true, if_false]; simp; try grind
    · rw [show us 2 = 56 from rfl]; simp only [a56_1, a56_2, a56_4, a56_8, a56_16, a56_32, a56_64, a56_128, a56_256, a56_512, a56_1024, a56_2048, a56_4096, a56_8192, Int.reduceEq, if_true, if_false]; simp; try grind
    · rw [show us 3 = 120 from rfl]; simp only [a120_1, a120_2, a120_4, a120_8, a120_16, a120_32, a120_64, a120_128, a120_256, a120_512, a120_1024, a120_2048, a120_4096, a120_8192, Int.reduceEq, if_true, if_false]; simp; try grind
    · rw [show us 4 = 130 from rfl]; simp only [a130_1, a130_2, a130_4, a130_8, a130_16, a130_32, a130_64, a130_128, a130_256, a130_512, a130_1024, a130_2048, a130_4096, a130_8192, Int.reduceEq, if_true, if_false]; simp; try grind
    · rw [show us 5 = 2 from rfl]; simp only [a2_1, a2_2, a2_4, a2_8, a2_16, a2_32, a2_64, a2_128, a2_256, a2_512, a2_1024, a2_2048, a2_4096, a2_8192, Int.reduceEq, if_true, if_false]; simp; try grind
    · rw [show us 6 = 1792 from rfl]; simp only [a1792_1, a1792_2, a1792_4, a1792_8, a1792_16, a1792_32, a1792_64, a1792_128, a1792_256, a1792_512, a1792_1024, a1792_2048, a1792_4096, a1792_8192, Int.reduceEq, if_true, if_false]; simp; try grind
    · rw [show us 7 = 1282 from rfl]; simp only [a1282_1, a1282_2, a1282_4, a1282_8, a1282_16, a1282_32, a1282_64, a1282_128, a1282_256, a1282_512, a1282_1024, a1282_2048, a1282_4096, a1282_8192, Int.reduceEq, if_true, if_false]; simp; try grind
    · rw [show us 8 = 258 from rfl]; simp only [a258_1, a258_2, a258_4, a258_8, a258_16, a258_32, a258_64, a258_128, a258_256, a258_512, a258_1024, a258_2048, a258_4096, a258_8192, Int.reduceEq, if_true, if_false]; simp; try grind
    · rw [show us 9 = 6144 from rfl]; simp only [a6144_1, a6144_2, a6144_4, a6144_8, a6144_16, a6144_32, a6144_64, a6144_128, a6144_256, a6144_512, a6144_1024, a6144_2048, a6144_4096, a6144_8192, Int.reduceEq, if_true, if_false]; simp; try grind
    · rw [show us 10 = 8192 from rfl]; simp only [a8192_1, a8192_2, a8192_4, a8192_8, a8192_16, a8192_32, a8192_64, a8192_128, a8192_256, a8192_512, a8192_1024, a8192_2048, a8192_4096, a8192_8192, Int.reduceEq, if_true, if_false]; have hw : wop b = false := by unfold wop; rw [hd]; rfl
      rw [hw]; simp
    · rw [show us 11 = 8194 from rfl]; simp only [a8194_1, a8194_2, a8194_4, a8194_8, a8194_16, a8194_32, a8194_64, a8194_128, a8194_256, a8194_512, a8194_1024, a8194_2048, a8194_4096, a8194_8192, Int.reduceEq, if_true, if_false]; simp; try grind
    · rw [show us 12 = 4160 from rfl]; simp only [a4160_1, a4160_2, a4160_4, a4160_8, a4160_16, a4160_32, a4160_64, a4160_128, a4160_256, a4160_512, a4160_1024, a4160_2048, a4160_4096, a4160_8192, Int.reduceEq, if_false]; simp; try grind
  cases hu : rng b
  · simp only [Bool.not_false, bne_iff_ne]; exact fun h0 => by rw [h.1 h0] at hu; cases hu
  · rw [h.2 hu]; rfl
end Go.Mg
