/-
  SETS OF FIELDS AS BITS: what is filled and not used (layer 10).
-/
import Derived.Test.YtacbhbejchjbiaaDoorHdFlags
import Derived.Laws.BitsAllLaws
import Derived.Laws.BitsLemmas
namespace Go.Proofs.YtacbhbejchjbiaaDoor
open Go.RowKit Go.Hd

/-- A number as 64 bits. -/
def B (z : Int) : BitVec 64 := BitVec.ofInt 64 z
theorem B_wrap (x : BitVec 64) : B (IntKind.i64.wrap (x.toNat : Int)) = x := by
  unfold B
  apply BitVec.eq_of_toNat_eq
  have hx := x.isLt
  rw [BitVec.toNat_ofInt, IntKind.wrap_i64]
  omega
theorem B_or (a b : Int) : B (bits .or .i64 a b) = B a ||| B b := B_wrap _
theorem B_andNot (a b : Int) : B (bits .andNot .i64 a b) = B a &&& ~~~ B b := B_wrap _
theorem andNot_zero (a b : Int) : bits .andNot .i64 a b = 0 ↔ B a &&& ~~~ B b = 0#64 := by
  have h : bits .andNot .i64 a b = IntKind.i64.wrap ((B a &&& ~~~ B b).toNat : Int) := rfl
  rw [h, IntKind.wrap_i64]
  have hx := (B a &&& ~~~ B b).isLt
  constructor
  · intro h0
    apply BitVec.eq_of_toNat_eq
    have e0 : (0#64).toNat = 0 := rfl
    rw [e0]
    omega
  · intro h0
    have e0 : (0#64).toNat = 0 := rfl
    rw [h0, e0]; decide
theorem or_and_zero (x y m : BitVec 64) : (x ||| y) &&& m = 0#64 ↔ x &&& m = 0#64 ∧ y &&& m = 0#64 := by
  constructor
  · intro h
    constructor
    · ext i hi
      have := congrArg (fun z => z.getLsbD i) h
      simp at this ⊢
      intro hx; exact this (.inl hx)
    · ext i hi
      have := congrArg (fun z => z.getLsbD i) h
      simp at this ⊢
      intro hx; exact this (.inr hx)
  · rintro ⟨h1, h2⟩
    ext i hi
    have g1 := congrArg (fun z => z.getLsbD i) h1
    have g2 := congrArg (fun z => z.getLsbD i) h2
    simp at g1 g2 ⊢
    rintro (hx | hx)
    · exact g1 hx
    · exact g2 hx
theorem wn_zero (b : Bool) (c u : Int) : B (wn b c) &&& ~~~ B u = 0#64 ↔ (b = true → B c &&& ~~~ B u = 0#64) := by
  cases b
  · have e : B (wn false c) = 0#64 := rfl
    rw [e]; simp
  · have e : B (wn true c) = B c := rfl
    rw [e]; simp

theorem fif_zero (f : Fr) (u : Int) : bits .andNot .i64 (fif f) u = 0 ↔
    (f.rt = true → B 1 &&& ~~~ B u = 0#64) ∧ (f.mo = true → B 2 &&& ~~~ B u = 0#64) ∧ (f.pw = true → B 4 &&& ~~~ B u = 0#64) ∧ (f.st = true → B 8 &&& ~~~ B u = 0#64) ∧ (f.la = true → B 16 &&& ~~~ B u = 0#64) ∧ (f.jo = true → B 32 &&& ~~~ B u = 0#64) ∧
    ((f.po != 0) = true → B 192 &&& ~~~ B u = 0#64) ∧ ((f.fa != 0) = true → B 256 &&& ~~~ B u = 0#64) ∧ ((f.th != 0) = true → B 512 &&& ~~~ B u = 0#64) ∧ ((f.sq != 0) = true → B 1024 &&& ~~~ B u = 0#64) ∧ ((f.fg != 0) = true → B 2048 &&& ~~~ B u = 0#64) ∧
    ((f.ct != 0) = true → B 4096 &&& ~~~ B u = 0#64) ∧ ((f.ky != 0 || f.cn != 0) = true → B 8192 &&& ~~~ B u = 0#64) ∧ ((!f.bo.toList.isEmpty) = true → B 16384 &&& ~~~ B u = 0#64) := by
  rw [andNot_zero]
  unfold fif fiv
  rw [← flv_set]
  unfold flv
  simp only [B_or, or_and_zero, wn_zero, and_assoc]

theorem empty_iff' (s : ByteArray) : s.toList.isEmpty = decide (s.size = 0) := by
  rw [ByteArray.toList_eq]
  obtain ⟨⟨l⟩⟩ := s
  cases l <;> simp [ByteArray.size]

theorem z18181_1 : (B 1 &&& ~~~ B 18181 = 0#64) = True := eq_true (by decide +kernel)
theorem z18181_2 : (B 2 &&& ~~~ B 18181 = 0#64) = False := eq_false (by decide +kernel)
theorem z18181_4 : (B 4 &&& ~~~ B 18181 = 0#64) = True := eq_true (by decide +kernel)
theorem z18181_8 : (B 8 &&& ~~~ B 18181 = 0#64) = False := eq_false (by decide +kernel)
theorem z18181_16 : (B 16 &&& ~~~ B 18181 = 0#64) = False := eq_false (by decide +kernel)
theorem z18181_32 : (B 32 &&& ~~~ B 18181 = 0#64) = False := eq_false (by decide +kernel)
theorem z18181_192 : (B 192 &&& ~~~ B 18181 = 0#64) = False := eq_false (by decide +kernel)
theorem z18181_256 : (B 256 &&& ~~~ B 18181 = 0#64) = True := eq_true (by decide +kernel)
theorem z18181_512 : (B 512 &&& ~~~ B 18181 = 0#64) = True := eq_true (by decide +kernel)
theorem z18181_1024 : (B 1024 &&& ~~~ B 18181 = 0#64) = True := eq_true (by decide +kernel)
theorem z18181_2048 : (B 2048 &&& ~~~ B 18181 = 0#64) = False := eq_false (by decide +kernel)
theorem z18181_4096 : (B 4096 &&& ~~~ B 18181 = 0#64) = False := eq_false (by decide +kernel)
theorem z18181_8192 : (B 8192 &&& ~~~ B 18181 = 0#64) = False := eq_false (by decide +kernel)
theorem z18181_16384 : (B 16384 &&& ~~~ B 18181 = 0#64) = True := eq_true (by decide +kernel)
theorem z256_1 : (B 1 &&& ~~~ B 256 = 0#64) = False := eq_false (by decide +kernel)
theorem z256_2 : (B 2 &&& ~~~ B 256 = 0#64) = False := eq_false (by decide +kernel)
theorem z256_4 : (B 4 &&& ~~~ B 256 = 0#64) = False := eq_false (by decide +kernel)
theorem z256_8 : (B 8 &&& ~~~ B 256 = 0#64) = False := eq_false (by decide +kernel)
theorem z256_16 : (B 16 &&& ~~~ B 256 = 0#64) = False := eq_false (by decide +kernel)
theorem z256_32 : (B 32 &&& ~~~ B 256 = 0#64) = False := eq_false (by decide +kernel)
theorem z256_192 : (B 192 &&& ~~~ B 256 = 0#64) = False := eq_false (by decide +kernel)
theorem z256_256 : (B 256 &&& ~~~ B 256 = 0#64) = True := eq_true (by decide +kernel)
theorem z256_512 : (B 512 &&& ~~~ B 256 = 0#64) = False := eq_false (by decide +kernel)
theorem z256_1024 : (B 1024 &&& ~~~ B 256 = 0#64) = False := eq_false (by decide +kernel)
theorem z256_2048 : (B 2048 &&& ~~~ B 256 = 0#64) = False := eq_false (by decide +kernel)
theorem z256_4096 : (B 4096 &&& ~~~ B 256 = 0#64) = False := eq_false (by decide +kernel)
theorem z256_8192 : (B 8192 &&& ~~~ B 256 = 0#64) = False := eq_false (by decide +kernel)
theorem z256_16384 : (B 16384 &&& ~~~ B 256 = 0#64) = False := eq_false (by decide +kernel)
theorem z0_1 : (B 1 &&& ~~~ B 0 = 0#64) = False := eq_false (by decide +kernel)
theorem z0_2 : (B 2 &&& ~~~ B 0 = 0#64) = False := eq_false (by decide +kernel)
theorem z0_4 : (B 4 &&& ~~~ B 0 = 0#64) = False := eq_false (by decide +kernel)
theorem z0_8 : (B 8 &&& ~~~ B 0 = 0#64) = False := eq_false (by decide +kernel)
theorem z0_16 : (B 16 &&& ~~~ B 0 = 0#64) = False := eq_false (by decide +kernel)
theorem z0_32 : (B 32 &&& ~~~ B 0 = 0#64) = False := eq_false (by decide +kernel)
theorem z0_192 : (B 192 &&& ~~~ B 0 = 0#64) = False := eq_false (by decide +kernel)
theorem z0_256 : (B 256 &&& ~~~ B 0 = 0#64) = False := eq_false (by decide +kernel)
theorem z0_512 : (B 512 &&& ~~~ B 0 = 0#64) = False := eq_false (by decide +kernel)
theorem z0_1024 : (B 1024 &&& ~~~ B 0 = 0#64) = False := eq_false (by decide +kernel)
theorem z0_2048 : (B 2048 &&& ~~~ B 0 = 0#64) = False := eq_false (by decide +kernel)
theorem z0_4096 : (B 4096 &&& ~~~ B 0 = 0#64) = False := eq_false (by decide +kernel)
theorem z0_8192 : (B 8192 &&& ~~~ B 0 = 0#64) = False := eq_false (by decide +kernel)
theorem z0_16384 : (B 16384 &&& ~~~ B 0 = 0#64) = False := eq_false (by decide +kernel)
theorem z16640_1 : (B 1 &&& ~~~ B 16640 = 0#64) = False := eq_false (by decide +kernel)
theorem z16640_2 : (B 2 &&& ~~~ B 16640 = 0#64) = False := eq_false (by decide +kernel)
theorem z16640_4 : (B 4 &&& ~~~ B 16640 = 0#64) = False := eq_false (by decide +kernel)
theorem z16640_8 : (B 8 &&& ~~~ B 16640 = 0#64) = False := eq_false (by decide +kernel)
theorem z16640_16 : (B 16 &&& ~~~ B 16640 = 0#64) = False := eq_false (by decide +kernel)
theorem z16640_32 : (B 32 &&& ~~~ B 16640 = 0#64) = False := eq_false (by decide +kernel)
theorem z16640_192 : (B 192 &&& ~~~ B 16640 = 0#64) = False := eq_false (by decide +kernel)
theorem z16640_256 : (B 256 &&& ~~~ B 16640 = 0#64) = True := eq_true (by decide +kernel)
theorem z16640_512 : (B 512 &&& ~~~ B 16640 = 0#64) = False := eq_false (by decide +kernel)
theorem z16640_1024 : (B 1024 &&& ~~~ B 16640 = 0#64) = False := eq_false (by decide +kernel)
theorem z16640_2048 : (B 2048 &&& ~~~ B 16640 = 0#64) = False := eq_false (by decide +kernel)
theorem z16640_4096 : (B 4096 &&& ~~~ B 16640 = 0#64) = False := eq_false (by decide +kernel)
theorem z16640_8192 : (B 8192 &&& ~~~ B 16640 = 0#64) = False := eq_false (by decide +kernel)
theorem z16640_16384 : (B 16384 &&& ~~~ B 16640 = 0#64) = True := eq_true (by decide +kernel)
theorem z32767_1 : (B 1 &&& ~~~ B 32767 = 0#64) = True := eq_true (by decide +kernel)
theorem z32767_2 : (B 2 &&& ~~~ B 32767 = 0#64) = True := eq_true (by decide +kernel)
theorem z32767_4 : (B 4 &&& ~~~ B 32767 = 0#64) = True := eq_true (by decide +kernel)
theorem z32767_8 : (B 8 &&& ~~~ B 32767 = 0#64) = True := eq_true (by decide +kernel)
theorem z32767_16 : (B 16 &&& ~~~ B 32767 = 0#64) = True := eq_true (by decide +kernel)
theorem z32767_32 : (B 32 &&& ~~~ B 32767 = 0#64) = True := eq_true (by decide +kernel)
theorem z32767_192 : (B 192 &&& ~~~ B 32767 = 0#64) = True := eq_true (by decide +kernel)
theorem z32767_256 : (B 256 &&& ~~~ B 32767 = 0#64) = True := eq_true (by decide +kernel)
theorem z32767_512 : (B 512 &&& ~~~ B 32767 = 0#64) = True := eq_true (by decide +kernel)
theorem z32767_1024 : (B 1024 &&& ~~~ B 32767 = 0#64) = True := eq_true (by decide +kernel)
theorem z32767_2048 : (B 2048 &&& ~~~ B 32767 = 0#64) = True := eq_true (by decide +kernel)
theorem z32767_4096 : (B 4096 &&& ~~~ B 32767 = 0#64) = True := eq_true (by decide +kernel)
theorem z32767_8192 : (B 8192 &&& ~~~ B 32767 = 0#64) = True := eq_true (by decide +kernel)
theorem z32767_16384 : (B 16384 &&& ~~~ B 32767 = 0#64) = True := eq_true (by decide +kernel)
theorem z6109_1 : (B 1 &&& ~~~ B 6109 = 0#64) = True := eq_true (by decide +kernel)
theorem z6109_2 : (B 2 &&& ~~~ B 6109 = 0#64) = False := eq_false (by decide +kernel)
theorem z6109_4 : (B 4 &&& ~~~ B 6109 = 0#64) = True := eq_true (by decide +kernel)
theorem z6109_8 : (B 8 &&& ~~~ B 6109 = 0#64) = True := eq_true (by decide +kernel)
theorem z6109_16 : (B 16 &&& ~~~ B 6109 = 0#64) = True := eq_true (by decide +kernel)
theorem z6109_32 : (B 32 &&& ~~~ B 6109 = 0#64) = False := eq_false (by decide +kernel)
theorem z6109_192 : (B 192 &&& ~~~ B 6109 = 0#64) = True := eq_true (by decide +kernel)
theorem z6109_256 : (B 256 &&& ~~~ B 6109 = 0#64) = True := eq_true (by decide +kernel)
theorem z6109_512 : (B 512 &&& ~~~ B 6109 = 0#64) = True := eq_true (by decide +kernel)
theorem z6109_1024 : (B 1024 &&& ~~~ B 6109 = 0#64) = True := eq_true (by decide +kernel)
theorem z6109_2048 : (B 2048 &&& ~~~ B 6109 = 0#64) = False := eq_false (by decide +kernel)
theorem z6109_4096 : (B 4096 &&& ~~~ B 6109 = 0#64) = True := eq_true (by decide +kernel)
theorem z6109_8192 : (B 8192 &&& ~~~ B 6109 = 0#64) = False := eq_false (by decide +kernel)
theorem z6109_16384 : (B 16384 &&& ~~~ B 6109 = 0#64) = False := eq_false (by decide +kernel)
theorem d1 : (pl 1 = False) ∧ (fro 1 = True) ∧ (nb 1 = True) ∧ (bd 1 = True) := ⟨eq_false (by decide), eq_true (by decide), eq_true (by decide), eq_true (by decide)⟩
theorem d2 : (pl 2 = False) ∧ (fro 2 = True) ∧ (nb 2 = True) ∧ (bd 2 = True) := ⟨eq_false (by decide), eq_true (by decide), eq_true (by decide), eq_true (by decide)⟩
theorem d3 : (pl 3 = False) ∧ (fro 3 = True) ∧ (nb 3 = True) ∧ (bd 3 = True) := ⟨eq_false (by decide), eq_true (by decide), eq_true (by decide), eq_true (by decide)⟩
theorem d4 : (pl 4 = False) ∧ (fro 4 = True) ∧ (nb 4 = True) ∧ (bd 4 = True) := ⟨eq_false (by decide), eq_true (by decide), eq_true (by decide), eq_true (by decide)⟩
theorem d5 : (pl 5 = False) ∧ (fro 5 = True) ∧ (nb 5 = True) ∧ (bd 5 = True) := ⟨eq_false (by decide), eq_true (by decide), eq_true (by decide), eq_true (by decide)⟩
theorem d6 : (pl 6 = False) ∧ (fro 6 = True) ∧ (nb 6 = True) ∧ (bd 6 = True) := ⟨eq_false (by decide), eq_true (by decide), eq_true (by decide), eq_true (by decide)⟩
theorem d7 : (pl 7 = False) ∧ (fro 7 = True) ∧ (nb 7 = True) ∧ (bd 7 = True) := ⟨eq_false (by decide), eq_true (by decide), eq_true (by decide), eq_true (by decide)⟩
theorem d8 : (pl 8 = False) ∧ (fro 8 = True) ∧ (nb 8 = True) ∧ (bd 8 = True) := ⟨eq_false (by decide), eq_true (by decide), eq_true (by decide), eq_true (by decide)⟩
theorem d9 : (pl 9 = False) ∧ (fro 9 = True) ∧ (nb 9 = True) ∧ (bd 9 = True) := ⟨eq_false (by decide), eq_true (by decide), eq_true (by decide), eq_true (by decide)⟩
theorem d10 : (pl 10 = False) ∧ (fro 10 = True) ∧ (nb 10 = True) ∧ (bd 10 = True) := ⟨eq_false (by decide), eq_true (by decide), eq_true (by decide), eq_true (by decide)⟩
theorem d11 : (pl 11 = False) ∧ (fro 11 = True) ∧ (nb 11 = True) ∧ (bd 11 = True) := ⟨eq_false (by decide), eq_true (by decide), eq_true (by decide), eq_true (by decide)⟩
theorem d12 : (pl 12 = False) ∧ (fro 12 = True) ∧ (nb 12 = False) ∧ (bd 12 = False) := ⟨eq_false (by decide), eq_true (by decide), eq_false (by decide), eq_false (by decide)⟩
theorem d13 : (pl 13 = False) ∧ (fro 13 = False) ∧ (nb 13 = False) ∧ (bd 13 = False) := ⟨eq_false (by decide), eq_false (by decide), eq_false (by decide), eq_false (by decide)⟩
theorem d14 : (pl 14 = False) ∧ (fro 14 = False) ∧ (nb 14 = False) ∧ (bd 14 = False) := ⟨eq_false (by decide), eq_false (by decide), eq_false (by decide), eq_false (by decide)⟩
theorem d15 : (pl 15 = False) ∧ (fro 15 = True) ∧ (nb 15 = False) ∧ (bd 15 = True) := ⟨eq_false (by decide), eq_true (by decide), eq_false (by decide), eq_true (by decide)⟩
theorem d16 : (pl 16 = False) ∧ (fro 16 = True) ∧ (nb 16 = False) ∧ (bd 16 = True) := ⟨eq_false (by decide), eq_true (by decide), eq_false (by decide), eq_true (by decide)⟩
theorem d17 : (pl 17 = False) ∧ (fro 17 = True) ∧ (nb 17 = False) ∧ (bd 17 = False) := ⟨eq_false (by decide), eq_true (by decide), eq_false (by decide), eq_false (by decide)⟩
theorem d18 : (pl 18 = True) ∧ (fro 18 = True) ∧ (nb 18 = True) ∧ (bd 18 = True) := ⟨eq_true (by decide), eq_true (by decide), eq_true (by decide), eq_true (by decide)⟩
theorem d19 : (pl 19 = True) ∧ (fro 19 = True) ∧ (nb 19 = True) ∧ (bd 19 = False) := ⟨eq_true (by decide), eq_true (by decide), eq_true (by decide), eq_false (by decide)⟩
theorem us1 : us 1 = 18181 := rfl
theorem us2 : us 2 = 18181 := rfl
theorem us3 : us 3 = 18181 := rfl
theorem us4 : us 4 = 18181 := rfl
theorem us5 : us 5 = 18181 := rfl
theorem us6 : us 6 = 18181 := rfl
theorem us7 : us 7 = 18181 := rfl
theorem us8 : us 8 = 18181 := rfl
theorem us9 : us 9 = 18181 := rfl
theorem us10 : us 10 = 18181 := rfl
theorem us11 : us 11 = 18181 := rfl
theorem us12 : us 12 = 256 := rfl
theorem us13 : us 13 = 0 := rfl
theorem us14 : us 14 = 0 := rfl
theorem us15 : us 15 = 16640 := rfl
theorem us16 : us 16 = 16640 := rfl
theorem us17 : us 17 = 256 := rfl
theorem us18 : us 18 = 32767 := rfl
theorem us19 : us 19 = 6109 := rfl
set_option maxHeartbeats 4000000 in
theorem fif_unu (f : Fr) (hk : isK f.kd) : (bits .andNot .i64 (fif f) (us f.kd) != 0) = decide (unu f) := by
  have h : bits .andNot .i64 (fif f) (us f.kd) = 0 ↔ ¬ unu f := by
    rw [fif_zero, empty_iff']
    generalize hd : f.kd = k at hk
    rcases kinds hk with rfl | rfl | rfl | rfl | rfl | rfl | rfl | rfl | rfl | rfl | rfl | rfl | rfl | rfl | rfl | rfl | rfl | rfl | rfl
    · rw [us1]; simp only [z18181_1, z18181_2, z18181_4, z18181_8, z18181_16, z18181_32, z18181_192, z18181_256, z18181_512, z18181_1024, z18181_2048, z18181_4096, z18181_8192, z18181_16384]; unfold unu ufl; simp only [hd, d1]; simp; grind
    · rw [us2]; simp only [z18181_1, z18181_2, z18181_4, z18181_8, z18181_16, z18181_32, z18181_192, z18181_256, z18181_512, z18181_1024, z18181_2048, z18181_4096, z18181_8192, z18181_16384]; unfold unu ufl; simp only [hd, d2]; simp; grind
    · rw [us3]; simp only [z18181_1, z18181_2, z18181_4, z18181_8, z18181_16, z18181_32, z18181_192, z18181_256, z18181_512, z18181_1024, z18181_2048, z18181_4096, z18181_8192, z18181_16384]; unfold unu ufl; simp only [hd, d3]; simp; grind
    · rw [us4]; simp only [z18181_1, z18181_2, z18181_4, z18181_8, z18181_16, z18181_32, z18181_192, z18181_256, z18181_512, z18181_1024, z18181_2048, z18181_4096, z18181_8192, z18181_16384]; unfold unu ufl; simp only [hd, d4]; simp; grind
    · rw [us5]; simp only [z18181_1, z18181_2, z18181_4, z18181_8, z18181_16, z18181_32, z18181_192, z18181_256, z18181_512, z18181_1024, z18181_2048, z18181_4096, z18181_8192, z18181_16384]; unfold unu ufl; simp only [hd, d5]; simp; grind
    · rw [us6]; simp only [z18181_1, z18181_2, z18181_4, z18181_8, z18181_16, z18181_32, z18181_192, z18181_256, z18181_512, z18181_1024, z18181_2048, z18181_4096, z18181_8192, z18181_16384]; unfold unu ufl; simp only [hd, d6]; simp; grind
    · rw [us7]; simp only [z18181_1, z18181_2, z18181_4, z18181_8, z18181_16, z18181_32, z18181_192, z18181_256, z18181_512, z18181_1024, z18181_2048, z18181_4096, z18181_8192, z18181_16384]; unfold unu ufl; simp only [hd, d7]; simp; grind
    · rw [us8]; simp only [z18181_1, z18181_2, z18181_4, z18181_8, z18181_16, z18181_32, z18181_192, z18181_256, z18181_512, z18181_1024, z18181_2048, z18181_4096, z18181_8192, z18181_16384]; unfold unu ufl; simp only [hd, d8]; simp; grind
    · rw [us9]; simp only [z18181_1, z18181_2, z18181_4, z18181_8, z18181_16, z18181_32, z18181_192, z18181_256, z18181_512, z18181_1024, z18181_2048, z18181_4096, z18181_8192, z18181_16384]; unfold unu ufl; simp only [hd, d9]; simp; grind
    · rw [us10]; simp only [z18181_1, z18181_2, z18181_4, z18181_8, z18181_16, z18181_32, z18181_192, z18181_256, z18181_512, z18181_1024, z18181_2048, z18181_4096, z18181_8192, z18181_16384]; unfold unu ufl; simp only [hd, d10]; simp; grind
    · rw [us11]; simp only [z18181_1, z18181_2, z18181_4, z18181_8, z18181_16, z18181_32, z18181_192, z18181_256, z18181_512, z18181_1024, z18181_2048, z18181_4096, z18181_8192, z18181_16384]; unfold unu ufl; simp only [hd, d11]; simp; grind
    · rw [us12]; simp only [z256_1, z256_2, z256_4, z256_8, z256_16, z256_32, z256_192, z256_256, z256_512, z256_1024, z256_2048, z256_4096, z256_8192, z256_16384]; unfold unu ufl; simp only [hd, d12]; simp; grind
    · rw [us13]; simp only [z0_1, z0_2, z0_4, z0_8, z0_16, z0_32, z0_192, z0_256, z0_512, z0_1024, z0_2048, z0_4096, z0_8192, z0_16384]; unfold unu ufl; simp only [hd, d13]; simp; grind
    · rw [us14]; simp only [z0_1, z0_2, z0_4, z0_8, z0_16, z0_32, z0_192, z0_256, z0_512, z0_1024, z0_2048, z0_4096, z0_8192, z0_16384]; unfold unu ufl; simp only [hd, d14]; simp; grind
    · rw [us15]; simp only [z16640_1, z16640_2, z16640_4, z16640_8, z16640_16, z16640_32, z16640_192, z16640_256, z16640_512, z16640_1024, z16640_2048, z16640_4096, z16640_8192, z16640_16384]; unfold unu ufl; simp only [hd, d15]; simp; grind
    · rw [us16]; simp only [z16640_1, z16640_2, z16640_4, z16640_8, z16640_16, z16640_32, z16640_192, z16640_256, z16640_512, z16640_1024, z16640_2048, z16640_4096, z16640_8192, z16640_16384]; unfold unu ufl; simp only [hd, d16]; simp; grind
    · rw [us17]; simp only [z256_1, z256_2, z256_4, z256_8, z256_16, z256_32, z256_192, z256_256, z256_512, z256_1024, z256_2048, z256_4096, z256_8192, z256_16384]; unfold unu ufl; simp only [hd, d17]; simp; grind
    · rw [us18]; simp only [z32767_1, z32767_2, z32767_4, z32767_8, z32767_16, z32767_32, z32767_192, z32767_256, z32767_512, z32767_1024, z32767_2048, z32767_4096, z32767_8192, z32767_16384]; unfold unu ufl; simp only [hd, d18]; simp
    · rw [us19]; simp only [z6109_1, z6109_2, z6109_4, z6109_8, z6109_16, z6109_32, z6109_192, z6109_256, z6109_512, z6109_1024, z6109_2048, z6109_4096, z6109_8192, z6109_16384]; unfold unu ufl; simp only [hd, d19]; simp; grind
  by_cases hu : unu f
  · rw [decide_eq_true hu, bne_iff_ne]; exact fun h0 => h.1 h0 hu
  · rw [decide_eq_false hu, h.2 hu]; rfl
end Go.Proofs.YtacbhbejchjbiaaDoor
