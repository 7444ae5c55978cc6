/-
  READING as steps over the Reader's error and octets: the contracts of package wire's Reader over them.
-/
import Derived.Test.YtacbhbejchjbiaaDoorWrAll
namespace Go.Proofs.YtacbhbejchjbiaaDoor
open Go.RowKit Go.Wr

/-- The Reader's error and its octets. -/
abbrev Sg := Int × List UInt8
def rN (k : Nat) (σ : Sg) : Int × Sg := if σ.1 = 0 then (if k ≤ σ.2.length then ((val (σ.2.take k) : Int), (0, σ.2.drop k)) else (0, (1, σ.2))) else (0, σ)
def rF (x : Int) (σ : Sg) : Sg := if σ.1 = 0 then (x, σ.2) else σ
/-- A string out of octets (a word). -/
def bz (l : List UInt8) : ByteArray := ⟨l.toArray⟩
theorem bz_size (l : List UInt8) : (bz l).size = l.length := by simp [bz, ByteArray.size]
theorem bz_take (l : List UInt8) (k : Nat) : (bz l).extract 0 k = bz (l.take k) := by
  unfold bz; apply ByteArray.ext; simp
theorem bz_drop (l : List UInt8) (k : Nat) : (bz l).extract k (bz l).size = bz (l.drop k) := by
  rw [bz_size]; unfold bz; apply ByteArray.ext; simp
  exact List.take_of_length_le (by simp)
/-- The Reader at block b is in this state. -/
def Rs (w : World) (b : Nat) (σ : Sg) : Prop := Rd w b σ.1 (bz σ.2)
theorem Rs.lt {w : World} {b : Nat} {σ : Sg} (h : Rs w b σ) : b < w.heap.size := Blk.lt h
theorem Rs.blk {w w' : World} {b : Nat} {σ : Sg} (h : Rs w b σ) (e : w'.heap[b]? = w.heap[b]?) : Rs w' b σ := Blk.of_block h e

/-- The state of a new Reader. -/
theorem rs_new (w : World) (s : ByteArray) : Rs (w.alloc (.cells #[.int .i64 0, .string s] 82)) w.heap.size (0, s.data.toList) := by
  have h : bz s.data.toList = s := by unfold bz; simp
  unfold Rs Rd
  rw [h]
  exact Blk.new w _ _ _ rfl

theorem num_tot (k : Nat) (b : Nat) (σ : Sg) (w : World) (h : Rs w b σ) (hk : 1 ≤ k ∧ k ≤ 6) :
    Calls Tryd.prog 40 #[.pointer (some ⟨b, 0, none⟩), .int .i64 (k : Int)] w fun e w' => e = .returned (.int .i64 (rN k σ).1) ∧ Rs w' b (rN k σ).2 ∧ But b w w' := by
  obtain ⟨e0, l⟩ := σ
  unfold rN
  by_cases he : e0 = 0
  · subst he
    by_cases hl : k ≤ l.length
    · simp only [if_true, if_pos hl]
      refine (num_ok b (bz l) k w h hk.1 hk.2 (by rw [bz_size]; exact hl)).mono ?_
      rintro e w' ⟨rfl, rfl⟩
      refine ⟨by rw [bz_take]; simp [bz], ?_, But.set1 _ _ _ _⟩
      have := Rd.setS h (bz (l.drop k))
      rw [bz_drop]; exact this
    · simp only [if_true, if_neg hl]
      refine (num_short b (bz l) k w h ⟨by omega, by omega⟩ (by rw [bz_size]; omega)).mono ?_
      rintro e w' ⟨rfl, rfl⟩
      exact ⟨rfl, Rd.setE h 1, But.set1 _ _ _ _⟩
  · simp only [if_neg he]
    refine (num_bad b e0 k w (Rd.c0 h) (by simpa using he)).mono ?_
    rintro e w' ⟨rfl, rfl⟩
    exact ⟨rfl, h, But.refl _ _⟩
theorem fail_tot (x : Int) (b : Nat) (σ : Sg) (w : World) (h : Rs w b σ) :
    Calls Tryd.prog 45 #[.pointer (some ⟨b, 0, none⟩), .int .i64 x] w fun e w' => e = .returned (.tuple #[]) ∧ Rs w' b (rF x σ) ∧ But b w w' := by
  obtain ⟨e0, l⟩ := σ
  unfold rF
  by_cases he : e0 = 0
  · subst he
    simp only [if_true]
    refine (fail_ok b (bz l) x w h).mono ?_
    rintro e w' ⟨rfl, rfl⟩
    exact ⟨rfl, Rd.setE h x, But.set1 _ _ _ _⟩
  · simp only [if_neg he]
    refine (fail_bad b e0 x w (Rd.c0 h) (by simpa using he)).mono ?_
    rintro e w' ⟨rfl, rfl⟩
    exact ⟨rfl, h, But.refl _ _⟩
theorem err_tot (b : Nat) (σ : Sg) (w : World) (h : Rs w b σ) :
    Calls Tryd.prog 22 #[.pointer (some ⟨b, 0, none⟩)] w fun e w' => e = .returned (.int .i64 σ.1) ∧ w = w' := err_any b σ.1 w (Rd.c0 h)

theorem left_tot (b : Nat) (l : List UInt8) (w : World) (h : Rs w b (0, l)) : Calls Tryd.prog 23 #[.pointer (some ⟨b, 0, none⟩)] w fun e w' => e = .returned (.int .i64 (l.length : Int)) ∧ w = w' := by
  have := left_ok b (bz l) w h
  rwa [bz_size] at this
end Go.Proofs.YtacbhbejchjbiaaDoor
