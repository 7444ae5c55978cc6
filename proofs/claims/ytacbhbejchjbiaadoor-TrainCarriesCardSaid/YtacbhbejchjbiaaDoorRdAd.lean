/-
  READING an address and a string as steps over the Reader's error and octets.
-/
import Derived.Test.YtacbhbejchjbiaaDoorRdTot
import Derived.Test.YtacbhbejchjbiaaDoorAdDoneC
namespace Go.Proofs.YtacbhbejchjbiaaDoor
open Go.RowKit Go.Wr Go.Ad

def rA (σ : Sg) : Int × Sg := if σ.1 = 0 then (if 6 ≤ σ.2.length then ((bev (σ.2.take 6) : Int), (0, σ.2.drop 6)) else (0, (1, σ.2))) else (0, σ)
theorem addr_tot (b : Nat) (σ : Sg) (w : World) (h : Rs w b σ) :
    Calls Tryd.prog 56 #[.pointer (some ⟨b, 0, none⟩)] w fun e w' => e = .returned (.int .u64 (rA σ).1) ∧ Rs w' b (rA σ).2 ∧ But b w w' := by
  obtain ⟨e0, l⟩ := σ
  unfold rA
  by_cases he : e0 = 0
  · subst he
    by_cases hl : 6 ≤ l.length
    · simp only [if_true, if_pos hl]
      refine (read_ok b (bz l) w h (by rw [bz_size]; exact hl)).mono ?_
      rintro e w' ⟨rfl, h1, h2⟩
      rw [bz_drop] at h1
      exact ⟨by rw [bz_take]; simp [bz], h1, h2⟩
    · simp only [if_true, if_neg hl]
      refine (read_via _ ⟨#[]⟩ w _ (by decide) (take_short b (bz l) 6 w h (by rw [bz_size]; omega))).mono ?_
      rintro e w' ⟨rfl, w1, rfl, hb⟩
      exact ⟨rfl, Blk.of_block (Rd.setE h 1) (hb.block b (Rd.setE h 1).lt), (But.set1 b 0 w _).trans (But.of_below hb (Nat.le_refl _))⟩
  · simp only [if_neg he]
    refine (read_via _ ⟨#[]⟩ w _ (by decide) (take_bad b e0 6 w (Rd.c0 h) (by simpa using he))).mono ?_
    rintro e w' ⟨rfl, w1, rfl, hb⟩
    exact ⟨rfl, Blk.of_block h (hb.block b (Rs.lt h)), But.of_below hb (Nat.le_refl _)⟩
/-- A string of n octets, taken. -/
def rT (n : Nat) (σ : Sg) : ByteArray × Sg := if σ.1 = 0 then (if n ≤ σ.2.length then (bz (σ.2.take n), (0, σ.2.drop n)) else (⟨#[]⟩, (1, σ.2))) else (⟨#[]⟩, σ)
theorem take_tot (n b : Nat) (σ : Sg) (w : World) (h : Rs w b σ) :
    Calls Tryd.prog 42 #[.pointer (some ⟨b, 0, none⟩), .int .i64 (n : Int)] w fun e w' => e = .returned (.string (rT n σ).1) ∧ Rs w' b (rT n σ).2 ∧ But b w w' := by
  obtain ⟨e0, l⟩ := σ
  unfold rT
  by_cases he : e0 = 0
  · subst he
    by_cases hl : n ≤ l.length
    · simp only [if_true, if_pos hl]
      refine (take_ok b (bz l) n w h (by rw [bz_size]; exact hl)).mono ?_
      rintro e w' ⟨rfl, rfl⟩
      refine ⟨by rw [bz_take], ?_, But.set1 _ _ _ _⟩
      have := Rd.setS h (bz (l.drop n))
      rw [bz_drop]; exact this
    · simp only [if_true, if_neg hl]
      refine (take_short b (bz l) n w h (by rw [bz_size]; omega)).mono ?_
      rintro e w' ⟨rfl, rfl⟩
      exact ⟨rfl, Rd.setE h 1, But.set1 _ _ _ _⟩
  · simp only [if_neg he]
    refine (take_bad b e0 n w (Rd.c0 h) (by simpa using he)).mono ?_
    rintro e w' ⟨rfl, rfl⟩
    exact ⟨rfl, h, But.refl _ _⟩
end Go.Proofs.YtacbhbejchjbiaaDoor
