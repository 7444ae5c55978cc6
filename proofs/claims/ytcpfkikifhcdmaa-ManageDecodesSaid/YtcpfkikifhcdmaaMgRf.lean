/-
  WALKS of package manage: readFields.
-/
import Derived.Test.YtcpfkikifhcdmaaMgRn
import Derived.Test.YtcpfkikifhcdmaaMgWf
namespace Go.Proofs.Ytcpfkikifhcdmaa
open Go.RowKit Go.Mg Go.Wr Go.Ad
attribute [local go_sem ↓ high] Bd_.loadF Bd_.storeF Bd_.v_cells Bd_.v_match Bd_.loadP
attribute [local go_sem] Bd_.C0 Bd_.C4 Bd_.C7

/-- Reading the name, if the set has it. -/
def rNm (q : Bd × Sg) : Bd × Sg := ({ q.1 with nm := (rT (rN 1 q.2).1.toNat (rN 1 q.2).2).1 }, (rT (rN 1 q.2).1.toNat (rN 1 q.2).2).2)
def rOd (q : Bd × Sg) : Bd × Sg := ({ q.1 with od := (rA q.2).1 }, (rA q.2).2)
/-- Reading the fields that a set has. -/
def rFd (u : Int) (q : Bd × Sg) : Bd × Sg :=
  rQ (bits .and .i64 u 4096) 14 (if hs u 64 = true then rOd (rQ (bits .andNot .i64 u 4096) 14 (if hs u 8 = true then rNm q else q)) else rQ (bits .andNot .i64 u 4096) 14 (if hs u 8 = true then rNm q else q))
theorem rN_nonneg (k : Nat) (σ : Sg) : 0 ≤ (rN k σ).1 := by
  unfold rN
  split
  · split
    · simp only; omega
    · exact Int.le_refl _
  · exact Int.le_refl _

set_option maxRecDepth 100000 in
set_option maxHeartbeats 8000000 in
theorem mgReadF_any (b : Bd) (σ : Sg) (B pb rb : Nat) (w0 w : World) (h : Rst w0 B pb rb b σ w) :
    Calls Try.prog 30 #[.pointer (some ⟨rb, 0, none⟩), .pointer (some ⟨pb, 0, none⟩)] w fun e w' => e = .returned (.tuple #[]) ∧ Rst w0 B pb rb (rFd (us b.kd) (b, σ)).1 (rFd (us b.kd) (b, σ)).2 w' := by
  have CU := Lib.hid fun w => mgUsed_any b.kd w
  have CH8 := Lib.hid fun w => mgHas_any (us b.kd) 8 w
  have CH64 := Lib.hid fun w => mgHas_any (us b.kd) 64 w
  have c0 : w.cell? ⟨pb, 0, none⟩ = some (.int .i64 b.kd) := h.box.all 0
  have S1 := Lib.hid h
  have HF : Hid (rFd (us b.kd) (b, σ) = rQ (bits .and .i64 (us b.kd) 4096) 14 (if hs (us b.kd) 64 = true then rOd (rQ (bits .andNot .i64 (us b.kd) 4096) 14 (if hs (us b.kd) 8 = true then rNm (b, σ) else (b, σ))) else rQ (bits .andNot .i64 (us b.kd) 4096) 14 (if hs (us b.kd) 8 = true then rNm (b, σ) else (b, σ)))) := rfl
  have CN : Hid (∀ w1, Rst w0 B pb rb b σ w1 → Calls Try.prog 28 #[.pointer (some ⟨rb, 0, none⟩), .int .i64 1] w1 fun e w' => e = .returned (.int .i64 (rN 1 σ).1) ∧ Rst w0 B pb rb b (rN 1 σ).2 w') := fun w1 h1 =>
    (num_tot 1 rb σ w1 h1.rd (by decide)).mono fun _ _ q => ⟨q.1, h1.read q.2.1 q.2.2⟩
  have CT : Hid (∀ w1, Rst w0 B pb rb b (rN 1 σ).2 w1 → Calls Try.prog 56 #[.pointer (some ⟨rb, 0, none⟩), .int .i64 (rN 1 σ).1] w1 fun e w' => e = .returned (.string (rNm (b, σ)).1.nm) ∧ w'.cell? ⟨pb, 4, none⟩ = some (.string b.nm) ∧ w'.frozen? ⟨pb, 4, none⟩ = false ∧ Rst w0 B pb rb (rNm (b, σ)).1 (rNm (b, σ)).2 (w'.setCell ⟨pb, 4, none⟩ (.string (rNm (b, σ)).1.nm))) := fun w1 h1 => by
    have c := take_tot (rN 1 σ).1.toNat rb (rN 1 σ).2 w1 h1.rd
    rw [Int.toNat_of_nonneg (rN_nonneg 1 σ)] at c
    refine c.mono ?_
    rintro e w' ⟨he, h2, h3⟩
    have h4 := h1.read h2 h3
    exact ⟨he, h4.box.all 4, h4.box.frozen 4, h4.put (h4.box.set4 _) (But.set1 pb 4 w' _)⟩
  have CQ : Hid (∀ s y τ w1, Rst w0 B pb rb y τ w1 → Calls Try.prog 57 #[.pointer (some ⟨rb, 0, none⟩), .pointer (some ⟨pb, 0, none⟩), .int .i64 s] w1 fun e w' => e = .returned (.tuple #[]) ∧ Rst w0 B pb rb (rQ s 14 (y, τ)).1 (rQ s 14 (y, τ)).2 w') := fun s y τ w1 h1 => mgReadN_any s y τ B pb rb w0 w1 h1
  have CA : Hid (∀ y τ w1, Rst w0 B pb rb y τ w1 → Calls Try.prog 58 #[.pointer (some ⟨rb, 0, none⟩)] w1 fun e w' => e = .returned (.int .u64 (rA τ).1) ∧ w'.cell? ⟨pb, 7, none⟩ = some (.int .u64 y.od) ∧ w'.frozen? ⟨pb, 7, none⟩ = false ∧ Rst w0 B pb rb (rOd (y, τ)).1 (rOd (y, τ)).2 (w'.setCell ⟨pb, 7, none⟩ (.int .u64 (rA τ).1))) := fun y τ w1 h1 => by
    refine (addr_tot rb τ w1 h1.rd).mono ?_
    rintro e w' ⟨he, h2, h3⟩
    have h4 := h1.read h2 h3
    exact ⟨he, h4.box.all 7, h4.box.frozen 7, h4.put (h4.box.set7 _) (But.set1 pb 7 w' _)⟩
  generalize us b.kd = u at *
  unfold hs at HF
  obtain ⟨T, hT⟩ : ∃ T : Int → Bd × Sg → Bd × Sg, ∀ s q, rQ s 14 q = T s q := ⟨_, fun _ _ => rfl⟩
  obtain ⟨O, hO⟩ : ∃ O : Bd × Sg → Bd × Sg, ∀ q, rOd q = O q := ⟨_, fun _ => rfl⟩
  simp only [hT] at CQ HF
  simp only [hO] at CA HF
  clear hT hO h
  generalize rNm (b, σ) = q1 at *
  cases g8 : (bits .and .i64 u 8 != 0) <;> rw [g8] at CH8 HF <;> clear g8 <;> cases g64 : (bits .and .i64 u 64 != 0) <;> rw [g64] at CH64 HF <;> clear g64
  all_goals
    simp only [if_true, if_false, Bool.false_eq_true] at HF
    go_enter Try.func30, Try.ntmps30
    go_wp2_with (first
      | (go_at_call 21; refine (CU.out _).mono ?_; rintro e w' ⟨rfl, rfl⟩)
      | (go_at_call 38; with_reducible refine (CH8.out _).mono ?_; rintro e w' ⟨rfl, rfl⟩)
      | (go_at_call 38; with_reducible refine (CH64.out _).mono ?_; rintro e w' ⟨rfl, rfl⟩)
      | (go_at_call 28; refine (CN.out _ S1.out).mono ?_; rintro e w2 ⟨rfl, h2⟩; have S2 := Lib.hid h2; clear h2)
      | (go_at_call 56; refine (CT.out _ S2.out).mono ?_; rintro e w3 ⟨rfl, d1, d2, h2⟩; have S3 := Lib.hid h2; clear h2)
      | (go_at_call 57; refine (CQ.out _ _ _ _ S5.out).mono ?_; rintro e w6 ⟨rfl, h2⟩; have S6 := Lib.hid h2; clear h2)
      | (go_at_call 57; refine (CQ.out _ _ _ _ S4.out).mono ?_; rintro e w6 ⟨rfl, h2⟩; have S6 := Lib.hid h2; clear h2)
      | (go_at_call 57; refine (CQ.out _ _ _ _ S3.out).mono ?_; rintro e w4 ⟨rfl, h2⟩; have S4 := Lib.hid h2; clear h2)
      | (go_at_call 57; refine (CQ.out _ _ _ _ S1.out).mono ?_; rintro e w4 ⟨rfl, h2⟩; have S4 := Lib.hid h2; clear h2)
      | (go_at_call 58; refine (CA.out _ _ _ S4.out).mono ?_; rintro e w5 ⟨rfl, d3, d4, h2⟩; have S5 := Lib.hid h2; clear h2))
    go_returns
    rw [HF.out]
    exact ⟨rfl, S6.out⟩
end Go.Proofs.Ytcpfkikifhcdmaa
