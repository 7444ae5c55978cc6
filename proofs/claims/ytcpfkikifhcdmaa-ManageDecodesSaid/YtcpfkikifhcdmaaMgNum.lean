/-
  WALKS of package manage: numbers; the rows of a body's numbers.
-/
import Derived.Test.YtcpfkikifhcdmaaMgProg
import Derived.Deep.MidRow
namespace Go.Mg
/-- The field, the cell and the octets of a number, by its place. -/
def fk (k : Nat) : Int := #[8192, 8192, 8192, 1, 256, 2, 4, 16, 32, 128, 512, 1024, 2048, 4096].getD k 0
def fo (k : Nat) : Nat := #[14, 15, 16, 1, 9, 2, 3, 5, 6, 8, 10, 11, 12, 13].getD k 0
def fz (k : Nat) : Nat := #[4, 4, 4, 1, 1, 1, 2, 1, 1, 1, 2, 1, 1, 1].getD k 0
def fv (b : Bd) (k : Nat) : Int := #[b.pf, b.pp, b.pl, b.sp, b.ct, b.st, b.hn, b.ls, b.dv, b.ai, b.sr, b.sz, b.ch, b.cn].getD k 0
end Go.Mg
namespace Go.Proofs.Ytcpfkikifhcdmaa
open Go.RowKit Go.Mg Go.Wr

/-- The cells of the row of numbers of the body at pb. -/
def NC (pb : Nat) : List Value := (List.range 14).flatMap fun k => [.int .i64 (fk k), .pointer (some ⟨pb, fo k, none⟩), .int .i64 (fz k : Int)]
theorem NC_eq (pb : Nat) : NC pb = [.int .i64 8192, .pointer (some ⟨pb, 14, none⟩), .int .i64 4, .int .i64 8192, .pointer (some ⟨pb, 15, none⟩), .int .i64 4, .int .i64 8192, .pointer (some ⟨pb, 16, none⟩), .int .i64 4,
    .int .i64 1, .pointer (some ⟨pb, 1, none⟩), .int .i64 1, .int .i64 256, .pointer (some ⟨pb, 9, none⟩), .int .i64 1, .int .i64 2, .pointer (some ⟨pb, 2, none⟩), .int .i64 1, .int .i64 4, .pointer (some ⟨pb, 3, none⟩), .int .i64 2,
    .int .i64 16, .pointer (some ⟨pb, 5, none⟩), .int .i64 1, .int .i64 32, .pointer (some ⟨pb, 6, none⟩), .int .i64 1, .int .i64 128, .pointer (some ⟨pb, 8, none⟩), .int .i64 1, .int .i64 512, .pointer (some ⟨pb, 10, none⟩), .int .i64 2,
    .int .i64 1024, .pointer (some ⟨pb, 11, none⟩), .int .i64 1, .int .i64 2048, .pointer (some ⟨pb, 12, none⟩), .int .i64 1, .int .i64 4096, .pointer (some ⟨pb, 13, none⟩), .int .i64 1] := rfl

set_option maxRecDepth 100000 in
set_option maxHeartbeats 4000000 in
theorem mgNumbers_any (pb : Nat) (w : World) :
    Calls Try.prog 63 #[.pointer (some ⟨pb, 0, none⟩)] w fun e w' => e = .returned (.slice (some ⟨w.heap.size, 0, none⟩) 14 14) ∧ Blk w' w.heap.size 89 (NC pb) ∧ Below w.heap.size w w' := by
  go_enter Try.func63, Try.ntmps63
  go_wp2
  go_region
  go_wp2
  go_returns
  refine ⟨rfl, ?_, ((Below.refl _ _).alloc (Nat.le_refl _) _).drew⟩
  rw [NC_eq]
  exact (Blk.new w _ _ _ rfl).drew

/-! One number of the row. -/
theorem nc_at (pb k : Nat) (hk : k < 14) : (NC pb)[k * 3]? = some (.int .i64 (fk k)) ∧ (NC pb)[k * 3 + 1]? = some (.pointer (some ⟨pb, fo k, none⟩)) ∧ (NC pb)[k * 3 + 2]? = some (.int .i64 (fz k : Int)) := by
  rcases (show k = 0 ∨ k = 1 ∨ k = 2 ∨ k = 3 ∨ k = 4 ∨ k = 5 ∨ k = 6 ∨ k = 7 ∨ k = 8 ∨ k = 9 ∨ k = 10 ∨ k = 11 ∨ k = 12 ∨ k = 13 by omega) with rfl | rfl | rfl | rfl | rfl | rfl | rfl | rfl | rfl | rfl | rfl | rfl | rfl | rfl <;> exact ⟨rfl, rfl, rfl⟩
noncomputable def LoadN (a : Addr) : Sem Value := loadVar 89 a
theorem loadN (a : Addr) : loadVar 89 a = LoadN a := rfl
theorem szN : (Try.prog.info? 89).map (·.size) = some 3 := by kernel_rfl
theorem loadN_at {W : World} {nb pb : Nat} (h : Blk W nb 89 (NC pb)) (k : Nat) (hk : k < 14) :
    (LoadN ⟨nb, k * 3, none⟩).run Try.prog W = .ok (.agg #[.int .i64 (fk k), .pointer (some ⟨pb, fo k, none⟩), .int .i64 (fz k : Int)]) W := by
  obtain ⟨h0, h1, h2⟩ := nc_at pb k hk
  exact run_loadVar_mid W nb (k * 3) 89 [.int .i64 (fk k), .pointer (some ⟨pb, fo k, none⟩), .int .i64 (fz k : Int)] _ (Bd_.nth (n := 3) (f := fun j => W.cell? ⟨nb, k * 3 + j, none⟩) rfl (fun j hj => by match j, hj with | 0, _ => exact (h.cell _ _ h0).symm | 1, _ => exact (h.cell _ _ h1).symm | 2, _ => exact (h.cell _ _ h2).symm)) Try.underlying89 rfl szN
/-- The body's cell of a number. -/
theorem cell_at (b : Bd) (k : Nat) (hk : k < 14) : (Bd_.C b)[fo k]? = some (.int .i64 (fv b k)) := by
  rcases (show k = 0 ∨ k = 1 ∨ k = 2 ∨ k = 3 ∨ k = 4 ∨ k = 5 ∨ k = 6 ∨ k = 7 ∨ k = 8 ∨ k = 9 ∨ k = 10 ∨ k = 11 ∨ k = 12 ∨ k = 13 by omega) with rfl | rfl | rfl | rfl | rfl | rfl | rfl | rfl | rfl | rfl | rfl | rfl | rfl | rfl <;> rfl
theorem fz_in (k : Nat) (hk : k < 14) : 1 ≤ fz k ∧ fz k ≤ 6 := by
  rcases (show k = 0 ∨ k = 1 ∨ k = 2 ∨ k = 3 ∨ k = 4 ∨ k = 5 ∨ k = 6 ∨ k = 7 ∨ k = 8 ∨ k = 9 ∨ k = 10 ∨ k = 11 ∨ k = 12 ∨ k = 13 by omega) with rfl | rfl | rfl | rfl | rfl | rfl | rfl | rfl | rfl | rfl | rfl | rfl | rfl | rfl <;> decide
theorem fv_fit {b : Bd} (h : Fit b) (k : Nat) (hk : k < 14) : 0 ≤ fv b k ∧ fv b k < (pow (fz k) : Nat) := by
  obtain ⟨h0, h1, h2, h3, h4, h5, h6, h7, h8, h9, h10, h11, h12, h13, h14, h15, h16⟩ := h
  have p1 : (pow 1 : Nat) = 256 := by decide
  have p2 : (pow 2 : Nat) = 65536 := by decide
  have p4 : (pow 4 : Nat) = 4294967296 := by decide
  rcases (show k = 0 ∨ k = 1 ∨ k = 2 ∨ k = 3 ∨ k = 4 ∨ k = 5 ∨ k = 6 ∨ k = 7 ∨ k = 8 ∨ k = 9 ∨ k = 10 ∨ k = 11 ∨ k = 12 ∨ k = 13 by omega) with rfl | rfl | rfl | rfl | rfl | rfl | rfl | rfl | rfl | rfl | rfl | rfl | rfl | rfl
  · show 0 ≤ b.pf ∧ b.pf < (pow 4 : Nat); rw [p4]; omega
  · show 0 ≤ b.pp ∧ b.pp < (pow 4 : Nat); rw [p4]; omega
  · show 0 ≤ b.pl ∧ b.pl < (pow 4 : Nat); rw [p4]; omega
  · show 0 ≤ b.sp ∧ b.sp < (pow 1 : Nat); rw [p1]; omega
  · show 0 ≤ b.ct ∧ b.ct < (pow 1 : Nat); rw [p1]; omega
  · show 0 ≤ b.st ∧ b.st < (pow 1 : Nat); rw [p1]; omega
  · show 0 ≤ b.hn ∧ b.hn < (pow 2 : Nat); rw [p2]; omega
  · show 0 ≤ b.ls ∧ b.ls < (pow 1 : Nat); rw [p1]; omega
  · show 0 ≤ b.dv ∧ b.dv < (pow 1 : Nat); rw [p1]; omega
  · show 0 ≤ b.ai ∧ b.ai < (pow 1 : Nat); rw [p1]; omega
  · show 0 ≤ b.sr ∧ b.sr < (pow 2 : Nat); rw [p2]; omega
  · show 0 ≤ b.sz ∧ b.sz < (pow 1 : Nat); rw [p1]; omega
  · show 0 ≤ b.ch ∧ b.ch < (pow 1 : Nat); rw [p1]; omega
  · show 0 ≤ b.cn ∧ b.cn < (pow 1 : Nat); rw [p1]; omega
end Go.Proofs.Ytcpfkikifhcdmaa
