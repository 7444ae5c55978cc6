/-
  THE WALK of the theorem's Frame: a frame by numbers.
-/
import Derived.Test.YtacbhbejchjbiaaDoorTcAt
import Derived.Test.YtacbhbejchjbiaaDoorFrRet
namespace Go.Proofs.YtacbhbejchjbiaaDoor
open Go.RowKit Go.Hd Go.Wr Go.Tc
attribute [local go_sem ↓ high] Fr_.loadF Fr_.storeF Fr_.v_cells Fr_.v_match
attribute [local go_sem] Fr_.C0 Fr_.C1 Fr_.C2 Fr_.C3 Fr_.C4 Fr_.C5 Fr_.C6 Fr_.C7 Fr_.C8 Fr_.C9 Fr_.C10 Fr_.C11 Fr_.C12 Fr_.C13 Fr_.C14 Fr_.C15 Fr_.C16 Fr_.C17 Fr_.loadF_new

/-- The numbers of a Small are in their kinds. -/
def SmW (x : Sm) : Prop := (0 ≤ x.kd ∧ x.kd < 256) ∧ (0 ≤ x.sq ∧ x.sq < 65536) ∧ (0 ≤ x.ct ∧ x.ct < 256)
theorem smS_fold (k po du th sq ct : Int) (bo : ByteArray) : (.agg #[.int .i64 k, .bool false, .bool false, .bool false, .bool false, .bool false, .bool false, .int .i64 po, .int .i64 du, .int .u64 2199023255554, .int .u64 2199023255553, .int .u64 th, .int .i64 sq, .int .i64 0, .int .i64 ct, .int .i64 0, .int .i64 0, .string bo] : Value) = Fr_.v (mkS k po du th sq ct bo) := rfl
/-- The parameter's copy, the result's cell, the local frame, all else as it was. -/
structure Fm3 (w : World) (x : Sm) (y : Fr) (wi : World) : Prop where
  par : Sm_.Box wi w.heap.size x
  res : Fr_.Box wi (w.heap.size + 1) Fr_.zf
  loc : Fr_.Box wi (w.heap.size + 2) y
  bel : Below w.heap.size w wi
theorem Fm3.set {w wi : World} {x : Sm} {y : Fr} (h : Fm3 w x y wi) (z : Fr) : Fm3 w x z (wi.setRow (w.heap.size + 2) (Fr_.C z)) :=
  ⟨(Fr_.setRow_other (by omega) _).trans h.par, (Fr_.setRow_other (by omega) _).trans h.res, h.loc.setRow z, below_setRow h.bel (by omega)⟩
theorem Fm3.new {w w2 : World} {x : Sm} (h : (w.alloc (.cells #[.int .u8 x.kd, .int .u16 x.sq, .int .u8 x.ct, .string x.bo] 27)).alloc (.cells #[.int .i64 0, .bool false, .bool false, .bool false, .bool false, .bool false, .bool false, .int .i64 0, .int .i64 0, .int .u64 0, .int .u64 0, .int .u64 0, .int .i64 0, .int .i64 0, .int .i64 0, .int .i64 0, .int .i64 0, .string ⟨#[]⟩] 34) = w2) (y : Fr) :
    w2.heap.size = w.heap.size + 2 ∧ Sm_.Box w2 w.heap.size x ∧ Fm3 w x y (w2.alloc (.cells (Fr_.C y) 34)) := by
  have s2 : w2.heap.size = w.heap.size + 2 := by rw [← h]; simp
  have b1 : Sm_.Box (w.alloc (.cells #[.int .u8 x.kd, .int .u16 x.sq, .int .u8 x.ct, .string x.bo] 27)) w.heap.size x := Sm_.Box.new w x rfl
  have k1 : Below w.heap.size w (w.alloc (.cells #[.int .u8 x.kd, .int .u16 x.sq, .int .u8 x.ct, .string x.bo] 27)) := (Below.refl _ _).alloc (Nat.le_refl _) _
  generalize hw1 : w.alloc (.cells #[.int .u8 x.kd, .int .u16 x.sq, .int .u8 x.ct, .string x.bo] 27) = w1 at *
  have s1 : w1.heap.size = w.heap.size + 1 := by rw [← hw1]; simp
  have b2 : Fr_.Box w2 (w.heap.size + 1) Fr_.zf := by rw [← s1, ← h]; exact Fr_.Box.newC w1 Fr_.zf
  have k2 : Below w1.heap.size w1 w2 := by rw [← h]; exact (Below.refl _ _).alloc (Nat.le_refl _) _
  have k3 : Below w2.heap.size w2 (w2.alloc (.cells (Fr_.C y) 34)) := (Below.refl _ _).alloc (Nat.le_refl _) _
  refine ⟨s2, b1.below k2 b1.lt, (b1.below k2 b1.lt).below k3 (by omega), b2.below k3 b2.lt, ?_, (k1.trans (k2.mono (by omega))).trans (k3.mono (by omega))⟩
  have := Fr_.Box.newC w2 y
  rwa [s2] at this

set_option maxRecDepth 100000 in
set_option maxHeartbeats 4000000 in
theorem tcFrame_any (x : Sm) (w : World) (hx : SmW x) :
    Calls Tryd.prog 6 #[Sm_.v x] w fun e w' => e = .returned (Fr_.v (frS x)) ∧ Below w.heap.size w w' := by
  obtain ⟨kd, sq, ct, bo⟩ := x
  obtain ⟨⟨k1, k2⟩, ⟨s1, s2⟩, c1, c2⟩ := hx
  simp only at k1 k2 s1 s2 c1 c2
  obtain ⟨a, rfl⟩ : ∃ a : Nat, kd = a := ⟨kd.toNat, by omega⟩
  obtain ⟨n, rfl⟩ : ∃ n : Nat, sq = n := ⟨sq.toNat, by omega⟩
  obtain ⟨c, rfl⟩ : ∃ c : Nat, ct = c := ⟨ct.toNat, by omega⟩
  obtain ⟨w2, hw2⟩ : ∃ w2, (w.alloc (.cells #[.int .u8 (a : Int), .int .u16 (n : Int), .int .u8 (c : Int), .string bo] 27)).alloc (.cells #[.int .i64 0, .bool false, .bool false, .bool false, .bool false, .bool false, .bool false, .int .i64 0, .int .i64 0, .int .u64 0, .int .u64 0, .int .u64 0, .int .i64 0, .int .i64 0, .int .i64 0, .int .i64 0, .int .i64 0, .string ⟨#[]⟩] 34) = w2 := ⟨_, rfl⟩
  obtain ⟨y0, hy0⟩ : ∃ y0, y0 = mkS 18 2 0 2199023255555 ((n : Int) % 4096) ((c : Int) % 4) bo := ⟨_, rfl⟩
  obtain ⟨hs2, P2, F0⟩ := Fm3.new (x := ⟨a, n, c, bo⟩) hw2 y0
  have hwn : wrap64 ((n : Int) % 4096) = (n : Int) % 4096 := IntWalk.wrap64_in _ (by omega)
  have hwc : wrap64 ((c : Int) % 4) = (c : Int) % 4 := IntWalk.wrap64_in _ (by omega)
  have hf0 := smS_fold 18 2 0 2199023255555 ((n : Int) % 4096) ((c : Int) % 4) bo
  rw [← hy0] at hf0
  have sf0 := Fr_.storeF_zero w2 y0
  obtain ⟨w3, hw3⟩ : ∃ w3, w2.alloc (.cells (Fr_.C y0) 34) = w3 := ⟨_, rfl⟩
  rw [hw3] at F0 sf0
  obtain ⟨g0, g1, g2, g3⟩ := P2.cells
  obtain ⟨p0, p1, p2, p3⟩ := F0.par.cells
  simp only at g0 g1 g2 g3 p0 p1 p2 p3
  have l9 : w3.cell? ⟨w2.heap.size, 9, none⟩ = some (.int .u64 2199023255554) := by rw [hs2]; exact (F0.loc.all 9).trans (by rw [hy0]; rfl)
  have l10 : w3.cell? ⟨w2.heap.size, 10, none⟩ = some (.int .u64 2199023255553) := by rw [hs2]; exact (F0.loc.all 10).trans (by rw [hy0]; rfl)
  have l11 : w3.cell? ⟨w2.heap.size, 11, none⟩ = some (.int .u64 2199023255555) := by rw [hs2]; exact (F0.loc.all 11).trans (by rw [hy0]; rfl)
  have l12 : w3.cell? ⟨w2.heap.size, 12, none⟩ = some (.int .i64 ((n : Int) % 4096)) := by rw [hs2]; exact (F0.loc.all 12).trans (by rw [hy0]; rfl)
  have l14 : w3.cell? ⟨w2.heap.size, 14, none⟩ = some (.int .i64 ((c : Int) % 4)) := by rw [hs2]; exact (F0.loc.all 14).trans (by rw [hy0]; rfl)
  have l17 : w3.cell? ⟨w2.heap.size, 17, none⟩ = some (.string bo) := by rw [hs2]; exact (F0.loc.all 17).trans (by rw [hy0]; rfl)
  have FF := Lib.hid F0
  have key : ∀ y1 : Fr, (Fr_.StoreF ⟨w2.heap.size, 0, none⟩ (Fr_.v y1)).run Tryd.prog w3 = .ok () (w3.setRow w2.heap.size (Fr_.C y1)) ∧ (Fr_.LoadF ⟨w2.heap.size, 0, none⟩).run Tryd.prog (w3.setRow w2.heap.size (Fr_.C y1)) = .ok (Fr_.v y1) (w3.setRow w2.heap.size (Fr_.C y1)) ∧
      (Fr_.StoreF ⟨w.heap.size + 1, 0, none⟩ (Fr_.v y1)).run Tryd.prog (w3.setRow w2.heap.size (Fr_.C y1)) = .ok () ((w3.setRow w2.heap.size (Fr_.C y1)).setRow (w.heap.size + 1) (Fr_.C y1)) ∧
      Fr_.Box ((w3.setRow w2.heap.size (Fr_.C y1)).setRow (w.heap.size + 1) (Fr_.C y1)) (w.heap.size + 1) y1 ∧ Below w.heap.size w ((w3.setRow w2.heap.size (Fr_.C y1)).setRow (w.heap.size + 1) (Fr_.C y1)) := fun y1 => by
    rw [hs2]
    have F1 := F0.set y1
    exact ⟨F0.loc.storeF y1, F1.loc.loadF, F1.res.storeF y1, F1.res.setRow y1, below_setRow F1.bel (by omega)⟩
  have key0 : (Fr_.LoadF ⟨w2.heap.size, 0, none⟩).run Tryd.prog w3 = .ok (Fr_.v y0) w3 ∧ (Fr_.StoreF ⟨w.heap.size + 1, 0, none⟩ (Fr_.v y0)).run Tryd.prog w3 = .ok () (w3.setRow (w.heap.size + 1) (Fr_.C y0)) ∧
      Fr_.Box (w3.setRow (w.heap.size + 1) (Fr_.C y0)) (w.heap.size + 1) y0 ∧ Below w.heap.size w (w3.setRow (w.heap.size + 1) (Fr_.C y0)) := by
    rw [hs2]
    exact ⟨F0.loc.loadF, F0.res.storeF y0, F0.res.setRow y0, below_setRow F0.bel (by omega)⟩
  have HY := Lib.hid hy0
  clear hy0 hs2 P2 F0 k1 k2 s1 s2 c1 c2
  by_cases h1 : (a : Int) % 4 = 1
  · have e1 : ((a : Int) % 4 == 1) = true := by rw [h1]; rfl
    have hR : Hid (frS ⟨a, n, c, bo⟩ = mkS 11 0 0 2199023255555 ((n : Int) % 4096) 0 bo) := if_pos h1
    have hf1 := smS_fold 11 0 0 2199023255555 ((n : Int) % 4096) 0 bo
    generalize mkS 11 0 0 2199023255555 ((n : Int) % 4096) 0 bo = y1 at *
    obtain ⟨a1, a2, a3, a4, a5⟩ := key y1
    have HB := Lib.hid a4
    have HBL := Lib.hid a5
    clear key key0 h1 a4 a5
    rw [hR.out]
    change Calls Tryd.prog 6 #[.agg #[.int .u8 (a : Int), .int .u16 (n : Int), .int .u8 (c : Int), .string bo]] w _
    go_enter Tryd.func6, Tryd.ntmps6
    go_wp2
    exact ret_frame Tryd.results6 rfl HB.out rfl ⟨rfl, HBL.out⟩
  have e1 : ((a : Int) % 4 == 1) = false := by rw [beq_eq_false_iff_ne]; exact h1
  by_cases h2 : (a : Int) % 4 = 2
  · have e2 : ((a : Int) % 4 == 2) = true := by rw [h2]; rfl
    have hR : Hid (frS ⟨a, n, c, bo⟩ = mkS 12 0 ((n : Int) % 4096) 0 0 0 ⟨#[]⟩) := (if_neg h1).trans (if_pos h2)
    have hf1 := smS_fold 12 0 ((n : Int) % 4096) 0 0 0 ⟨#[]⟩
    generalize mkS 12 0 ((n : Int) % 4096) 0 0 0 ⟨#[]⟩ = y1 at *
    obtain ⟨a1, a2, a3, a4, a5⟩ := key y1
    have HB := Lib.hid a4
    have HBL := Lib.hid a5
    clear key key0 h1 h2 a4 a5
    rw [hR.out]
    change Calls Tryd.prog 6 #[.agg #[.int .u8 (a : Int), .int .u16 (n : Int), .int .u8 (c : Int), .string bo]] w _
    go_enter Tryd.func6, Tryd.ntmps6
    go_wp2
    exact ret_frame Tryd.results6 rfl HB.out rfl ⟨rfl, HBL.out⟩
  have e2 : ((a : Int) % 4 == 2) = false := by rw [beq_eq_false_iff_ne]; exact h2
  by_cases h3 : (a : Int) % 4 = 3
  · have e3 : ((a : Int) % 4 == 3) = true := by rw [h3]; rfl
    have hR : Hid (frS ⟨a, n, c, bo⟩ = mkS 19 0 0 2199023255555 ((n : Int) % 4096) ((c : Int) % 4) ⟨#[]⟩) := (if_neg h1).trans ((if_neg h2).trans (if_pos h3))
    have hf1 := smS_fold 19 0 0 2199023255555 ((n : Int) % 4096) ((c : Int) % 4) ⟨#[]⟩
    generalize mkS 19 0 0 2199023255555 ((n : Int) % 4096) ((c : Int) % 4) ⟨#[]⟩ = y1 at *
    obtain ⟨a1, a2, a3, a4, a5⟩ := key y1
    have HB := Lib.hid a4
    have HBL := Lib.hid a5
    clear key key0 h1 h2 h3 a4 a5
    rw [hR.out]
    change Calls Tryd.prog 6 #[.agg #[.int .u8 (a : Int), .int .u16 (n : Int), .int .u8 (c : Int), .string bo]] w _
    go_enter Tryd.func6, Tryd.ntmps6
    go_wp2
    exact ret_frame Tryd.results6 rfl HB.out rfl ⟨rfl, HBL.out⟩
  · have e3 : ((a : Int) % 4 == 3) = false := by rw [beq_eq_false_iff_ne]; exact h3
    have hR : Hid (frS ⟨a, n, c, bo⟩ = y0) := (if_neg h1).trans ((if_neg h2).trans ((if_neg h3).trans HY.out.symm))
    obtain ⟨a1, a2, a4, a5⟩ := key0
    have HB := Lib.hid a4
    have HBL := Lib.hid a5
    clear key h1 h2 h3 a4 a5
    rw [hR.out]
    change Calls Tryd.prog 6 #[.agg #[.int .u8 (a : Int), .int .u16 (n : Int), .int .u8 (c : Int), .string bo]] w _
    go_enter Tryd.func6, Tryd.ntmps6
    go_wp2
    exact ret_frame Tryd.results6 rfl HB.out rfl ⟨rfl, HBL.out⟩
end Go.Proofs.YtacbhbejchjbiaaDoor
