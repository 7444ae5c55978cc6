/-
  WALKS OF THE LANDED CODE OF LAYER 7: Cross.
-/
import Derived.Test.YtjfhkheedcpimaaWrObj
import Derived.Test.YtjfhkheedcpimaaSpDoneA
namespace Go.Proofs.Ytjfhkheedcpimaa
open Go.RowKit Go.Sp Go.Wr

set_option maxRecDepth 100000 in
set_option maxHeartbeats 1000000 in
theorem cross_any (a b : Sp) (w : World) :
    Calls Try.prog 10 #[sv a, sv b] w fun e w' => e = .returned (.tuple #[sv (cross a b).1, .bool (cross a b).2]) ∧ Below w.heap.size w w' := by
  have HE := Lib.hid (fun (f u : Int) w => empty_any ⟨f, u⟩ w)
  unfold cross sv at *
  obtain ⟨af, au⟩ := a
  obtain ⟨bf, bu⟩ := b
  simp only at HE ⊢
  obtain ⟨mf, hmf⟩ : ∃ mf, (if af < bf then bf else af) = mf := ⟨_, rfl⟩
  obtain ⟨mt, hmt⟩ : ∃ mt, (if bu < au then bu else au) = mt := ⟨_, rfl⟩
  rw [hmf, hmt]
  have HB : Hid (∀ o1 o2 w1, Below (w.heap.size + 1 + 1 + 1 + 1) ((((w.alloc o1).alloc o2).alloc (.cells #[.int .i64 0, .int .i64 0] 23)).alloc (.cells #[.int .i64 mf, .int .i64 mt] 23)) w1 →
      Below w.heap.size w w1 ∧ w.heap.size + 1 + 1 + 1 + 1 ≤ w1.heap.size ∧ Blk w1 (w.heap.size + 1 + 1) 23 [.int .i64 0, .int .i64 0] ∧ Blk w1 (w.heap.size + 1 + 1 + 1) 23 [.int .i64 mf, .int .i64 mt]) := by
    intro o1 o2 w1 hb
    have hb0 : Below w.heap.size w ((((w.alloc o1).alloc o2).alloc (.cells #[.int .i64 0, .int .i64 0] 23)).alloc (.cells #[.int .i64 mf, .int .i64 mt] 23)) := by go_grown
    have x0 : Blk ((((w.alloc o1).alloc o2).alloc (.cells #[.int .i64 0, .int .i64 0] 23)).alloc (.cells #[.int .i64 mf, .int .i64 mt] 23)) (w.heap.size + 1 + 1) 23 [.int .i64 0, .int .i64 0] := (Blk.new ((w.alloc o1).alloc o2) _ _ [.int .i64 0, .int .i64 0] (by simp)).alloc _
    have x1 : Blk ((((w.alloc o1).alloc o2).alloc (.cells #[.int .i64 0, .int .i64 0] 23)).alloc (.cells #[.int .i64 mf, .int .i64 mt] 23)) (w.heap.size + 1 + 1 + 1) 23 [.int .i64 mf, .int .i64 mt] := Blk.new (((w.alloc o1).alloc o2).alloc _) _ _ [.int .i64 mf, .int .i64 mt] (by simp)
    refine ⟨hb0.trans (hb.mono (by omega)), ?_, x0.of_block (hb.block _ (by omega)), x1.of_block (hb.block _ (by omega))⟩
    have := hb.size
    simpa using this
  have HS : ∀ o1 o2 o3 o4, ((((w.alloc o1).alloc o2).alloc o3).alloc o4).heap.size = w.heap.size + 1 + 1 + 1 + 1 := fun _ _ _ _ => by simp
  have HS := Lib.hid HS
  by_cases hle : mt ≤ mf
  · rw [if_pos hle]
    have HT : Hid (∀ w, Calls Try.prog 27 #[.agg #[.int .i64 mf, .int .i64 mt]] w fun e w' => e = .returned (.bool true) ∧ Below w.heap.size w w') := fun w => by
      have := HE.out mf mt w; rwa [decide_eq_true hle] at this
    clear HE hle
    go_enter Try.func10, Try.ntmps10
    go_wp2_with fail
    refine (HT.out _).mono ?_
    rintro e w1 ⟨rfl, hb1⟩
    rw [HS.out] at hb1
    obtain ⟨hB, hsz, x0, x1⟩ := HB.out _ _ _ hb1
    have HX := Lib.hid (And.intro hB (And.intro hsz (And.intro x0 x1)))
    have f0 := x0.frozen 0
    have e0 := x0.cell 0 _ rfl
    have f1 := (x0.set 0 (.int .i64 0)).frozen 1
    have e1 := (x0.set 0 (.int .i64 0)).cell 1 _ rfl
    clear hb1 hB hsz x0 x1
    go_wp2
    have x2 := (HX.out.2.2.1.set 0 (.int .i64 0)).set 1 (.int .i64 0)
    have cA := x2.cell 0 _ rfl
    have cB := x2.cell 1 _ rfl
    refine bodyPost_ret (by simp [results, Try.results10, go_sem, cA, cB]; rfl) rfl ?_
    exact ⟨rfl, (HX.out.1.setCell (by simp; omega) _).setCell (by simp; omega) _⟩
  · rw [if_neg hle]
    have HT : Hid (∀ w, Calls Try.prog 27 #[.agg #[.int .i64 mf, .int .i64 mt]] w fun e w' => e = .returned (.bool false) ∧ Below w.heap.size w w') := fun w => by
      have := HE.out mf mt w; rwa [decide_eq_false hle] at this
    clear HE hle
    go_enter Try.func10, Try.ntmps10
    go_wp2_with fail
    refine (HT.out _).mono ?_
    rintro e w1 ⟨rfl, hb1⟩
    rw [HS.out] at hb1
    obtain ⟨hB, hsz, x0, x1⟩ := HB.out _ _ _ hb1
    have HX := Lib.hid (And.intro hB (And.intro hsz (And.intro x0 x1)))
    have f0 := x0.frozen 0
    have e0 := x0.cell 0 _ rfl
    have f1 := (x0.set 0 (.int .i64 mf)).frozen 1
    have e1 := (x0.set 0 (.int .i64 mf)).cell 1 _ rfl
    have c0 := x1.cell 0 _ rfl
    have c1 := x1.cell 1 _ rfl
    clear hb1 hB hsz x0 x1
    go_wp2
    have x2 := (HX.out.2.2.1.set 0 (.int .i64 mf)).set 1 (.int .i64 mt)
    have cA := x2.cell 0 _ rfl
    have cB := x2.cell 1 _ rfl
    refine bodyPost_ret (by simp [results, Try.results10, go_sem, cA, cB]; rfl) rfl ?_
    exact ⟨rfl, (HX.out.1.setCell (by simp; omega) _).setCell (by simp; omega) _⟩
end Go.Proofs.Ytjfhkheedcpimaa
