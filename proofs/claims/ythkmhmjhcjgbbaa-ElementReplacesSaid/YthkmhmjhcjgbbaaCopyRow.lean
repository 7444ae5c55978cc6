/-
  OF NO PROGRAM: copy onto an owned row, elements of any size, from a slice that may be nil; make of a row of any size, owned.
-/
import Derived.WalkKit
import Derived.Deep.OwnRows
import Derived.OwnWalk
import Derived.Laws.CopyRow
import Derived.Laws.OwnMore
namespace Go.Wr
open Go.RowKit

theorem run_copy_rows {P : Program} (w : World) (dT sT ty e : TypeId) (hu : P.underlying dT = some (.slice e)) (size : Nat) (hsz : (P.info? e).map (·.size) = some size)
    (base n cap : Nat) (g : Nat) (xs : List Value) (hown : w.ownsRow base e size (.slice (some ⟨g, 0, none⟩) n cap) n xs)
    (ao : Option Addr) (m c : Nat) (news : List Value) (hl : news.length = m * size) (hm : m ≤ n) (hnone : ao = none → m = 0)
    (hnews : ∀ ad, ao = some ad → ∀ j u, news[j]? = some u → w.cell? (ad.add j) = some u) (h1 : ∀ u ∈ news, u.oneCell' = true) :
    ∃ w', (Builtin.copy_ #[dT, sT] ty #[.slice (some ⟨g, 0, none⟩) n cap, .slice ao m c]).run P w = .ok (goInt m) w' ∧
      w'.ownsRow base e size (.slice (some ⟨g, 0, none⟩) n cap) n (news ++ xs.drop (m * size)) ∧ w.grownBy w' (some g) := by
  obtain ⟨hxl, ⟨h', -⟩ | ⟨g', cap', cur, h', hb, hg, hnc, hcm, hcs, htake⟩⟩ := hown
  · simp at h'
  simp only [Value.slice.injEq, Option.some.injEq, Addr.mk.injEq, and_true, true_and] at h'
  obtain ⟨rfl, rfl⟩ := h'
  have hms : m * size ≤ n * size := Nat.mul_le_mul_right _ hm
  have hns : n * size ≤ cap * size := Nat.mul_le_mul_right _ hnc
  have hst := run_storeCells_at P g 0 e news 0 cur w hg (by rw [hl, hcs]; omega) h1
  simp only [Nat.zero_add, Nat.add_zero, List.take_zero, List.nil_append] at hst
  rw [hl] at hst
  have hmin : Nat.min m n = m := Nat.min_eq_left hm
  refine ⟨w.setRow g (news ++ cur.toList.drop (m * size)).toArray, ?_, ⟨?_, .inr ⟨g, cap, _, rfl, hb, setRow_heap w g cur _ e _ hg, hnc, hcm, ?_, ?_⟩⟩, ⟨rfl, rfl, rfl, by simp [World.setRow], fun k _ hk => setRow_other w g k _ (fun e => hk (by simp [e]))⟩⟩
  · cases hq : P.info? e with
    | none => simp [hq] at hsz
    | some i =>
      have hi : i.size = size := by simpa [hq] using hsz
      cases ao with
      | none =>
        have h0 := hnone rfl
        subst h0
        have hn : news = [] := List.eq_nil_of_length_eq_zero (by simpa using hl)
        subst hn
        simp only [Nat.zero_mul, List.drop_zero, List.nil_append] at hst ⊢
        simp [Builtin.copy_, run_underlying hu, Builtin.lenOf, Builtin.firstCells, sizeOf, typeInfo, hq]
        simp only [Array.toArray_toList] at hst
        rw [hst]
        simp [Result.andThen]
      | some ad =>
        have hld := run_loadCells_list (P := P) w ad news (hnews ad rfl)
        rw [hl] at hld
        simp [Builtin.copy_, run_underlying hu, Builtin.lenOf, Builtin.firstCells, sizeOf, typeInfo, hq, hi, hmin]
        rw [hld]
        simp [Result.andThen, hst]
  · rw [List.length_append, List.length_drop, hl, hxl]; omega
  · simp only [List.size_toArray, List.length_append, List.length_drop, Array.length_toList, hl, hcs]; omega
  · rw [← htake, List.drop_take]
    rw [List.take_append]
    rw [List.take_of_length_le (by omega), hl]

theorem wpList_copy_rows {P : Program} (w : World) {ops : Array Oper} {rest : List Oper} {o : Oper} {a : Act} {Q : Exit → Act → World → Prop} (hgd : o.guard = none) (d s : Operand) (dT sT : TypeId)
    (ho : o.op = .call { callee := .builtin .copy, args := #[d, s], argTypes := #[dT, sT] })
    (e : TypeId) (hu : P.underlying dT = some (.slice e)) (size : Nat) (hsz : (P.info? e).map (·.size) = some size)
    (base n cap : Nat) (g : Nat) (xs : List Value) (hd : a.eval d = .slice (some ⟨g, 0, none⟩) n cap) (hown : w.ownsRow base e size (.slice (some ⟨g, 0, none⟩) n cap) n xs)
    (ao : Option Addr) (m c : Nat) (news : List Value) (hs : a.eval s = .slice ao m c) (hl : news.length = m * size) (hm : m ≤ n) (hnone : ao = none → m = 0)
    (hnews : ∀ ad, ao = some ad → ∀ j u, news[j]? = some u → w.cell? (ad.add j) = some u) (h1 : ∀ u ∈ news, u.oneCell' = true)
    (h : ∀ w', w'.ownsRow base e size (.slice (some ⟨g, 0, none⟩) n cap) n (news ++ xs.drop (m * size)) → w.grownBy w' (some g) → wpList P ops Q rest (a.put o.dst (goInt m)) w') : wpList P ops Q (o :: rest) a w := by
  obtain ⟨w', hr, h2, h3⟩ := run_copy_rows (P := P) w dT sT o.type e hu size hsz base n cap g xs hown ao m c news hl hm hnone hnews h1
  refine wpList_plain hgd fun K hK => ?_
  unfold Oper.wp
  simp [execOp, ho, resolve, invoke, builtin, hd, hs, hr, Result.andThen]
  exact hK _ _ (h w' h2 h3)
end Go.Wr
