/-
  WALKS of package reorder: Put.
-/
import Derived.Test.YteffmfloopkmoaaRoDone
namespace Go.Proofs.Yteffmfloopkmoaa
open Go.RowKit Go.Ro Go.Sq Go.Wr
attribute [local go_sem ↓ high] Rw_.loadF Rw_.storeF Rw_.v_cells Rw_.v_match
attribute [local go_sem] Rw_.C0 Rw_.C1 Rw_.C2 Rw_.loadF_new Rw_.storeF_zero Oper.semAt_some

/-- A buffer, a number and what is released, handed back. -/
def PutPost (p : Bf × Int × List ByteArray) (w : World) (e : Ending) (w' : World) : Prop :=
  ∃ x' sa c, e = .returned (.tuple #[Rw_.v x', .int .i64 p.2.1, .slice sa p.2.2.length c]) ∧ Lies w' x' p.1 ∧ Ss_.Sl w' sa p.2.2 c ∧ Below w.heap.size w w' ∧ Fresh w x'.sa ∧ Fresh w sa
theorem put_fin {p : Bf × List ByteArray} {k : Int} {w wi w5 : World} {x y x' : Rw} {sa : Option Addr} {c : Nat} (T : Two w x y wi) (hL : Lies w5 x' p.1) (hs : Ss_.Sl w5 sa p.2 c) (hb : Below wi.heap.size wi w5) (f1 : Fresh wi x'.sa) (f2 : Fresh wi sa) :
    PutPost (p.1, k, p.2) w (.returned (.tuple #[Rw_.v x', .int .i64 k, .slice sa p.2.length c])) ((w5.setRow w.heap.size (Rw_.C x')).setRow (w.heap.size + 1) (Rw_.C x')) := by
  have hz := T.size
  refine ⟨x', sa, c, rfl, lies_row (lies_row hL (fun bb off e => by have := f1 bb off e; omega)) (fun bb off e => by have := f1 bb off e; omega), ss_row (ss_row hs (fun bb off e => by have := f2 bb off e; omega)) (fun bb off e => by have := f2 bb off e; omega), (((T.below hb).setX x').setY x').bel, f1.up (by omega), f2.up (by omega)⟩
theorem put_fin0 {p : Bf × List ByteArray} {k : Int} {w wi w5 : World} {x y x' : Rw} {sa : Option Addr} {c : Nat} (T : Two w x y wi) (hL : Lies w5 x' p.1) (hs : Ss_.Sl w5 sa p.2 c) (hb : Below wi.heap.size wi w5) (f1 : Fresh wi x'.sa) (f2 : Fresh wi sa) :
    PutPost (p.1, k, p.2) w (.returned (.tuple #[Rw_.v x', .int .i64 k, .slice sa p.2.length c])) (w5.setRow (w.heap.size + 1) (Rw_.C x')) := by
  have hz := T.size
  refine ⟨x', sa, c, rfl, lies_row hL (fun bb off e => by have := f1 bb off e; omega), ss_row hs (fun bb off e => by have := f2 bb off e; omega), ((T.below hb).setY x').bel, f1.up (by omega), f2.up (by omega)⟩

theorem ins_asc {b : Bf} (hb : Asc b.st b.hs) {q : Int} {d : ByteArray} (hn : ∀ x ∈ b.hs, dist b.st x.q ≠ dist b.st q) : Asc (ins b q d).st (ins b q d).hs := by
  show (b.hs.take (n0 b q) ++ ⟨q, d⟩ :: b.hs.drop (n0 b q)).Pairwise (fun x y => dist b.st x.q < dist b.st y.q)
  refine List.pairwise_append.2 ⟨List.Pairwise.take hb, List.pairwise_cons.2 ⟨fun y hy => ?_, List.Pairwise.drop hb⟩, fun x hx y hy => ?_⟩
  · have h1 := mem_drop_nb hb hy
    have h2 := hn y h1.1
    show dist b.st q < dist b.st y.q
    omega
  · have h1 := mem_take_nb hx
    rcases List.mem_cons.1 hy with rfl | hy
    · exact h1.2
    · have h2 := mem_drop_nb hb hy
      show dist b.st x.q < dist b.st y.q
      omega
theorem ins_len (b : Bf) (q : Int) (d : ByteArray) : (ins b q d).hs.length = b.hs.length + 1 := by
  have : n0 b q ≤ b.hs.length := nb_le _ _ _
  show (b.hs.take (n0 b q) ++ ⟨q, d⟩ :: b.hs.drop (n0 b q)).length = _
  rw [List.length_append, List.length_cons, List.length_take, List.length_drop]; omega
theorem old_1 {b : Bf} {q : Int} {d : ByteArray} (h : held b q = true) : old b q d = true := by unfold old; rw [h]; rfl
theorem old_2 {b : Bf} {q : Int} {d : ByteArray} (h : inn b.st 2048 q = false) : old b q d = true := by unfold old; rw [h]; simp
theorem old_3 {b : Bf} {q : Int} {d : ByteArray} (h : 2048 < d.size) : old b q d = true := by unfold old; rw [decide_eq_true h]; simp
theorem old_4 {b : Bf} {q : Int} {d : ByteArray} (h1 : held b q = false) (h2 : inn b.st 2048 q = true) (h3 : ¬ 2048 < d.size) : ¬ old b q d = true := by unfold old; rw [h1, h2, decide_eq_false h3]; decide

set_option maxRecDepth 100000 in
set_option maxHeartbeats 4000000 in
theorem ro_put_old (x : Rw) (b : Bf) (q : Int) (d : ByteArray) (w : World) (hL : Lies w x b) (hb : Ok b) (hd : d.size ≤ 5000) (ho : old b q d = true) :
    Calls Try.prog 17 #[Rw_.v x, .int .i64 q, .string d] w fun e w' => PutPost (b, 0, []) w e w' := by
  have hl : b.hs.length ≤ 1000 := by have := hb.len; omega
  obtain ⟨w1, hw1⟩ : ∃ w1, w.alloc (.cells (Rw_.C x) 25) = w1 := ⟨_, rfl⟩
  obtain ⟨w2, hw2⟩ : ∃ w2, w1.alloc (.cells (Rw_.C zr) 25) = w2 := ⟨_, rfl⟩
  have hw2' : w1.alloc (.cells #[.int .i64 0, .int .i64 0, .slice none 0 0] 25) = w2 := hw2
  have z1 : w1.heap.size = w.heap.size + 1 := by rw [← hw1]; simp
  have T2 := Lib.hid (Two.new hw1 hw2)
  have l2 := T2.out.bx.loadF
  have hn := not20
  have CF := Lib.hid (ro_find_any x b q w2 (hL.below T2.out.bel) hb.asc hl)
  have CI : Hid (∀ W, Calls Try.prog 30 #[Rw_.v x, .int .i64 q] W fun e w' => e = .returned (.bool (inn b.st 2048 q)) ∧ Below W.heap.size W w') := fun W => by
    have h := ro_isAhead_any x q W
    rw [hL.st] at h
    exact h
  have HC : Hid (∀ W, Below w.heap.size w W → Calls Try.prog 31 #[Rw_.v x] W fun e w' => BfPost b W e w') := fun W hW => ro_copied_any x b W (hL.below hW) hl
  have HO : Hid (held b q = true ∨ inn b.st 2048 q = false ∨ 2048 < d.size) := by
    by_cases h1 : held b q = true
    · exact .inl h1
    · cases h2 : inn b.st 2048 q
      · exact .inr (.inl rfl)
      · by_cases h3 : 2048 < d.size
        · exact .inr (.inr h3)
        · exact absurd ho (old_4 (by simpa using h1) h2 h3)
  clear hL hb hl ho
  generalize n0 b q = N at *
  generalize inn b.st 2048 q = A at *
  generalize held b q = H at *
  cases H
  case' false => cases A
  case' false.true =>
    have hgt : (2048 : Int) < (d.size : Int) := by
      rcases HO.out with h | h | h
      · cases h
      · cases h
      · omega
  all_goals
    clear HO
    go_enter Try.func17, Try.ntmps17
    go_wp2_with (first
      | (go_at_call 29; refine CF.out.mono ?_; rintro e w3 ⟨rfl, hw3⟩; have T3 := Lib.hid (T2.out.below (hw3.mono (Nat.le_refl _))); have l3 := T3.out.bx.loadF; clear hw3)
      | (go_at_call 30; refine (CI.out _).mono ?_; rintro e w3b ⟨rfl, hw3b⟩; have T3b := Lib.hid (T3.out.below hw3b); have l3b := T3b.out.bx.loadF; clear hw3b)
      | (go_at_call 31; first | refine (HC.out w3b T3b.out.bel).mono ?_ | refine (HC.out w3 T3.out.bel).mono ?_))
    rintro e w4 ⟨x', rfl, hl4, hb4, hf4⟩
    first
      | (have st4 := (T3b.out.below hb4).rs.storeF x'
         have F := Lib.hid (put_fin0 (p := (b, [])) (k := 0) (sa := none) (c := 0) T3b.out hl4 (Ss_.Sl.none w4) hb4 hf4 (Fresh.none _))
         have X := Lib.hid ((T3b.out.below hb4).setY x').rs)
      | (have st4 := (T3.out.below hb4).rs.storeF x'
         have F := Lib.hid (put_fin0 (p := (b, [])) (k := 0) (sa := none) (c := 0) T3.out hl4 (Ss_.Sl.none w4) hb4 hf4 (Fresh.none _))
         have X := Lib.hid ((T3.out.below hb4).setY x').rs)
    clear hl4 hb4 hf4
    go_wp2
    exact ret_rw3 Try.results17 rfl rfl rfl X.out rfl F.out
end Go.Proofs.Yteffmfloopkmoaa
