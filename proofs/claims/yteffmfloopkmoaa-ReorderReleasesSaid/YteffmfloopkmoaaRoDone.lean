/-
  WALKS of package reorder: Move, Flush.
-/
import Derived.Test.YteffmfloopkmoaaRoRel2
namespace Go.Proofs.Yteffmfloopkmoaa
open Go.RowKit Go.Ro Go.Sq Go.Wr
attribute [local go_sem ↓ high] Rw_.loadF Rw_.storeF Rw_.v_cells Rw_.v_match
attribute [local go_sem] Rw_.C0 Rw_.C1 Rw_.C2 Rw_.loadF_new Rw_.storeF_zero Oper.semAt_some

theorem not20 : ∀ (x : Bool) (w : World), (Op.unary .not (.bool x)).run Try.prog w = .ok (.bool (!x)) w := fun _ _ => rfl
theorem lies_row {w : World} {x : Rw} {b : Bf} {g : Nat} {c : Array Value} (h : Lies w x b) (hg : ∀ bb off, x.sa = some ⟨bb, off, none⟩ → bb ≠ g) : Lies (w.setRow g c) x b :=
  ⟨h.st, h.sz, h.n, ⟨h.sl.lies.block (by simp [World.setRow]) (fun bb off e => Rw_.setRow_other (hg bb off e) _), h.sl.le, h.sl.nil⟩⟩
theorem ss_row {w : World} {sa : Option Addr} {l : List ByteArray} {c0 g : Nat} {c : Array Value} (h : Ss_.Sl w sa l c0) (hg : ∀ bb off, sa = some ⟨bb, off, none⟩ → bb ≠ g) : Ss_.Sl (w.setRow g c) sa l c0 :=
  ⟨h.lies.block (by simp [World.setRow]) (fun bb off e => Rw_.setRow_other (hg bb off e) _), h.le, h.nil⟩
/-- What a call handed back is put into the result's cell. -/
theorem rel_fin {p : Bf × List ByteArray} {w wi w5 : World} {x y x' : Rw} {sa : Option Addr} {c : Nat} (T : Two w x y wi) (hL : Lies w5 x' p.1) (hs : Ss_.Sl w5 sa p.2 c) (hb : Below wi.heap.size wi w5) (f1 : Fresh wi x'.sa) (f2 : Fresh wi sa) :
    RelPost p w (.returned (.tuple #[Rw_.v x', .slice sa p.2.length c])) (w5.setRow (w.heap.size + 1) (Rw_.C x')) := by
  have hz := T.size
  refine ⟨x', sa, c, rfl, lies_row hL (fun bb off e => by have := f1 bb off e; omega), ss_row hs (fun bb off e => by have := f2 bb off e; omega), ((T.below hb).setY x').bel, f1.up (by omega), f2.up (by omega)⟩

set_option maxRecDepth 100000 in
set_option maxHeartbeats 4000000 in
theorem ro_move_any (x : Rw) (b : Bf) (s : Int) (w : World) (hL : Lies w x b) (hb : Ok b) :
    Calls Try.prog 19 #[Rw_.v x, .int .i64 s] w fun e w' => RelPost (Ro.move b s) w e w' := by
  have hl : b.hs.length ≤ 1000 := by have := hb.len; omega
  obtain ⟨w1, hw1⟩ : ∃ w1, w.alloc (.cells (Rw_.C x) 25) = w1 := ⟨_, rfl⟩
  obtain ⟨w2, hw2⟩ : ∃ w2, w1.alloc (.cells (Rw_.C zr) 25) = w2 := ⟨_, rfl⟩
  have hw2' : w1.alloc (.cells #[.int .i64 0, .int .i64 0, .slice none 0 0] 25) = w2 := hw2
  have z1 : w1.heap.size = w.heap.size + 1 := by rw [← hw1]; simp
  have T2 := Lib.hid (Two.new hw1 hw2)
  have l2 := T2.out.bx.loadF
  have hn := not20
  have CI := Lib.hid (ro_isAhead_any x s w2)
  rw [hL.st] at CI
  have HC : Hid (∀ W, Below w.heap.size w W → Calls Try.prog 31 #[Rw_.v x] W fun e w' => BfPost b W e w') := fun W hW => ro_copied_any x b W (hL.below hW) hl
  have HR : Hid (inn b.st 2048 s = true → ∀ W, Below w.heap.size w W → Calls Try.prog 35 #[Rw_.v x, .int .i64 s] W fun e w' => RelPost (rel b s) W e w') := fun hi W hW =>
    ro_release_any x b s W (hL.below hW) hb.asc ((vl_iff s).1 (by unfold inn at hi; exact (Bool.and_eq_true_iff.1 hi).1)) hl
  have HM1 : Hid (inn b.st 2048 s = true → Ro.move b s = rel b s) := fun h => if_pos h
  have HM2 : Hid (inn b.st 2048 s = false → Ro.move b s = (b, [])) := fun h => if_neg (by rw [h]; decide)
  clear hL hb hl
  cases hi : inn b.st 2048 s
  · rw [HM2.out hi]
    rw [hi] at CI
    clear HM1 HM2 HR
    go_enter Try.func19, Try.ntmps19
    go_wp2_with fail
    refine CI.out.mono ?_
    rintro e w3 ⟨rfl, hw3⟩
    have T3 := Lib.hid (T2.out.below hw3)
    have l3 := T3.out.bx.loadF
    clear hw3
    go_wp2_with fail
    refine (HC.out w3 T3.out.bel).mono ?_
    rintro e w4 ⟨x', rfl, hl4, hb4, hf4⟩
    have st4 := (T3.out.below hb4).rs.storeF x'
    have F := Lib.hid (rel_fin (p := (b, [])) (sa := none) (c := 0) T3.out hl4 (Ss_.Sl.none w4) hb4 hf4 (Fresh.none _))
    have X := Lib.hid ((T3.out.below hb4).setY x').rs
    clear hl4 hb4 hf4
    go_wp2
    exact ret_rw2 Try.results19 rfl rfl X.out rfl F.out
  · rw [HM1.out hi]
    rw [hi] at CI
    have HR2 := Lib.hid (HR.out hi)
    clear HM1 HM2 HR hi
    go_enter Try.func19, Try.ntmps19
    go_wp2_with fail
    refine CI.out.mono ?_
    rintro e w3 ⟨rfl, hw3⟩
    have T3 := Lib.hid (T2.out.below hw3)
    have l3 := T3.out.bx.loadF
    clear hw3
    go_wp2_with fail
    refine (HR2.out w3 T3.out.bel).mono ?_
    rintro e w4 ⟨x', sa, c, rfl, hl4, hs4, hb4, hf4, hg4⟩
    have st4 := (T3.out.below hb4).rs.storeF x'
    have F := Lib.hid (rel_fin T3.out hl4 hs4 hb4 hf4 hg4)
    have X := Lib.hid ((T3.out.below hb4).setY x').rs
    clear hl4 hb4 hf4 hs4 hg4
    generalize (rel b s).2.length = m at *
    go_wp2
    exact ret_rw2 Try.results19 rfl rfl X.out rfl F.out
end Go.Proofs.Yteffmfloopkmoaa
