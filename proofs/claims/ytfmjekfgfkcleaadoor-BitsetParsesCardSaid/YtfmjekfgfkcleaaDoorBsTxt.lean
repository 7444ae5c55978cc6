/-
  THE WALK of bitset.Text: the text of the set.
-/
import Derived.Test.YtfmjekfgfkcleaaDoorBsEach
import Derived.Test.YtfmjekfgfkcleaaDoorBsIter2
import Derived.Test.YtfmjekfgfkcleaaDoorBsCounts
import Derived.Test.YtfmjekfgfkcleaaDoorBsText
import Derived.Test.YtfmjekfgfkcleaaDoorShelf8
import Derived.Deep.RegionLaw
namespace Go.Proofs.YtfmjekfgfkcleaaDoor
open Go.RowKit Go.Shelf Go.Bs
attribute [local go_sem] Oper.semAt_some

theorem infoStr : (Tryd.prog.info? 9).map (fun i => (i.zero, i.size, i.bytes)) = some (some (.string ⟨#[]⟩), 1, 16) := by kernel_rfl

/-- Append, under a name that the walk does not lay open. -/
noncomputable def appOp (ats : Array TypeId) (ty : TypeId) (args : Array Value) : Sem Value := Builtin.append_ ats ty args
theorem appOp_eq (ats : Array TypeId) (ty : TypeId) (args : Array Value) : Builtin.append_ ats ty args = appOp ats ty args := rfl
theorem builtin_appOp (ats : Array TypeId) (ty : TypeId) (cs : Array Bool) (args : Array Value) : builtin .append ats ty cs args = (do pure (.value (← appOp ats ty args))) := rfl
attribute [local go_sem ↓ high] builtin_appOp
attribute [local go_sem ↓ high] appOp_eq

/-- The words of a list. -/
def wbs (l : List (Fin 64)) : List ByteArray := l.map fun x => ⟨(Lib.decDigits x.val).toArray⟩
theorem wbs_join (l : List (Fin 64)) : Lib.join ((wbs l).map (·.data.toList)) [44] = jn (iv l) := by
  unfold jn wbs iv
  rw [List.map_map, List.map_map]; rfl
theorem undrew {X w1 : World} {row : Option Nat} (h : X.drew.grownBy w1 row) : X.grownBy w1 row := ⟨h.os, h.tape, h.output, h.size, h.block⟩

set_option maxRecDepth 100000 in
set_option maxHeartbeats 4000000 in
theorem text_in (n : Nat) (hn : 3 ≤ n) (s : Nat) (hs : s < 18446744073709551616) (hne : els s ≠ []) (w : World) (hT : Tab64 w) (hg : 0 < w.heap.size) :
    CallsIn Fence.wide n Tryd.prog 28 #[.int .u64 s] w fun e w' => e = .returned (.string ⟨(txt s).toArray⟩) ∧ Below w.heap.size w w' := by
  have h1 : 1 ≤ n := by omega
  have HI := Lib.hid (info_parts infoStr)
  have hl64 : (els s).length ≤ 64 := elk_len s 64
  have hz0 : ((s : Int) == 0) = false := by
    have : s ≠ 0 := by rintro rfl; exact hne els_zero
    simp; omega
  refine callsIn_of_wp_marks Tryd.func28 rfl trivial ?_ rfl
  simp only [Tryd.ntmps28, List.size_toArray, List.length_cons, List.length_nil, Nat.reduceAdd, Nat.reduceSub, Array.replicate_succ, Array.replicate_zero, List.push_toArray, List.append_toArray, List.nil_append, List.cons_append]
  gi_wp2_with (refine ⟨trivial, ?_⟩; gi_at_call 18; refine (each_in (n - 1) s _).mono ?_; rintro e w' ⟨rfl, rfl⟩)
  have bL := Boxed.new w 52 (.slice none 0 0)
  have bN := Boxed.new (w.alloc (.cells #[.slice none 0 0] 52)) 22 (.int .u64 s)
  rw [World.size_alloc] at bN
  have hB0 : Below w.heap.size w ((w.alloc (.cells #[.slice none 0 0] 52)).alloc (.cells #[.int .u64 s] 22)) := ((Below.refl _ w).alloc (Nat.le_refl _) _).alloc (by simp) _
  refine wpIn_rangeFunc_ownG rfl h1 (gf := 34) (lb := #[.pointer (some ⟨w.heap.size + 1, 0, none⟩)]) rfl trivial (enters_of Tryd.func34 (by kernel_rfl) rfl)
    (eachf_stops (n - 1) (by omega) (w.heap.size + 1) w.heap.size hg s hs _ (by simp) (by simp; omega) bN.cell (hT.below hg hB0)) belowK_t (belowK_b (by simp; omega)) (Below.refl _ _) (fun _ => rfl)
    (fun pre W => (∃ v, Boxed W w.heap.size 52 v ∧ W.ownsRow w.heap.size 9 1 v pre.length ((wbs pre).map Value.string) ∧ True) ∧ Below w.heap.size w W)
    (fun _ _ _ => False)
    (OwnFrom.and (Own.from (holdsRow_own w.heap.size w.heap.size 52 9 1 (fun pre : List (Fin 64) => pre.length) (fun pre => (wbs pre).map Value.string) (fun _ _ => True)) _) (ownFrom_below (Nat.le_refl _) (by simp; omega)))
    (fun _ _ _ _ _ hs _ _ => hs)
    ⟨⟨_, bL.alloc _, World.ownsRow_nil _ _ _ _, trivial⟩, hB0⟩
    (fun x => { tmps := #[.int .u64 s, undef, .string ⟨#[]⟩, .pointer (some ⟨w.heap.size, 0, none⟩), .int .i64 (x.val : Int), .int .u64 s, .bool false, .int .u64 s, .func (.func 34) #[] #[.pointer (some ⟨w.heap.size + 1, 0, none⟩)], .int .i64 (x.val : Int), undef, undef, undef, undef, undef, undef, undef], defers := [] }) ?assign ?body ?done ?stop
  case assign =>
    intro l x W K hK
    gi_wp2
    exact hK
  case body =>
    rintro l pre x W ⟨⟨v, hv, hrow, -⟩, hB⟩ hlt
    have hpl : pre.length + 1 ≤ 64 := by omega
    have hc := hv.cell
    have hIt : ∀ wx : World, Calls Tryd.prog 38 #[.int .i64 (x.val : Int)] wx fun e w' => e = .returned (.string ⟨(Lib.decDigits x.val).toArray⟩) ∧ wx = w' := fun wx => (Tryd.strconv_Itoa_small x.val (by omega) wx).mono fun e w' h => ⟨h.1, h.2.symm⟩
    have hw1 : (wbs (pre ++ [x])).map Value.string = (wbs pre).map Value.string ++ [Value.string ⟨(Lib.decDigits x.val).toArray⟩] := by simp [wbs]
    have HW1 := Lib.hid hw1
    generalize hxk : (x.val : Int) = k at hIt ⊢
    generalize hd : (⟨(Lib.decDigits x.val).toArray⟩ : ByteArray) = d at hIt HW1
    clear hw1
    have hcA : (W.alloc (.cells #[.string d] 9)).drew.cell? ⟨w.heap.size, 0, none⟩ = some v := by
      have := hB.size
      rw [show (W.alloc (.cells #[.string d] 9)).drew.cell? ⟨w.heap.size, 0, none⟩ = (W.alloc (.cells #[.string d] 9)).cell? ⟨w.heap.size, 0, none⟩ from rfl]
      exact (hv.alloc _).cell
    obtain ⟨i0, hi, hz0, hz1, hz2⟩ := HI.out
    obtain ⟨v', w1, hrun, hown', hgrow, -⟩ := run_append_own (P := Tryd.prog) (W.alloc (.cells #[.string d] 9)).drew w.heap.size 52 52 9 i0 (.string ⟨#[]⟩) 1 16 Tryd.underlying52 hi hz0 hz1 hz2 rfl (by decide) v pre.length _ (hrow.alloc (.cells #[.string d] 9)).drew ⟨W.heap.size, 0, none⟩ 1 1 [.string d] rfl (cell_one_new W _ _) (by simp [Value.oneCell']) (by unfold maxLen; omega) (by omega) (by have := hB.size; simp; omega)
    rw [appOp_eq] at hrun
    clear hi hz0 hz1 hz2
    obtain ⟨g', cap', rfl⟩ := ownsRow_succ hown'
    obtain ⟨hv1, hv2, hr2, hk2, hb2⟩ := hv.appended (by decide) hrow hB.size (Nat.le_refl _) hown' (undrew hgrow)
    have hc1 := hv1.cell
    have hf1 := hv1.frozen
    have hc2 := hv2.cell
    have HX := Lib.hid (And.intro hown' (And.intro hgrow (And.intro hv1 (And.intro hv2 (And.intro hr2 (And.intro hk2 hb2))))))
    clear hown' hgrow hv1 hv2 hr2 hk2 hb2
    have hn2 : 1 ≤ n - 1 - 1 := by omega
    have hItI : ∀ m wx, CallsIn (Fence.wide.inRound l) m Tryd.prog 38 #[.int .i64 k] wx fun e w' => e = .returned (.string d) ∧ wx = w' := fun m wx => CallsIn.inRound l (callsIn_wide.2 (hIt wx))
    clear hIt
    gi_wp2
    gi_region_with (refine ⟨trivial, ?_⟩; gi_at_call 38; refine (hItI _ _).mono ?_; rintro e w' ⟨rfl, rfl⟩)
    all_goals gi_wp2
    all_goals (obtain ⟨hown', hgrow, hv1, hv2, hr2, hk2, hb2⟩ := HX.out; exact ⟨hk2.from _, hb2, ⟨⟨_, hv2, by rw [HW1.out]; simpa using hr2, trivial⟩, hB.trans hb2⟩⟩)
  case done =>
    rintro D ys W hD hys ⟨⟨v, hv, hrow, -⟩, hB⟩ hK
    have hlen : ys.length = (els s).length := by rw [← hys, iv_len]
    have hpos : 0 < ys.length := by rw [hlen]; exact List.length_pos_iff.2 hne
    have hc := hv.cell
    rcases hrow.2 with ⟨-, h0⟩ | ⟨g, cap, cur, rfl, hbg, hh, hcap, -⟩
    · omega
    · have hJ : Calls Tryd.prog 39 #[.slice (some ⟨g, 0, none⟩) ys.length cap, .string ⟨#[44]⟩] W fun e w' => e = .returned (.string ⟨(txt s).toArray⟩) ∧ Below W.heap.size W w' := by
        have hT2 : txt s = jn (iv ys) := by unfold txt; rw [if_neg hne, hys]
        have hwl : (wbs ys).length = ys.length := by simp [wbs]
        have hjl := txt_le s
        have := Tryd.strings_Join g 0 cap (wbs ys) ⟨#[44]⟩ W (fun j x hj => by
          have := hrow.cells (g := g) rfl j (.string x) (by simp [hj])
          simp only [Addr.add] at this
          by_cases h0 : j = 0
          · subst h0; simpa using this
          · simpa [h0] using this) (Array.getElem?_eq_some_iff.1 hh).1 (by omega) (by omega) (by rw [show (⟨#[44]⟩ : ByteArray).data.toList = [44] from rfl, wbs_join, ← hT2]; omega)
        rw [show (⟨#[44]⟩ : ByteArray).data.toList = [44] from rfl, wbs_join, ← hT2, hwl] at this
        exact this
      have HH := Lib.hid (And.intro hlen (And.intro hpos (And.intro hys hcap)))
      clear hlen hpos hys hcap
      gi_wp2_with (refine ⟨trivial, ?_⟩; gi_at_call 39; refine (callsIn_wide.2 hJ).mono ?_; rintro e w2 ⟨rfl, hb2⟩)
      have hK' : w2.heap[D]? = some (.deferred (some [])) := (hb2.block D (Array.getElem?_eq_some_iff.1 hK).1).trans hK
      refine ⟨by simp, .inl ⟨_, _, rfl, run_takeDeferred hK', ?_⟩⟩
      refine ⟨.string ⟨(txt s).toArray⟩, ?_, rfl, (hB.trans (hb2.mono hB.size)).trans (belowK_b (w := w) (Nat.le_refl _) _ D _ _ (by simp at hD; omega) hK' rfl rfl)⟩
      simp [results, Tryd.f28, go_sem]
  case stop =>
    rintro D c pre W _ _ h _
    exact h.elim
set_option maxHeartbeats 400000 in
/-- **bitset.Text**: the text of the set. -/
theorem text_any (s : Nat) (hs : s < 18446744073709551616) (w : World) (hT : Tab64 w) (hg : 0 < w.heap.size) :
    Calls Tryd.prog 28 #[.int .u64 s] w fun e w' => e = .returned (.string ⟨(txt s).toArray⟩) ∧ Below w.heap.size w w' := by
  by_cases hne : els s = []
  · have h0 := els_nil0 hne hs
    subst h0
    have HT : Hid (txt 0 = [45]) := if_pos hne
    clear hne hs
    go_enter Tryd.func28, Tryd.ntmps28
    go_wp2
    go_ret
    exact ⟨by rw [HT.out]; rfl, Below.refl _ _⟩
  · exact (callsIn_wide (n := 3)).1 (text_in 3 (by omega) s hs hne w hT hg)
end Go.Proofs.YtfmjekfgfkcleaaDoor
