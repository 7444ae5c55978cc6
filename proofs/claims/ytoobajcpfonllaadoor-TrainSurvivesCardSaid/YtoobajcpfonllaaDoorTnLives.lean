/-
  What the rows' list of variables gives; WALKS of the laws' own functions of layer 17: few, lengths, same, lives.
-/
import Derived.Test.YtoobajcpfonllaaDoorTnRef3
import Derived.Test.YtoobajcpfonllaaDoorTnRef4
import Derived.OpenShut
import Derived.ProofKit
import Derived.Lib.LaidTab
import Derived.Stop.LaidErr
import Derived.MakeChecks
namespace Go.Proofs.YtoobajcpfonllaaDoor
open Go.ChangeShapes Go.WideShapes Go.RowKit Go.Tn Go.Wr Go.Ck

abbrev LaidFacts (W : World) : Prop := TnTab W
theorem g8 : Tryd.prog.globalNamed "airtime/checksum.steps8" = some 0 := by kernel_rfl
theorem g8Type : (Tryd.prog.globals[0]?).map (·.type) = some 70 := by kernel_rfl
theorem tab8_zs : ∀ i : Fin 16, ([0, 7, 14, 9, 28, 27, 18, 21, 56, 63, 54, 49, 36, 35, 42, 45] : List Int).getD i.val 0 = (tab8 i.val : Int) := by decide +kernel
theorem laidFacts {W : World} (h : laidMetH Tryd.prog Rows.trainEncodesRow.laid W) : LaidFacts W := by
  rw [MakeChecks.laidMetH_plain _ _ _ (by kernel_rfl)] at h
  have t8 := Lib.tabIs_of_head (k := .u8) (zs := [0, 7, 14, 9, 28, 27, 18, 21, 56, 63, 54, 49, 36, 35, 42, 45]) g8 g8Type Tryd.underlying70 Tryd.underlying5 (by kernel_rfl) (by kernel_rfl) h
  have c8 : ∀ i, i < 16 → W.cell? ⟨0, i, none⟩ = some (.int .u8 (tab8 i : Int)) := fun i hi => (t8.cell g8 i hi).trans (congrArg (fun z => some (Value.int .u8 z)) (tab8_zs ⟨i, hi⟩))
  exact ⟨c8, World.block_lt_of_cell? _ _ (c8 0 (by decide))⟩
theorem TnTab.alloc {w : World} (h : TnTab w) (o : Obj) : TnTab (w.alloc o) := h.bel ((Below.refl _ _).alloc (Nat.le_refl _) _)

/-! few -/
def tot (l : List ByteArray) : Nat := (l.map ByteArray.size).sum
def fewB (l : List ByteArray) : Bool := decide (l.length ≤ 80 ∧ tot l ≤ 10000)
theorem tot_take {l : List ByteArray} {k : Nat} (h : k < l.length) : tot (l.take (k + 1)) = tot (l.take k) + l[k].size := by
  unfold tot
  rw [List.take_succ_eq_append_getElem h, List.map_append, List.sum_append]; simp
theorem tot_mem {l : List ByteArray} {p : ByteArray} (h : p ∈ l) : p.size ≤ tot l := by
  unfold tot
  induction l with
  | nil => cases h
  | cons x l ih =>
    rw [List.map_cons, List.sum_cons]
    rcases List.mem_cons.1 h with rfl | h
    · omega
    · have := ih h; omega
theorem tot_le {l : List ByteArray} {B : Nat} (h : ∀ p ∈ l, p.size ≤ B) : tot l ≤ B * l.length := by
  unfold tot
  induction l with
  | nil => simp
  | cons x l ih =>
    rw [List.map_cons, List.sum_cons, List.length_cons, Nat.mul_succ]
    have h1 := h x List.mem_cons_self
    have h2 := ih fun p hp => h p (List.mem_cons_of_mem _ hp)
    omega
theorem few_sz {l : List ByteArray} (h : fewB l = true) : l.length ≤ 80 ∧ tot l ≤ 10000 := by unfold fewB at h; exact of_decide_eq_true h
theorem few_no80 {l : List ByteArray} (h : ¬ l.length ≤ 80) : fewB l = false := decide_eq_false fun hh => h hh.1
theorem few_yes80 {l : List ByteArray} (h : l.length ≤ 80) : fewB l = decide (tot l ≤ 10000) := by unfold fewB; simp [h]
theorem few_sum {a b c : Nat} (h : a ≤ 140737488351232 * c) (hc : c ≤ 80) (h2 : b ≤ 140737488351232) : wrap64 ((a : Int) + (b : Int)) = ((a + b : Nat) : Int) := by
  rw [IntWalk.wrap64_in _ (by omega)]; omega

set_option maxRecDepth 100000 in
set_option maxHeartbeats 1000000 in
theorem few17_any (l : List ByteArray) (sa : Option Addr) (c : Nat) (w : World) (h : Ss_.At w sa l) (hl : l.length ≤ maxLen) (hz : ∀ p ∈ l, p.size ≤ 140737488351232) :
    Calls Tryd.prog 8 #[.slice sa l.length c] w fun e w' => e = .returned (.bool (fewB l)) ∧ w = w' := by
  have HA := Lib.hid h
  unfold maxLen at hl
  clear h
  by_cases h80 : l.length ≤ 80
  · have h80' : (l.length : Int) ≤ 80 := by omega
    have HT : Hid (∀ k, tot (l.take k) ≤ 140737488351232 * k) := fun k => by
      have := tot_le (l := l.take k) (B := 140737488351232) fun p hp => hz p (List.mem_of_mem_take hp)
      refine Nat.le_trans this (Nat.mul_le_mul_left _ ?_)
      rw [List.length_take]; exact Nat.min_le_left _ _
    have HZ := Lib.hid hz
    have HE := Lib.hid (few_yes80 h80)
    clear hz hl
    go_enter Tryd.func8, Tryd.ntmps8
    go_wp2
    go_loop [3, 4] (fun n i => ∃ k : Nat, k ≤ l.length ∧ i = .int .i64 k ∧ n = .int .i64 (tot (l.take k) : Nat)) (fun _ i => l.length - (intOf i).toNat)
    case atStart => exact ⟨0, Nat.zero_le _, rfl, rfl⟩
    case round =>
      obtain ⟨k, hk, rfl, rfl⟩ := hrel
      by_cases hlt : k < l.length
      · obtain ⟨b, off, rfl, -, c0⟩ := HA.out k hlt
        have HLT := Lib.hid hlt
        have HN := Lib.hid (tot_take hlt)
        have hw := few_sum (HT.out k) (by omega) (HZ.out l[k] (List.getElem_mem hlt))
        have HW := Lib.hid hw
        generalize l[k] = p at *
        generalize tot (l.take k) = m at *
        go_wp2
        go_round
        case rel => exact ⟨k + 1, HLT.out, by go_num, by rw [HN.out]; exact congrArg (Value.int .i64) HW.out⟩
        case measure => have := HLT.out; simp [intOf]; omega
      · obtain rfl : k = l.length := by omega
        rw [List.take_length]
        by_cases ht : tot l ≤ 10000
        · rw [decide_eq_true ht] at HE
          have ht' : decide (((tot l : Nat) : Int) ≤ 10000) = true := decide_eq_true (by omega)
          go_wp2
          go_returns
          exact ⟨by rw [HE.out] <;> rfl, rfl⟩
        · rw [decide_eq_false ht] at HE
          have ht' : decide (((tot l : Nat) : Int) ≤ 10000) = false := decide_eq_false (by omega)
          go_wp2
          go_returns
          exact ⟨by rw [HE.out] <;> rfl, rfl⟩
  · have h80' : ¬ (l.length : Int) ≤ 80 := by omega
    have HE := Lib.hid (few_no80 h80)
    clear hz
    go_enter Tryd.func8, Tryd.ntmps8
    go_wp2
    go_loop [4] (fun i => i = .int .i64 0) (fun _ => 0)
    case atStart => rfl
    case round =>
      subst hrel
      have hl0 : (0 : Int) < (l.length : Int) := by omega
      go_wp2
      go_returns
      exact ⟨by rw [HE.out] <;> rfl, rfl⟩

/-! lengths -/
set_option maxRecDepth 100000 in
set_option maxHeartbeats 2000000 in
theorem lengths17_any (l : List ByteArray) (sa : Option Addr) (c : Nat) (w : World) (h : Ss_.At w sa l) (hl : l.length ≤ 80) :
    Calls Tryd.prog 12 #[.slice sa l.length c] w fun e w' => ∃ v0 c', e = .returned (.slice v0 (sz l).length c') ∧ Is_.Sl w' v0 (sz l) c' ∧ Below w.heap.size w w' := by
  have HA := Lib.hid h
  have HI := Lib.hid (info_parts Is_.info)
  have H80 := Lib.hid hl
  clear h
  go_enter Tryd.func12, Tryd.ntmps12
  go_wp2
  go_loopw [3, 4] (fun v i wr => ∃ k : Nat, k ≤ l.length ∧ i = .int .i64 k ∧ wr.ownsRow w.heap.size 3 1 v (sz (l.take k)).length (Is_.vs (sz (l.take k))) ∧ Below w.heap.size w wr) (fun _ i _ => l.length - (intOf i).toNat)
  case atStart => exact ⟨0, Nat.zero_le _, rfl, World.ownsRow_nil _ _ _ _, Below.refl _ _⟩
  case round =>
    rename World => wr
    obtain ⟨k, hk, rfl, hown, hb⟩ := hrel
    have HB := Lib.hid hb
    by_cases hlt : k < l.length
    · obtain ⟨b, off, rfl, hbl, c0⟩ := HA.out.below hb k hlt
      have HLT := Lib.hid hlt
      have HN : Hid (sz (l.take (k + 1)) = sz (l.take k) ++ [(l[k].size : Int)]) := by
        rw [List.take_succ_eq_append_getElem hlt]; unfold sz; rw [List.map_append]; rfl
      have hlen : (sz (l.take k)).length ≤ 80 := by rw [sz_len, List.length_take]; omega
      have HLE := Lib.hid hlen
      generalize l[k] = p at *
      generalize sz (l.take k) = L at *
      clear hbl
      go_wp2_with (at_builtin; obtain ⟨i0, hi, hz0, hz1, hz2⟩ := HI.out; refine wpList_append_own _ rfl _ _ 30 rfl w.heap.size 3 i0 (.int .i64 0) 1 8 Tryd.underlying30 hi hz0 hz1 hz2 rfl (by decide) _ _ _ rfl (hown.alloc _) ⟨wr.heap.size, 0, none⟩ 1 1 [.int .i64 (p.size : Int)] rfl rfl ?c1 ?c2 ?c3 ?c4 ?c5 ?_)
      case c1 =>
        intro j u hj
        match j, hj with
        | 0, hj => simp at hj; subst hj; simp [Addr.add]
      case c2 => intro u hu; simp at hu; subst hu; rfl
      case c3 => unfold maxLen; omega
      case c4 => omega
      case c5 => have := HB.out.size; simp; omega
      intro v4 w4 hown4 hgrow hn'
      clear hi hz0 hz1 hz2
      have R : w4.ownsRow w.heap.size 3 1 v4 (L ++ [(p.size : Int)]).length (Is_.vs (L ++ [(p.size : Int)])) ∧ Below w.heap.size w w4 := by
        refine ⟨?_, ?_⟩
        · rw [Is_.vs_snoc, List.length_append]
          exact hown4
        · refine Below.grown (HB.out.alloc HB.out.size _) hgrow (by simp; have := HB.out.size; omega) (fun j hj => ?_)
          exact (hown.lt j hj).1
      have HO4 := Lib.hid R.1
      have HB4 := Lib.hid R.2
      clear hown hown4 hgrow hn' R
      go_wp2
      go_roundw
      case rel => exact ⟨k + 1, HLT.out, by go_num, by rw [HN.out]; exact HO4.out, HB4.out⟩
      case measure => have := HLT.out; simp [intOf]; omega
    · obtain rfl : k = l.length := by omega
      rw [List.take_length] at hown
      obtain ⟨v0, c', rfl⟩ := Is_.slice_form hown
      have HO := Lib.hid (Is_.sl_owns hown)
      clear hown
      go_wp2
      go_returns
      exact ⟨v0, c', rfl, HO.out, HB.out⟩

/-! same -/
set_option maxRecDepth 100000 in
set_option maxHeartbeats 2000000 in
theorem same17_any (L : List Cr) (sa sb : Option Addr) (c c' : Nat) (w : World) (h : Cr_.At w sa L) (h' : Rr_.At w sb L) (hl : L.length ≤ 64) :
    Calls Tryd.prog 16 #[.slice sa L.length c, .slice sb L.length c'] w fun e w' => e = .returned (.bool true) ∧ Below w.heap.size w w' := by
  have HA := Lib.hid h
  have HB' := Lib.hid h'
  clear h h'
  go_enter Tryd.func16, Tryd.ntmps16
  go_wp2
  go_loopw [5] (fun i wr => ∃ k : Nat, k ≤ L.length ∧ i = .int .i64 k ∧ Below w.heap.size w wr) (fun i _ => L.length - (intOf i).toNat)
  case atStart => exact ⟨0, Nat.zero_le _, rfl, Below.refl _ _⟩
  case round =>
    rename World => wr
    obtain ⟨k, hk, rfl, hb⟩ := hrel
    have HB := Lib.hid hb
    by_cases hlt : k < L.length
    · obtain ⟨b, off, rfl, -, c0, c1⟩ := HA.out.below hb k hlt
      obtain ⟨b2, off2, rfl, -, d0, d1⟩ := HB'.out.below hb k hlt
      have HLT := Lib.hid hlt
      generalize L[k] = x at *
      have e1 : (x.p != x.p) = false := by simp
      have e2 : (x.s.toList == x.s.toList) = true := by simp
      have i0 : (0 : Int) ≤ (k : Int) := by omega
      have i1 : (k : Int) < (L.length : Int) := by omega
      clear hb
      go_wp2
      go_quiet (fail)
      go_wp2
      go_roundw
      case rel => exact ⟨k + 1, HLT.out, by go_num, belowN17 HB.out _⟩
      case measure => have := HLT.out; simp [intOf]; omega
    · obtain rfl : k = L.length := by omega
      clear hb
      go_wp2
      go_returns
      exact ⟨rfl, HB.out⟩
end Go.Proofs.YtoobajcpfonllaaDoor
