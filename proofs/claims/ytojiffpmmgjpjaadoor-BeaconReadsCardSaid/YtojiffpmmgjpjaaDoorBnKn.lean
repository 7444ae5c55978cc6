/-
  WALKS of package beacon: isKnown, onlyKnown, inOrder; the table of the known IDs lies in its variable.
-/
import Derived.Test.YtojiffpmmgjpjaaDoorBnEnc
import Derived.Lib.LaidTab
import Derived.LaidMore
namespace Go.Proofs.YtojiffpmmgjpjaaDoor
open Go.RowKit Go.Bn Go.Wr

/-- The table of the known IDs lies in its variable. -/
structure KnTab (w : World) : Prop where
  cell : ∀ j : Nat, j < 6 → w.cell? ⟨0, j, none⟩ = some (.int .i64 (ids.getD j 0))
  lt : 0 < w.heap.size
theorem KnTab.below {B : Nat} {w w' : World} (h : KnTab w) (hb : Below B w w') (hB : 0 < B) : KnTab w' :=
  ⟨fun j hj => (hb.cell hB).trans (h.cell j hj), Nat.lt_of_lt_of_le h.lt hb.size⟩
theorem KnTab.keep {w w' : World} (h : KnTab w) (hb : Below w.heap.size w w') : KnTab w' := h.below hb h.lt

theorem KnTab.drew_cell {w : World} (h : KnTab w) (j : Nat) (hj : j < 6) : w.drew.cell? ⟨0, j, none⟩ = some (.int .i64 (ids.getD j 0)) := h.cell j hj

theorem known_at (k : Nat) (hk : k < 6) (w : World) : (Instr.index 113 (.agg #[.int .i64 0, .int .i64 3, .int .i64 5, .int .i64 11, .int .i64 12, .int .i64 37]) (.int .i64 (k : Int))).run Tryd.prog w = .ok (.int .i64 (ids.getD k 0)) w := by
  have c : k = 0 ∨ k = 1 ∨ k = 2 ∨ k = 3 ∨ k = 4 ∨ k = 5 := by omega
  rcases c with rfl | rfl | rfl | rfl | rfl | rfl <;> (show _ = _; kernel_rfl)
/-- Not among the first k. -/
def nkn (id : Int) (k : Nat) : Prop := ∀ j, j < k → ¬ ids.getD j 0 = id
theorem kn_at {id : Int} {k : Nat} (hk : k < 6) (h : ids.getD k 0 = id) : kn id = true := by
  subst h
  have c : k = 0 ∨ k = 1 ∨ k = 2 ∨ k = 3 ∨ k = 4 ∨ k = 5 := by omega
  rcases c with rfl | rfl | rfl | rfl | rfl | rfl <;> rfl
theorem kn_none {id : Int} (h : nkn id 6) : kn id = false := by
  rw [Bool.eq_false_iff]
  intro hk
  rcases kn_iff.1 hk with e | e | e | e | e | e
  · exact h 0 (by decide) e.symm
  · exact h 1 (by decide) e.symm
  · exact h 2 (by decide) e.symm
  · exact h 3 (by decide) e.symm
  · exact h 4 (by decide) e.symm
  · exact h 5 (by decide) e.symm
theorem nkn_succ {id : Int} {k : Nat} (h : nkn id k) (hn : ¬ ids.getD k 0 = id) : nkn id (k + 1) := fun j hj => by
  by_cases e : j = k
  · rw [e]; exact hn
  · exact h j (by omega)

set_option maxRecDepth 100000 in
set_option maxHeartbeats 1000000 in
theorem bnIsKnown_any (id : Int) (w : World) (ht : KnTab w) :
    Calls Tryd.prog 71 #[.int .i64 id] w fun e w' => e = .returned (.bool (kn id)) ∧ w = w' := by
  have c0 : w.cell? ⟨0, 0, none⟩ = some (.int .i64 0) := ht.cell 0 (by decide)
  have c1 : w.cell? ⟨0, 1, none⟩ = some (.int .i64 3) := ht.cell 1 (by decide)
  have c2 : w.cell? ⟨0, 2, none⟩ = some (.int .i64 5) := ht.cell 2 (by decide)
  have c3 : w.cell? ⟨0, 3, none⟩ = some (.int .i64 11) := ht.cell 3 (by decide)
  have c4 : w.cell? ⟨0, 4, none⟩ = some (.int .i64 12) := ht.cell 4 (by decide)
  have c5 : w.cell? ⟨0, 5, none⟩ = some (.int .i64 37) := ht.cell 5 (by decide)
  clear ht
  go_enter Tryd.func71, Tryd.ntmps71
  go_wp2
  go_loopw [4, 6] (fun _ i wr => ∃ k : Nat, k ≤ 6 ∧ i = .int .i64 k ∧ nkn id k ∧ w = wr) (fun _ i _ => 6 - (intOf i).toNat)
  case atStart => exact ⟨0, by omega, rfl, fun j hj => absurd hj (Nat.not_lt_zero j), rfl⟩
  case round =>
    obtain ⟨k, hk, rfl, hn, rfl⟩ := hrel
    have HN := Lib.hid hn
    clear hn c0 c1 c2 c3 c4 c5
    by_cases h6 : k < 6
    · have hix := known_at k h6
      have HK := Lib.hid (fun h => kn_at (id := id) h6 h)
      have HS := Lib.hid (fun h => nkn_succ HN.out h)
      generalize ids.getD k 0 = z at *
      by_cases hz : z = id
      · have HQ := Lib.hid (HK.out hz)
        have hz' : (z == id) = true := by simp [hz]
        clear hz HK HS
        go_wp2
        go_ret
        exact ⟨by rw [HQ.out]; rfl, rfl⟩
      · have HQ := Lib.hid (HS.out hz)
        have hz' : (z == id) = false := by simp [hz]
        clear hz HK HS
        go_wp2
        go_roundw
        case rel => exact ⟨k + 1, by omega, by go_num, HQ.out, by first | rfl | trivial⟩
        case measure => simp [intOf]; omega
    · obtain rfl : k = 6 := by omega
      go_wp2
      go_ret
      exact ⟨by rw [kn_none HN.out]; rfl, rfl⟩

theorem knl_yes {l : List Go.Em.El} {k : Nat} (h : k < l.length) (hk : kn l[k].id = true) : knl (l.take (k + 1)) = knl (l.take k) ++ [l[k]] := by
  unfold knl
  rw [List.take_succ_eq_append_getElem h, List.filter_append, List.filter_cons_of_pos (p := fun e : Go.Em.El => kn e.id) hk, List.filter_nil]
theorem knl_no {l : List Go.Em.El} {k : Nat} (h : k < l.length) (hk : kn l[k].id = false) : knl (l.take (k + 1)) = knl (l.take k) := by
  unfold knl
  rw [List.take_succ_eq_append_getElem h, List.filter_append, List.filter_cons_of_neg (p := fun e : Go.Em.El => kn e.id) (by simp [hk]), List.filter_nil, List.append_nil]
theorem knl_le (l : List Go.Em.El) (k : Nat) : (knl (l.take k)).length ≤ l.length :=
  Nat.le_trans (List.length_filter_le _ _) (by rw [List.length_take]; omega)

/-- What onlyKnown hands back. -/
def KnlPost (l : List Go.Em.El) (w : World) (e : Ending) (w' : World) : Prop :=
  ∃ v0 c, e = .returned (.slice v0 (knl l).length c) ∧ El_.Sl w' v0 (knl l) c ∧ Below w.heap.size w w' ∧ ∀ g off, v0 = some ⟨g, off, none⟩ → w.heap.size ≤ g

set_option maxRecDepth 100000 in
set_option maxHeartbeats 4000000 in
theorem bnOnlyKnown_any (l : List Go.Em.El) (sa : Option Addr) (c : Nat) (w : World) (h : El_.At w sa l) (hl : l.length ≤ 1000) (ht : KnTab w) :
    Calls Tryd.prog 48 #[.slice sa l.length c] w fun e w' => KnlPost l w e w' := by
  have HI := Lib.hid (info_parts El_.info)
  have HA := Lib.hid h
  have HT := Lib.hid ht
  clear h ht
  go_enter Tryd.func48, Tryd.ntmps48
  go_wp2
  go_loopw [3, 8] (fun v i wr => ∃ (k : Nat) (L : List Go.Em.El), k ≤ l.length ∧ i = .int .i64 k ∧ Aside (L = knl (l.take k)) ∧ wr.ownsRow w.heap.size 49 2 v L.length (El_.flat L) ∧ Below w.heap.size w wr) (fun _ i _ => l.length - (intOf i).toNat)
  case atStart => exact ⟨0, [], Nat.zero_le _, rfl, rfl, World.ownsRow_nil _ _ _ _, Below.refl _ _⟩
  case round =>
    rename_i wr
    obtain ⟨k, L, hk, rfl, HLk, hown, hb⟩ := hrel
    obtain ⟨v0, c0, rfl⟩ := El_.slice_form hown
    have HB := Lib.hid hb
    have hLn : L.length ≤ 1000 := by rw [HLk.out]; have := knl_le l k; omega
    by_cases hlt : k < l.length
    · obtain ⟨b, off, rfl, -, q0, q1⟩ := HA.out.below hb k hlt
      have HK := Lib.hid fun w ht => bnIsKnown_any l[k].id w ht
      have HT2 := Lib.hid ((HT.out.keep hb).keep ((Below.refl _ _).alloc (Nat.le_refl _) (.cells #[.int .i64 l[k].id, .string l[k].s] 49)))
      have HX : Hid (El_.cs l[k] = [.int .i64 l[k].id, .string l[k].s]) := rfl
      have HY := Lib.hid (fun h => knl_yes hlt h)
      have HN := Lib.hid (fun h => knl_no hlt h)
      have HLT := Lib.hid hlt
      rw [← HLk.out] at HY HN
      generalize l[k] = x at *
      obtain ⟨xi, xt⟩ := x
      simp only at q0 q1 HK HT2 HX HY HN
      have hown1 := hown.alloc (.cells #[.int .i64 xi, .string xt] 49)
      clear hown HLk
      cases hkn : kn xi
      · have HR := Lib.hid (HN.out hkn)
        rw [hkn] at HK
        clear HN HY HX hkn
        go_wp2_with (go_at_call 71; refine (HK.out _ HT2.out).mono ?_; rintro e w' ⟨rfl, rfl⟩)
        go_roundw
        case rel => exact ⟨k + 1, L, HLT.out, by go_num, HR.out.symm, hown1, HB.out.alloc HB.out.size _⟩
        case measure => have := HLT.out; simp [intOf]; omega
      · have HR := Lib.hid (HY.out hkn)
        rw [hkn] at HK
        clear HN HY hkn
        go_wp2_with (first
          | (go_at_call 71; refine (HK.out _ HT2.out).mono ?_; rintro e w' ⟨rfl, rfl⟩)
          | (at_builtin; obtain ⟨i0, hi, hz0, hz1, hz2⟩ := HI.out; refine wpList_append_own _ rfl _ _ 32 rfl w.heap.size 49 i0 (.agg #[.int .i64 0, .string ⟨#[]⟩]) 2 24 Tryd.underlying32 hi hz0 hz1 hz2 rfl (by decide) _ _ _ rfl (hown1.alloc _) ⟨wr.heap.size + 1, 0, none⟩ 1 1 [.int .i64 xi, .string xt] rfl rfl ?c1 ?c2 ?c3 ?c4 ?c5 ?_))
        case c1 =>
          intro j u hj
          match j, hj with
          | 0, hj => simp at hj; subst hj; simp [Addr.add]
          | 1, hj => simp at hj; subst hj; simp [Addr.add]
        case c2 => intro u hu; simp at hu; rcases hu with rfl | rfl <;> rfl
        case c3 => unfold maxLen; omega
        case c4 => omega
        case c5 => have := HB.out.size; simp; omega
        intro v3 w3 hown3 hgrow hn'
        clear hi hz0 hz1 hz2
        have R : w3.ownsRow w.heap.size 49 2 v3 (L ++ [(⟨xi, xt⟩ : Go.Em.El)]).length (El_.flat (L ++ [(⟨xi, xt⟩ : Go.Em.El)])) ∧ Below w.heap.size w w3 := by
          refine ⟨?_, ?_⟩
          · rw [El_.flat_snoc, HX.out, List.length_append]
            exact hown3
          · refine Below.grown ((HB.out.alloc HB.out.size _).alloc (by have := HB.out.size; simp; omega) _) hgrow (by simp; have := HB.out.size; omega) (fun j hj => (hown1.lt j hj).1)
        clear hown1 hown3 hgrow hn'
        go_wp2
        go_roundw
        case rel => exact ⟨k + 1, L ++ [(⟨xi, xt⟩ : Go.Em.El)], HLT.out, by go_num, HR.out.symm, R.1, R.2⟩
        case measure => have := HLT.out; simp [intOf]; omega
    · obtain rfl : k = l.length := by omega
      have HO : Hid (El_.Sl wr v0 L c0) := El_.sl_owns hown
      have HG : Hid (∀ g off, v0 = some ⟨g, off, none⟩ → w.heap.size ≤ g) := fun g off e => (hown.lt g (by rw [e]; rfl)).1
      have HE : Hid (L = knl l) := HLk.out.trans (by rw [List.take_length])
      clear hown HLk
      go_wp2
      go_ret
      exact ⟨v0, c0, by rw [← HE.out]; rfl, by rw [← HE.out]; exact HO.out, hb, HG.out⟩

theorem ord_all {l : List Go.Em.El} : ord l = true ↔ (l.length = 5 ∨ l.length = 6) ∧ ∀ j (hj : j < l.length), l[j].id = ids.getD j 0 := by
  unfold ord
  rw [Bool.and_eq_true, decide_eq_true_iff, decide_eq_true_iff]
  constructor
  · rintro ⟨hn, hi⟩
    refine ⟨hn, fun j hj => ?_⟩
    have h6 : j < 6 := by omega
    have := congrArg (·[j]?) hi
    simp only [List.getElem?_map, List.getElem?_eq_getElem hj, Option.map_some, List.getElem?_take, if_pos hj] at this
    rw [List.getD_eq_getElem?_getD, ← this]; rfl
  · rintro ⟨hn, hi⟩
    refine ⟨hn, List.ext_getElem? fun j => ?_⟩
    rw [List.getElem?_map, List.getElem?_take]
    by_cases hj : j < l.length
    · rw [if_pos hj, List.getElem?_eq_getElem hj, Option.map_some, hi j hj, List.getD_eq_getElem?_getD]
      have h6 : j < ids.length := by show j < 6; omega
      rw [List.getElem?_eq_getElem h6]; rfl
    · rw [if_neg hj, List.getElem?_eq_none (by omega)]; rfl

set_option maxRecDepth 100000 in
set_option maxHeartbeats 4000000 in
theorem bnInOrder_any (l : List Go.Em.El) (sa : Option Addr) (c : Nat) (w : World) (h : El_.At w sa l) (_ : l.length ≤ 1000) (ht : KnTab w) :
    Calls Tryd.prog 49 #[.slice sa l.length c] w fun e w' => e = .returned (.bool (ord l)) ∧ Below w.heap.size w w' := by
  by_cases hn : l.length = 5 ∨ l.length = 6
  case neg =>
    have HO : Hid (ord l = false) := by
      unfold Hid; rw [Bool.eq_false_iff]; exact fun h => hn (ord_all.1 h).1
    have h5 : ((l.length : Int) != 5) = true := by rw [bne_iff_ne]; omega
    have h6 : ((l.length : Int) != 6) = true := by rw [bne_iff_ne]; omega
    clear h ht hn
    go_enter Tryd.func49, Tryd.ntmps49
    go_wp2
    go_ret
    exact ⟨by rw [HO.out]; rfl, Below.refl _ _⟩
  have HA := Lib.hid h
  have HT := Lib.hid ht
  have HOA := Lib.hid (ord_all (l := l))
  have HN := Lib.hid hn
  clear h ht
  rcases hn with hn | hn
  case' inl => have h6 : ((l.length : Int) != 6) = true := by rw [bne_iff_ne]; omega
  case' inl => have h5 : ((l.length : Int) != 5) = false := by rw [hn]; rfl
  case' inr => have h6 : ((l.length : Int) != 6) = false := by rw [hn]; rfl
  all_goals
    clear hn
    go_enter Tryd.func49, Tryd.ntmps49
    go_wp2
    go_loopw [3, 15] (fun _ i wr => ∃ k : Nat, k ≤ l.length ∧ i = .int .i64 k ∧ (∀ j (hj : j < l.length), j < k → l[j].id = ids.getD j 0) ∧ Below w.heap.size w wr) (fun _ i _ => l.length - (intOf i).toNat)
    case atStart => exact ⟨0, Nat.zero_le _, rfl, fun j _ hj => absurd hj (Nat.not_lt_zero j), Below.refl _ _⟩
    case round =>
      rename_i wr
      obtain ⟨k, hk, rfl, hj, hb⟩ := hrel
      have HJ := Lib.hid hj
      have HB := Lib.hid hb
      clear hj
      by_cases hlt : k < l.length
      · obtain ⟨b, off, rfl, -, q0, q1⟩ := HA.out.below hb k hlt
        have hk6 : k < 6 := by have := HN.out; omega
        have HT2 := Lib.hid ((HT.out.keep hb).keep ((Below.refl _ _).alloc (Nat.le_refl _) (.cells #[.int .i64 l[k].id, .string l[k].s] 49)))
        have t0 := HT2.out.cell k hk6
        have t1 := HT2.out.drew_cell k hk6
        have HX : Hid (¬ l[k].id = ids.getD k 0 → ord l = false) := fun hne => by
          rw [Bool.eq_false_iff]; exact fun h => hne ((HOA.out.1 h).2 k hlt)
        have HS : Hid (l[k].id = ids.getD k 0 → ∀ j (hj : j < l.length), j < k + 1 → l[j].id = ids.getD j 0) := fun he j hj hjk => by
          by_cases e : j = k
          · subst e; exact he
          · exact HJ.out j hj (by omega)
        have HLT := Lib.hid hlt
        have i0 : (0 : Int) ≤ (k : Int) := by omega
        have i1 : (k : Int) < 6 := by omega
        generalize l[k].id = xi at *
        generalize l[k].s = xt at *
        generalize ids.getD k 0 = z at *
        clear HJ
        by_cases hz : xi = z
        · have HQ := Lib.hid (HS.out hz)
          have hz' : (xi != z) = false := by rw [hz]; simp
          clear hz HS HX hb
          go_wp2
          go_region
          go_wp2
          go_roundw
          case rel => exact ⟨k + 1, HLT.out, by go_num, HQ.out, (HB.out.alloc HB.out.size _).drew⟩
          case measure => have := HLT.out; simp [intOf]; omega
        · have HQ := Lib.hid (HX.out hz)
          have hz' : (xi != z) = true := by simp [hz]
          clear hz HS HX hb
          go_wp2
          go_region
          go_wp2
          go_ret
          exact ⟨by rw [HQ.out]; rfl, (HB.out.alloc HB.out.size _).drew⟩
      · obtain rfl : k = l.length := by omega
        have HQ := Lib.hid (HOA.out.2 ⟨HN.out, fun j hj => HJ.out j hj hj⟩)
        clear HJ
        go_wp2
        go_ret
        exact ⟨by rw [HQ.out]; rfl, hb⟩
end Go.Proofs.YtojiffpmmgjpjaaDoor
