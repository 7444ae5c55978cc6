/-
  THE WALK of the reference of layer 14: known.
-/
import Derived.Test.YtojiffpmmgjpjaaDoorBnRefE2
import Derived.Test.YtojiffpmmgjpjaaDoorBnKn
namespace Go.Bn
/-- Among the first k of the known IDs. -/
def hit (id : Int) (k : Nat) : Bool := (ids.take k).contains id
theorem hit_zero (id : Int) : hit id 0 = false := rfl
theorem hit_six (id : Int) : hit id 6 = kn id := rfl
theorem hit_yes {id : Int} {k : Nat} (hk : k < 6) (h : ids.getD k 0 = id) : hit id k = false ∧ hit id (k + 1) = true := by
  subst h
  have c : k = 0 ∨ k = 1 ∨ k = 2 ∨ k = 3 ∨ k = 4 ∨ k = 5 := by omega
  rcases c with rfl | rfl | rfl | rfl | rfl | rfl <;> exact ⟨rfl, rfl⟩
theorem hit_no {id : Int} {k : Nat} (hk : k < 6) (h : ¬ ids.getD k 0 = id) : hit id (k + 1) = hit id k := by
  have hl : k < ids.length := hk
  unfold hit
  rw [List.take_succ_eq_append_getElem hl]
  have : ids[k] = ids.getD k 0 := by rw [List.getD_eq_getElem?_getD, List.getElem?_eq_getElem hl]; rfl
  rw [this, Bool.eq_iff_iff]
  simp only [List.contains_iff_mem, List.mem_append, List.mem_singleton]
  constructor
  · rintro (h1 | h1)
    · exact h1
    · exact absurd h1.symm h
  · exact .inl
/-- What has been gathered of an element behind k IDs. -/
def gat (L : List Go.Em.El) (x : Go.Em.El) (k : Nat) : List Go.Em.El := if hit x.id k = true then L ++ [x] else L
theorem gat_zero (L : List Go.Em.El) (x : Go.Em.El) : gat L x 0 = L := rfl
theorem gat_yes {L : List Go.Em.El} {x : Go.Em.El} {k : Nat} (hk : k < 6) (h : x.id = ids.getD k 0) : gat L x (k + 1) = gat L x k ++ [x] := by
  have := hit_yes hk h.symm
  unfold gat; rw [this.1, this.2]; rfl
theorem gat_no {L : List Go.Em.El} {x : Go.Em.El} {k : Nat} (hk : k < 6) (h : ¬ x.id = ids.getD k 0) : gat L x (k + 1) = gat L x k := by
  unfold gat; rw [hit_no hk (fun e => h e.symm)]
theorem gat_six {l : List Go.Em.El} {i : Nat} (h : i < l.length) : gat (knl (l.take i)) l[i] 6 = knl (l.take (i + 1)) := by
  unfold gat knl
  rw [hit_six, List.take_succ_eq_append_getElem h, List.filter_append]
  cases hk : kn l[i].id
  · rw [List.filter_cons_of_neg (p := fun e : Go.Em.El => kn e.id) (by simp [hk]), List.filter_nil, List.append_nil]; rfl
  · rw [List.filter_cons_of_pos (p := fun e : Go.Em.El => kn e.id) hk, List.filter_nil]; rfl
theorem gat_len (L : List Go.Em.El) (x : Go.Em.El) (k : Nat) : (gat L x k).length ≤ L.length + 1 := by
  unfold gat; split
  · rw [List.length_append]; exact Nat.le_refl _
  · omega
end Go.Bn

namespace Go.Proofs.YtojiffpmmgjpjaaDoor
open Go.RowKit Go.Bn Go.Wr

/-- The IDs in their block, the elements that came in, those that are gathered. -/
structure Kst (w : World) (sa : Option Addr) (l : List Go.Em.El) (v : Value) (L : List Go.Em.El) (wi : World) : Prop where
  ids : ∀ j : Nat, j < 6 → wi.cell? ⟨w.heap.size, j, none⟩ = some (.int .i64 (Go.Bn.ids.getD j 0))
  lies : El_.At wi sa l
  own : wi.ownsRow (w.heap.size + 1) 49 2 v L.length (El_.flat L)
  bel : Below w.heap.size w wi
  lt : w.heap.size < wi.heap.size
theorem Kst.drew {w wi : World} {sa : Option Addr} {l L : List Go.Em.El} {v : Value} (h : Kst w sa l v L wi) : Kst w sa l v L wi.drew :=
  ⟨h.ids, h.lies.drew, owns_below h.own (Below.refl _ _).drew, h.bel.drew, h.lt⟩
theorem Kst.new {w : World} {sa : Option Addr} {l : List Go.Em.El} (h : El_.At w sa l) : Kst w sa l (.slice none 0 0) [] (w.alloc (.cells #[.int .i64 0, .int .i64 3, .int .i64 5, .int .i64 11, .int .i64 12, .int .i64 37] 3)) :=
  have hb : Below w.heap.size w (w.alloc (.cells #[.int .i64 0, .int .i64 3, .int .i64 5, .int .i64 11, .int .i64 12, .int .i64 37] 3)) := (Below.refl _ _).alloc (Nat.le_refl _) _
  ⟨fun j hj => by rcases (show j = 0 ∨ j = 1 ∨ j = 2 ∨ j = 3 ∨ j = 4 ∨ j = 5 by omega) with rfl | rfl | rfl | rfl | rfl | rfl <;> simp [Go.Bn.ids], h.below hb, World.ownsRow_nil _ _ _ _, hb, by simp⟩

/-- What known hands back. -/
def KnPost (l : List Go.Em.El) (w : World) (e : Ending) (w' : World) : Prop :=
  Below w.heap.size w w' ∧ (ord (knl l) = true → ∃ v0 c, e = .returned (.tuple #[.slice v0 (knl l).length c, .bool true]) ∧ El_.At w' v0 (knl l)) ∧ (ord (knl l) = false → ∃ u, e = .returned (.tuple #[u, .bool false]))
theorem knPost_no {l : List Go.Em.El} {w w' : World} {e : Ending} {u : Value} (hb : Below w.heap.size w w') (h : ord (knl l) = false) (he : e = .returned (.tuple #[u, .bool false])) : KnPost l w e w' :=
  ⟨hb, fun h' => by rw [h] at h'; exact absurd h' (by decide), fun _ => ⟨u, he⟩⟩
theorem knPost_yes {l : List Go.Em.El} {w w' : World} {e : Ending} {v0 : Option Addr} {c : Nat} (hb : Below w.heap.size w w') (h : ord (knl l) = true) (he : e = .returned (.tuple #[.slice v0 (knl l).length c, .bool true])) (ha : El_.At w' v0 (knl l)) : KnPost l w e w' :=
  ⟨hb, fun _ => ⟨v0, c, he, ha⟩, fun h' => by rw [h] at h'; exact absurd h' (by decide)⟩

set_option maxRecDepth 100000 in
set_option maxHeartbeats 8000000 in
theorem refKnown14_any (l : List Go.Em.El) (sa : Option Addr) (c : Nat) (w : World) (h : El_.At w sa l) (hl : l.length ≤ 1000) :
    Calls Tryd.prog 32 #[.slice sa l.length c] w fun e w' => KnPost l w e w' := by
  have HI := Lib.hid (info_parts El_.info)
  have K0 := Lib.hid (Kst.new h)
  have HA0 := Lib.hid h
  clear h
  go_enter Tryd.func32, Tryd.ntmps32
  go_wp2_with (go_at_call 17; refine (refIDs14_any _).mono ?_; rintro e w' ⟨rfl, rfl⟩)
  go_loopw [4, 6, 7] (fun v i _ wr => ∃ (k : Nat) (L : List Go.Em.El), k ≤ l.length ∧ i = .int .i64 k ∧ Aside (L = knl (l.take k)) ∧ Kst w sa l v L wr) (fun _ i _ _ => l.length - (intOf i).toNat)
  case atStart => exact ⟨0, [], Nat.zero_le _, rfl, rfl, K0.out⟩
  case round =>
    rename_i wr
    obtain ⟨i, L, hi, rfl, HLi, hst⟩ := hrel
    have HST := Lib.hid hst
    obtain ⟨v0, c0, rfl⟩ := El_.slice_form hst.own
    have hLn : L.length ≤ 1000 := by rw [HLi.out]; have := knl_le l i; omega
    clear hst K0
    by_cases hlt : i < l.length
    · obtain ⟨b, off, hsa, hbl, -, -⟩ := HST.out.lies i hlt
      subst hsa
      have HG6 : Hid (gat L l[i] 6 = knl (l.take (i + 1))) := by rw [HLi.out]; exact gat_six hlt
      have HQ : Hid (∀ wi : World, El_.At wi (some ⟨b, off, none⟩) l → wi.cell? ⟨b, off + i * 2, none⟩ = some (.int .i64 l[i].id) ∧ wi.cell? ⟨b, off + i * 2 + 1, none⟩ = some (.string l[i].s)) := fun wi ha => by
        obtain ⟨b', off', e, -, q0, q1⟩ := ha i hlt
        injection e with e; injection e with e1 e2; subst e1; subst e2
        exact ⟨q0, q1⟩
      have HX : Hid (El_.cs l[i] = [.int .i64 l[i].id, .string l[i].s]) := rfl
      have HLT := Lib.hid hlt
      generalize l[i] = x at *
      obtain ⟨xi, xt⟩ := x
      simp only at HQ HX
      have i0 : (0 : Int) ≤ (i : Int) := by omega
      have i1 : (i : Int) < (l.length : Int) := by omega
      clear HLi hi hlt
      go_wp2
      go_loopw [4, 7] (fun v j wj => ∃ (k : Nat) (u : World), k ≤ 6 ∧ j = .int .i64 k ∧ u = wj ∧ Kst w (some ⟨b, off, none⟩) l v (gat L ⟨xi, xt⟩ k) u) (fun _ j _ => 6 - (intOf j).toNat)
      case atStart => exact ⟨0, _, by omega, rfl, rfl, by rw [gat_zero]; exact HST.out⟩
      case round =>
        obtain ⟨k, wj, hk, rfl, rfl, hst2⟩ := hrel
        have HS2 := Lib.hid hst2
        obtain ⟨v2, c2, rfl⟩ := El_.slice_form hst2.own
        clear hst2 HST
        by_cases h6 : k < 6
        · have HY := Lib.hid (fun h => gat_yes (L := L) (x := ⟨xi, xt⟩) h6 h)
          have HN := Lib.hid (fun h => gat_no (L := L) (x := ⟨xi, xt⟩) h6 h)
          have hgl := gat_len L ⟨xi, xt⟩ k
          obtain ⟨q0, q1⟩ := HQ.out _ HS2.out.lies
          obtain ⟨q0', q1'⟩ := HQ.out _ HS2.out.drew.lies
          have t0 := HS2.out.ids k h6
          have t0' := HS2.out.drew.ids k h6
          have HS3 := Lib.hid HS2.out.drew
          generalize gat L ⟨xi, xt⟩ k = G at *
          generalize Go.Bn.ids.getD k 0 = z at *
          have j0 : (0 : Int) ≤ (k : Int) := by omega
          have j1 : (k : Int) < 6 := by omega
          by_cases hz : xi = z
          · have HR := Lib.hid (HY.out hz)
            have hz' : (xi == z) = true := by simp [hz]
            clear HY HN hz HS2
            go_wp2
            go_region
            go_wp2_with (first
              | (at_builtin; obtain ⟨i0', hi, hz0, hz1, hz2⟩ := HI.out; refine wpList_append_own _ rfl _ _ 32 rfl (w.heap.size + 1) 49 i0' (.agg #[.int .i64 0, .string ⟨#[]⟩]) 2 24 Tryd.underlying32 hi hz0 hz1 hz2 rfl (by decide) _ _ _ rfl (HS3.out.own.alloc _) ⟨wj.heap.size, 0, none⟩ 1 1 [.int .i64 xi, .string xt] rfl rfl ?c1 ?c2 ?c3 ?c4 ?c5 ?_))
            case c1 =>
              intro j u hj
              match j, hj with
              | 0, hj => simp at hj; subst hj; simp [Addr.add]
              | 1, hj => simp at hj; subst hj; simp [Addr.add]
            case c2 => intro u hu; simp at hu; rcases hu with rfl | rfl <;> rfl
            case c3 => unfold maxLen; omega
            case c4 => omega
            case c5 => have := HS3.out.lt; simp at this ⊢; omega
            intro v3 w3 hown3 hgrow hn'
            clear hi hz0 hz1 hz2
            have hb3 : Below (w.heap.size + 1) wj.drew w3 := Below.grown ((Below.refl _ _).alloc (by have := HS3.out.lt; omega) (.cells #[.int .i64 xi, .string xt] 49)) hgrow (by have := HS3.out.lt; simp at this ⊢; omega) (fun j hj => (HS3.out.own.lt j hj).1)
            have R : Kst w (some ⟨b, off, none⟩) l v3 (G ++ [(⟨xi, xt⟩ : Go.Em.El)]) w3 := by
              refine ⟨fun j hj => (hb3.cell (p := ⟨w.heap.size, j, none⟩) (Nat.lt_succ_self _)).trans (HS3.out.ids j hj), HA0.out.below (HS3.out.bel.trans (hb3.mono (Nat.le_succ _))), ?_, HS3.out.bel.trans (hb3.mono (Nat.le_succ _)), Nat.lt_of_lt_of_le HS3.out.lt hb3.size⟩
              rw [El_.flat_snoc, HX.out, List.length_append]
              exact hown3
            have HRR := Lib.hid R
            clear R hown3 hgrow hn' hb3
            go_wp2
            go_roundw
            case rel => exact ⟨k + 1, _, by omega, by go_num, rfl, by rw [HR.out]; exact HRR.out⟩
            case measure => simp [intOf]; omega
          · have HR := Lib.hid (HN.out hz)
            have hz' : (xi == z) = false := by simp [hz]
            clear HY HN hz HS2
            go_wp2
            go_region
            go_wp2
            go_roundw
            case rel => exact ⟨k + 1, _, by omega, by go_num, rfl, by rw [HR.out]; exact HS3.out⟩
            case measure => simp [intOf]; omega
        · obtain rfl : k = 6 := by omega
          go_wp2
          go_roundw
          case rel => exact ⟨i + 1, _, HLT.out, by go_num, HG6.out, HS2.out⟩
          case measure => have := HLT.out; simp [intOf]; omega
    · obtain rfl : i = l.length := by omega
      have HK : Hid (knl l = L) := by show knl l = L; rw [HLi.out, List.take_length]
      have HLA := Lib.hid (El_.at_owns HST.out.own)
      have HOA := Lib.hid (ord_all (l := L))
      have HNO := Lib.hid (fun (e : Ending) (w' : World) (u : Value) (hb : Below w.heap.size w w') (h : ord L = false) (he : e = .returned (.tuple #[u, .bool false])) => knPost_no (l := l) hb (by rw [HK.out]; exact h) he)
      have HYES : Hid (∀ (e : Ending) (w' : World) (v0 : Option Addr) (c : Nat), Below w.heap.size w w' → ord L = true → e = .returned (.tuple #[.slice v0 L.length c, .bool true]) → El_.At w' v0 L → KnPost l w e w') := fun e w' v0 c hb h he ha => by
        refine knPost_yes (v0 := v0) (c := c) hb (by rw [HK.out]; exact h) ?_ ?_
        · rw [HK.out]; exact he
        · rw [HK.out]; exact ha
      clear HLi hi hlt HI HA0 HK
      go_wp2
      go_loopw [8] (fun i wj => ∃ (k : Nat) (u : World), k ≤ L.length ∧ i = .int .i64 k ∧ u = wj ∧ (∀ j (hj : j < L.length), j < k → L[j].id = Go.Bn.ids.getD j 0) ∧ Kst w sa l (.slice v0 L.length c0) L u) (fun i _ => L.length - (intOf i).toNat)
      case atStart => exact ⟨0, _, Nat.zero_le _, rfl, rfl, fun j _ hj => absurd hj (Nat.not_lt_zero j), HST.out⟩
      case round =>
        obtain ⟨k, wj, hk, rfl, rfl, hj, hst2⟩ := hrel
        have HS2 := Lib.hid hst2
        have HJ := Lib.hid hj
        clear hst2 HST HLA hj
        by_cases hlt : k < L.length
        · by_cases h6 : L.length ≤ 6
          · have hk6 : k < 6 := by omega
            obtain ⟨b, off, hsa, -, q0, -⟩ := El_.at_owns HS2.out.own k hlt
            obtain ⟨b', off', hsa', -, q0', -⟩ := El_.at_owns HS2.out.drew.own k hlt
            subst hsa
            injection hsa' with e; injection e with e1 e2
            subst e1; subst e2
            have t0 := HS2.out.ids k hk6
            have t0' := HS2.out.drew.ids k hk6
            have HS3 := Lib.hid HS2.out.drew
            have HX : Hid (¬ L[k].id = Go.Bn.ids.getD k 0 → ord L = false) := fun hne => by
              rw [Bool.eq_false_iff]; exact fun h => hne ((HOA.out.1 h).2 k hlt)
            have HSS : Hid (L[k].id = Go.Bn.ids.getD k 0 → ∀ j (hj : j < L.length), j < k + 1 → L[j].id = Go.Bn.ids.getD j 0) := fun he j hj hjk => by
              by_cases e : j = k
              · subst e; exact he
              · exact HJ.out j hj (by omega)
            have HLT := Lib.hid hlt
            have j0 : (0 : Int) ≤ (k : Int) := by omega
            have j1 : (k : Int) < 6 := by omega
            have j2 : (k : Int) < (L.length : Int) := by omega
            have j3 : (L.length : Int) ≤ 6 := by omega
            generalize L[k].id = xi at *
            generalize Go.Bn.ids.getD k 0 = z at *
            clear HJ
            by_cases hz : xi = z
            · have HQ := Lib.hid (HSS.out hz)
              have hz' : (xi != z) = false := by rw [hz]; simp
              clear hz HSS HX HS2
              go_wp2
              go_region
              go_wp2
              go_roundw
              case rel => exact ⟨k + 1, _, HLT.out, by go_num, rfl, HQ.out, HS3.out⟩
              case measure => have := HLT.out; simp [intOf]; omega
            · have HQ := Lib.hid (HX.out hz)
              have hz' : (xi != z) = true := by simp [hz]
              clear hz HSS HX HS2
              go_wp2
              go_region
              go_wp2
              go_returns
              exact HNO.out _ _ _ HS3.out.bel HQ.out rfl
          · have HQ : Hid (ord L = false) := by
              show ord L = false
              rw [Bool.eq_false_iff]; exact fun h => by have := (HOA.out.1 h).1; omega
            have j2 : (k : Int) < (L.length : Int) := by omega
            have j3 : ¬ (L.length : Int) ≤ 6 := by omega
            have j5 : ((L.length : Int) == 5) = false := by rw [beq_eq_false_iff_ne]; omega
            have j6 : ((L.length : Int) == 6) = false := by rw [beq_eq_false_iff_ne]; omega
            clear HJ
            go_wp2
            go_returns
            exact HNO.out _ _ _ HS2.out.bel HQ.out rfl
        · obtain rfl : k = L.length := by omega
          by_cases h5 : L.length = 5
          · have HQ := Lib.hid (HOA.out.2 ⟨.inl h5, fun j hj => HJ.out j hj hj⟩)
            have j5 : ((L.length : Int) == 5) = true := by rw [h5]; rfl
            clear HJ h5
            go_wp2
            go_returns
            exact HYES.out _ _ _ _ HS2.out.bel HQ.out rfl (El_.at_owns HS2.out.own)
          · have j5 : ((L.length : Int) == 5) = false := by rw [beq_eq_false_iff_ne]; omega
            by_cases h6 : L.length = 6
            · have HQ := Lib.hid (HOA.out.2 ⟨.inr h6, fun j hj => HJ.out j hj hj⟩)
              have j6 : ((L.length : Int) == 6) = true := by rw [h6]; rfl
              clear HJ h5 h6
              go_wp2
              go_returns
              exact HYES.out _ _ _ _ HS2.out.bel HQ.out rfl (El_.at_owns HS2.out.own)
            · have j6 : ((L.length : Int) == 6) = false := by rw [beq_eq_false_iff_ne]; omega
              have HQ : Hid (ord L = false) := by
                show ord L = false
                rw [Bool.eq_false_iff]; exact fun h => by have := (HOA.out.1 h).1; omega
              clear HJ h5 h6
              go_wp2
              go_returns
              exact HNO.out _ _ _ HS2.out.bel HQ.out rfl
end Go.Proofs.YtojiffpmmgjpjaaDoor
