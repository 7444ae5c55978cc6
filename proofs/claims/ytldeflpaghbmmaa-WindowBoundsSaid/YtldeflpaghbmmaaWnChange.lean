/-
  WALKS of package window: change, for any functions; what is done to a packet.
-/
import Derived.Test.YtldeflpaghbmmaaWnFilter
namespace Go.Proofs.Ytldeflpaghbmmaa
open Go.RowKit Go.Wn Go.Sq Go.Wr
attribute [local go_sem ↓ high] Ww_.loadF Ww_.storeF Ww_.v_cells Ww_.v_match
attribute [local go_sem] Ww_.C0 Ww_.C1 Ww_.C2 Ww_.C3 Ww_.loadF_new Ww_.storeF_zero Oper.semAt_some

theorem flat_set3 (b : Bool) (l : List Sn) : ∀ i (h : i < l.length), Sn_.flat (l.set i { l[i] with dn := b }) = (Sn_.flat l).set (i * 5 + 3) (.bool b) := by
  induction l with
  | nil => intro i h; cases h
  | cons s l ih =>
    intro i h
    cases i with
    | zero => rfl
    | succ i =>
      have e : Sn_.flat ((s :: l).set (i + 1) { (s :: l)[i + 1] with dn := b }) = Sn_.cs s ++ Sn_.flat (l.set i { l[i]'(by simpa using h) with dn := b }) := List.flatMap_cons ..
      have e' : Sn_.flat (s :: l) = Sn_.cs s ++ Sn_.flat l := List.flatMap_cons ..
      have hl : (Sn_.cs s).length = 5 := rfl
      rw [e, e', ih i (by simpa using h)]
      rw [List.set_append_right _ _ (by omega), hl, show (i + 1) * 5 + 3 - 5 = i * 5 + 3 by omega]
theorem flat_set2 (b : Int) (l : List Sn) : ∀ i (h : i < l.length), Sn_.flat (l.set i { l[i] with tr := b }) = (Sn_.flat l).set (i * 5 + 2) (.int .i64 b) := by
  induction l with
  | nil => intro i h; cases h
  | cons s l ih =>
    intro i h
    cases i with
    | zero => rfl
    | succ i =>
      have e : Sn_.flat ((s :: l).set (i + 1) { (s :: l)[i + 1] with tr := b }) = Sn_.cs s ++ Sn_.flat (l.set i { l[i]'(by simpa using h) with tr := b }) := List.flatMap_cons ..
      have e' : Sn_.flat (s :: l) = Sn_.cs s ++ Sn_.flat l := List.flatMap_cons ..
      have hl : (Sn_.cs s).length = 5 := rfl
      rw [e, e', ih i (by simpa using h)]
      rw [List.set_append_right _ _ (by omega), hl, show (i + 1) * 5 + 2 - 5 = i * 5 + 2 by omega]

/-- A packet of a row of one's own, its cells. -/
theorem own_cells22 {W : World} {base g n cap : Nat} {l : List Sn} (h : W.ownsRow base 76 5 (.slice (some ⟨g, 0, none⟩) n cap) n (Sn_.flat l)) (hn : n = l.length) {i : Nat} (hi : i < l.length) (j : Nat) (hj : j < 5) : W.cell? ⟨g, i * 5 + j, none⟩ = (Sn_.cs l[i])[j]? := by
  rw [h.cellAt (i * 5 + j) (by omega), Sn_.flat_cell l i hi j hj]

/-- A function that does something to a packet behind a pointer. -/
structure Dox (Q : Sn → Prop) (F : FuncId) (G : Sn → Sn) : Prop where
  go : ∀ (args : Array Value) (w : World), (callFunc F args).run Try.prog w = .ok (.enter F args) w
  call : ∀ (base g n cap : Nat) (l : List Sn) (i : Nat) (hi : i < l.length) (W : World), Q l[i] → n = l.length → W.ownsRow base 76 5 (.slice (some ⟨g, 0, none⟩) n cap) n (Sn_.flat l) →
    Calls Try.prog F #[.pointer (some ⟨g, i * 5, none⟩)] W fun e w' => e = .returned (.tuple #[]) ∧ w'.ownsRow base 76 5 (.slice (some ⟨g, 0, none⟩) n cap) n (Sn_.flat (l.set i (G l[i]))) ∧ W.grownBy w' (some g)

set_option maxHeartbeats 1000000 in
theorem wn_mark_does : Dox (fun _ => True) 54 mk := by
  refine ⟨fun args w => by kernel_rfl, fun base g n cap l i hi W ht hn hO => ?_⟩
  have fr := hO.frozenAt (i * 5 + 3)
  have c3 : W.cell? ⟨g, i * 5 + 3, none⟩ = some (.bool l[i].dn) := own_cells22 hO hn hi 3 (by decide)
  have HS := Lib.hid (hO.stored (i * 5 + 3) (.bool true))
  have HF := Lib.hid (flat_set3 true l i hi)
  rw [← HF.out] at HS
  have HR : Hid (Sn_.flat (l.set i { l[i] with dn := true }) = Sn_.flat (l.set i (mk l[i]))) := rfl
  rw [HR.out] at HS
  generalize Sn_.flat (l.set i (mk l[i])) = X at *
  generalize l[i].dn = dd at *
  clear HF HR hO ht
  go_enter Try.func54, Try.ntmps54
  go_wp2
  go_returns
  exact ⟨rfl, HS.out⟩

set_option maxHeartbeats 2000000 in
theorem wn_count_does : Dox (fun p => 0 ≤ p.tr) 63 bump := by
  refine ⟨fun args w => by kernel_rfl, fun base g n cap l i hi W ht hn hO => ?_⟩
  have fr := hO.frozenAt (i * 5 + 2)
  have c2 : W.cell? ⟨g, i * 5 + 2, none⟩ = some (.int .i64 l[i].tr) := own_cells22 hO hn hi 2 (by decide)
  by_cases hb : l[i].tr < 1073741824
  · have HR : Hid (Sn_.flat (l.set i { l[i] with tr := l[i].tr + 1 }) = Sn_.flat (l.set i (bump l[i]))) := by
      show _ = _
      congr 2
      unfold bump
      rw [if_pos hb]
    have hlo : 0 ≤ l[i].tr := ht
    · have HS := Lib.hid (hO.stored (i * 5 + 2) (.int .i64 (l[i].tr + 1)))
      have HF := Lib.hid (flat_set2 (l[i].tr + 1) l i hi)
      rw [← HF.out, HR.out] at HS
      generalize Sn_.flat (l.set i (bump l[i])) = X at *
      have hw : wrap64 (l[i].tr + 1) = l[i].tr + 1 := IntWalk.wrap64_in _ (by omega)
      generalize l[i].tr = tt at *
      clear HF HR hO hlo ht
      go_enter Try.func63, Try.ntmps63
      go_wp2
      go_returns
      exact ⟨rfl, HS.out⟩
  · have HR : Hid (bump l[i] = l[i]) := by
      show _ = _
      unfold bump
      rw [if_neg hb]
    rw [HR.out, List.set_getElem_self]
    have HO := Lib.hid hO
    generalize l[i].tr = tt at *
    clear hO HR ht
    go_enter Try.func63, Try.ntmps63
    go_wp2
    go_returns
    exact ⟨rfl, by have h := HO.out; rw [hn] at h; exact h, ⟨rfl, rfl, rfl, Nat.le_refl _, fun _ _ _ => rfl⟩⟩

/-- What is changed so far. -/
def chgTo (f : Sn → Bool) (g : Sn → Sn) (l : List Sn) (i : Nat) : List Sn := chg f g (l.take i) ++ l.drop i
theorem chgTo_len (f : Sn → Bool) (g : Sn → Sn) (l : List Sn) (i : Nat) : (chgTo f g l i).length = l.length := by
  unfold chgTo chg
  rw [List.length_append, List.length_map, List.length_take, List.length_drop]; omega
theorem chgTo_get (f : Sn → Bool) (g : Sn → Sn) (l : List Sn) (i : Nat) (h : i < l.length) : (chgTo f g l i)[i]'(by rw [chgTo_len]; exact h) = l[i] := by
  have hl : (chg f g (l.take i)).length = i := by unfold chg; rw [List.length_map, List.length_take]; omega
  have : (chgTo f g l i)[i]? = some l[i] := by
    unfold chgTo
    rw [List.getElem?_append_right (by omega), hl, Nat.sub_self, List.getElem?_drop, Nat.add_zero]
    exact List.getElem?_eq_getElem h
  exact Option.some.inj ((List.getElem?_eq_getElem _).symm.trans this)
theorem chgTo_succ (f : Sn → Bool) (g : Sn → Sn) (l : List Sn) (i : Nat) (h : i < l.length) : chgTo f g l (i + 1) = (chgTo f g l i).set i (if f l[i] then g l[i] else l[i]) := by
  have hl : (chg f g (l.take i)).length = i := by unfold chg; rw [List.length_map, List.length_take]; omega
  unfold chgTo
  rw [List.set_append_right _ _ (by omega), hl, Nat.sub_self, List.drop_eq_getElem_cons h]
  show _ = _ ++ (_ :: _)
  rw [List.take_succ_eq_append_getElem h]
  unfold chg
  rw [List.map_append, List.append_assoc]
  rfl
theorem chgTo_all (f : Sn → Bool) (g : Sn → Sn) (l : List Sn) : chgTo f g l l.length = chg f g l := by unfold chgTo; rw [List.take_length, List.drop_length, List.append_nil]

set_option maxRecDepth 100000 in
set_option maxHeartbeats 4000000 in
theorem wn_change_any (S : World → Prop) (F : FuncId) (caps : Array Value) (P : Sn → Bool) (T : Tells S F caps P) (Q : Sn → Prop) (F2 : FuncId) (G : Sn → Sn) (D : Dox Q F2 G) (sa : Option Addr) (l : List Sn) (c : Nat) (w : World) (hk : ∀ W, Below w.heap.size w W → S W) (hS : Sn_.Sl w sa l c) (hl : l.length ≤ 1000) (hQ : ∀ p ∈ l, Q p) :
    Calls Try.prog 53 #[.slice sa l.length c, .func (.func F) #[] caps, .func (.func F2) #[] #[]] w fun e w' => ∃ v', e = .returned v' ∧ OwnSn w w' v' (chg P G l) := by
  have HL := Lib.hid hl
  have CK := Lib.hid T.call
  have CD := Lib.hid D.call
  have eg := T.go
  have eg2 := D.go
  have HK := Lib.hid hk
  have CC := Lib.hid (clone22_any sa l c w hS hl)
  have HQ := Lib.hid hQ
  clear hS hl T D hk hQ
  generalize hn : l.length = n at *
  have HN := Lib.hid hn
  clear hn
  go_enter Try.func53, Try.ntmps53
  go_wp2_with fail
  refine CC.out.mono ?_
  rintro e w1 ⟨v', rfl, hown, hb1⟩
  rw [HN.out] at hown
  obtain ⟨v0, c', rfl⟩ := Sn_.slice_form hown
  have HB1 := Lib.hid hb1
  have HO1 := Lib.hid hown
  have HV : v0 = none ∧ n = 0 ∨ ∃ g, v0 = some ⟨g, 0, none⟩ ∧ w.heap.size ≤ g := by
    obtain ⟨-, ⟨h1, h2⟩ | ⟨g, cap', cur, h1, h2, -⟩⟩ := hown
    · left
      injection h1 with e1 e2 e3
      exact ⟨e1, h2⟩
    · right
      injection h1 with e1 e2 e3
      exact ⟨g, e1, h2⟩
  clear hown hb1
  rcases HV with ⟨rfl, h0⟩ | ⟨g, rfl, hg⟩
  · go_wp2
    go_loopw [12] (fun z wr => z = .int .i64 0 ∧ wr = w1) (fun _ _ => 0)
    case atStart => exact ⟨rfl, rfl⟩
    case round =>
      rename World => wr
      obtain ⟨rfl, rfl⟩ := hrel
      have hl0 : l = [] := List.eq_nil_of_length_eq_zero (HN.out.trans h0)
      go_wp2
      go_returns
      refine ⟨_, rfl, ?_⟩
      have h := HO1.out
      rw [h0] at h
      rw [hl0] at h ⊢
      exact ⟨h, HB1.out⟩
  · have HG := Lib.hid hg
    go_wp2
    go_loopw [12, 7] (fun z _ wr => ∃ i : Nat, z = .int .i64 i ∧ i ≤ n ∧ Hid (wr.ownsRow w.heap.size 76 5 (.slice (some ⟨g, 0, none⟩) n c') n (Sn_.flat (chgTo P G l i))) ∧ Hid (Below w.heap.size w wr)) (fun z _ _ => n - (intOf z).toNat)
    case atStart =>
      refine ⟨0, rfl, Nat.zero_le _, ?_, HB1⟩
      exact HO1.out
    case round =>
      rename World => wr
      obtain ⟨i, rfl, hi, HO, HB⟩ := hrel
      have hnc : n ≤ c' := by
        obtain ⟨-, ⟨h1, h2⟩ | ⟨g, cap', cur, h1, -, -, h2, -⟩⟩ := HO.out
        · cases h1
        · injection h1 with e1 e2 e3; omega
      by_cases hlt : i < n
      · have hil : i < l.length := by have := HN.out; omega
        have hic : i < (chgTo P G l i).length := by rw [chgTo_len]; exact hil
        have hnl : n = (chgTo P G l i).length := by rw [chgTo_len]; exact HN.out.symm
        have hge := chgTo_get P G l i hil
        have HSU := Lib.hid (chgTo_succ P G l i hil)
        have c0 := own_cells22 HO.out hnl hic 0 (by decide)
        have c1 := own_cells22 HO.out hnl hic 1 (by decide)
        have c2 := own_cells22 HO.out hnl hic 2 (by decide)
        have c3 := own_cells22 HO.out hnl hic 3 (by decide)
        have c4 := own_cells22 HO.out hnl hic 4 (by decide)
        rw [hge] at c0 c1 c2 c3 c4
        have CH := Lib.hid (CK.out l[i] wr (HK.out wr HB.out))
        have CDi := Lib.hid (fun W h => CD.out w.heap.size g n c' (chgTo P G l i) i hic W (by rw [hge]; exact HQ.out _ (List.getElem_mem hil)) hnl h)
        rw [hge] at CDi
        have HSL : Hid ((chgTo P G l i).set i l[i] = chgTo P G l i) := by
          show _ = _
          have := List.set_getElem_self hic
          rw [hge] at this
          exact this
        generalize l[i] = h at *
        have c0' : wr.cell? ⟨g, i * 5, none⟩ = some (.int .i64 h.id) := c0
        have c1' : wr.cell? ⟨g, i * 5 + 1, none⟩ = some (.int .i64 h.q) := c1
        have c2' : wr.cell? ⟨g, i * 5 + 2, none⟩ = some (.int .i64 h.tr) := c2
        have c3' : wr.cell? ⟨g, i * 5 + 3, none⟩ = some (.bool h.dn) := c3
        have c4' : wr.cell? ⟨g, i * 5 + 4, none⟩ = some (.string h.da) := c4
        have hi1 : i ≤ 1000 := by have := HL.out; omega
        clear c0 c1 c2 c3 c4 hge hic hnl
        have HLT := Lib.hid hlt
        generalize hP : P h = p at *
        cases p
        · go_wp2_with (first
            | (go_at_fn F; refine CH.out.mono ?_; rintro e w2 ⟨rfl, hw2⟩; have HB2 := Lib.hid (HB.out.trans (hw2.mono HB.out.size)); have HO2 := Lib.hid (owns_below22 HO.out hw2); clear hw2))
          go_roundw
          case rel =>
            refine ⟨i + 1, by go_num, HLT.out, ?_, HB2⟩
            show World.ownsRow _ _ _ _ _ _ _
            rw [HSU.out, if_neg (by simp), HSL.out]
            exact HO2.out
          case measure => have := HLT.out; simp [intOf]; omega
        · go_wp2_with (first
            | (go_at_fn F; refine CH.out.mono ?_; rintro e w2 ⟨rfl, hw2⟩; have HB2 := Lib.hid (HB.out.trans (hw2.mono HB.out.size)); have HO2 := Lib.hid (owns_below22 HO.out hw2); clear hw2)
            | (go_at_fn F2; refine (CDi.out _ HO2.out).mono ?_; rintro e w3 ⟨rfl, ho3, hg3⟩; have HO3 := Lib.hid ho3; have HB3 := Lib.hid (HB2.out.grown hg3 HB2.out.size (fun k hk => by have := HG.out; injection hk with hk; omega)); clear ho3 hg3))
          go_roundw
          case rel =>
            refine ⟨i + 1, by go_num, HLT.out, ?_, HB3⟩
            show World.ownsRow _ _ _ _ _ _ _
            rw [HSU.out, if_pos (by trivial)]
            exact HO3.out
          case measure => have := HLT.out; simp [intOf]; omega
      · obtain rfl : i = n := by omega
        have hln : (chg P G l).length = i := by unfold chg; rw [List.length_map]; exact HN.out
        have h2 : chgTo P G l i = chg P G l := by rw [← HN.out]; exact chgTo_all P G l
        rw [h2] at HO
        go_wp2
        go_returns
        exact ⟨_, rfl, by unfold OwnSn; rw [hln]; exact ⟨HO.out, HB.out⟩⟩
end Go.Proofs.Ytldeflpaghbmmaa
