/-
  WALKS of the reference of layer 22: Acked (written by a generator: one tail for each branch).
-/
import Derived.Test.YtldeflpaghbmmaaWnRef6
namespace Go.Proofs.Ytldeflpaghbmmaa
open Go.RowKit Go.Wn Go.Sq Go.Wr
attribute [local go_sem ↓ high] Wv_.loadF Wv_.storeF Wv_.v_cells Wv_.v_match
attribute [local go_sem] Wv_.C0 Wv_.C1 Wv_.C2 Wv_.C3 Wv_.loadF_new Wv_.storeF_zero Oper.semAt_some

/-- A row of one's own lies apart from one of another type. -/
theorem rows_ne22 {w : World} {b1 b2 s1 s2 n m : Nat} {e1 e2 : TypeId} {v u : Value} {xs ys : List Value} (h1 : w.ownsRow b1 e1 s1 v n xs) (h2 : w.ownsRow b2 e2 s2 u m ys) (he : e1 ≠ e2) : ∀ g, v.ownBlock = some g → u.ownBlock ≠ some g := by
  intro g hv hu
  obtain ⟨-, ⟨rfl, -⟩ | ⟨g1, c1, cur1, rfl, -, q1, -⟩⟩ := h1
  · cases hv
  · obtain ⟨-, ⟨rfl, -⟩ | ⟨g2, c2, cur2, rfl, -, q2, -⟩⟩ := h2
    · cases hu
    · cases hv
      cases hu
      rw [q1] at q2
      injection q2 with q2
      injection q2 with _ q2 _
      exact he q2
theorem owns_grown22 {w w' : World} {base size n : Nat} {e : TypeId} {u : Value} {xs : List Value} {o : Option Nat} (h : w.ownsRow base e size u n xs) (hg : w.grownBy w' o) (hne : ∀ g, o = some g → u.ownBlock ≠ some g) : w'.ownsRow base e size u n xs := by
  obtain ⟨h0, h1 | ⟨g, cap, cur, rfl, h2, h3, h4⟩⟩ := h
  · exact ⟨h0, .inl h1⟩
  · exact ⟨h0, .inr ⟨g, cap, cur, rfl, h2, (hg.block g (Array.getElem?_eq_some_iff.1 h3).1 (fun e => hne g e.symm rfl)).trans h3, h4⟩⟩
theorem sent_int22 : (76 : TypeId) ≠ 3 := by decide
/-- Where the reference's Acked and Missed stand: the state, the packets and the identifiers so far, each in a row of its own. -/
structure Ra (w : World) (x : Wn) (v u : Value) (L : List Sn) (I : List Int) (wi : World) : Prop where
  two : TwoV w x zw wi
  o8 : wi.ownsRow (w.heap.size + 2) 76 5 v L.length (Sn_.flat L)
  o9 : wi.ownsRow (w.heap.size + 2) 3 1 u I.length (Is_.vs I)
theorem Ra.keep {w : World} {x : Wn} {v u : Value} {L : List Sn} {I : List Int} {wi wj : World} (h : Ra w x v u L I wi) (hb : Below wi.heap.size wi wj) : Ra w x v u L I wj :=
  ⟨h.two.below hb, owns_below22 h.o8 hb, owns_below22 h.o9 hb⟩
theorem Ra.alloc {w : World} {x : Wn} {v u : Value} {L : List Sn} {I : List Int} {wi : World} (h : Ra w x v u L I wi) (o : Obj) : Ra w x v u L I (wi.alloc o) := h.keep ((Below.refl _ _).alloc (Nat.le_refl _) _)
theorem TwoV.grow {w wi wj : World} {x y : Wn} {o : Option Nat} (h : TwoV w x y wi) (hg : wi.grownBy wj o) (ho : ∀ k, o = some k → w.heap.size + 2 ≤ k) : TwoV w x y wj :=
  h.up ((Below.refl (w.heap.size + 2) wi).grown hg h.size ho)
theorem Ra.app8 {w : World} {x : Wn} {v u v4 : Value} {L L4 : List Sn} {I : List Int} {wi w4 : World} (h : Ra w x v u L I wi) (ho : w4.ownsRow (w.heap.size + 2) 76 5 v4 L4.length (Sn_.flat L4)) (hg : wi.grownBy w4 v.ownBlock) : Ra w x v4 u L4 I w4 :=
  ⟨h.two.grow hg (fun k hk => (h.o8.lt k hk).1), ho, owns_grown22 h.o9 hg (rows_ne22 h.o8 h.o9 sent_int22)⟩
theorem Ra.app9 {w : World} {x : Wn} {v u u4 : Value} {L : List Sn} {I I4 : List Int} {wi w4 : World} (h : Ra w x v u L I wi) (ho : w4.ownsRow (w.heap.size + 2) 3 1 u4 I4.length (Is_.vs I4)) (hg : wi.grownBy w4 u.ownBlock) : Ra w x v u4 L I4 w4 :=
  ⟨h.two.grow hg (fun k hk => (h.o9.lt k hk).1), owns_grown22 h.o8 hg (rows_ne22 h.o9 h.o8 (Ne.symm sent_int22)), ho⟩
theorem box_grown22 {w w' : World} {g : Nat} {p : Sn} {o : Option Nat} (h : Sn_.Box w g p) (hg : w.grownBy w' o) (hne : o ≠ some g) : Sn_.Box w' g p := (hg.block g h.lt (fun e => hne e.symm)).trans h
theorem box_set3 {w : World} {g : Nat} {p : Sn} (h : Sn_.Box w g p) (b : Bool) : Sn_.Box (w.setCell ⟨g, 3, none⟩ (.bool b)) g { p with dn := b } := by
  unfold Sn_.Box at *; simp [World.setCell, Array.getElem?_modify, h]
theorem box_set2 {w : World} {g : Nat} {p : Sn} (h : Sn_.Box w g p) (b : Int) : Sn_.Box (w.setCell ⟨g, 2, none⟩ (.int .i64 b)) g { p with tr := b } := by
  unfold Sn_.Box at *; simp [World.setCell, Array.getElem?_modify, h]
theorem chg_take {f : Sn → Bool} {g : Sn → Sn} {l : List Sn} {i : Nat} (h : i < l.length) : chg f g (l.take (i + 1)) = chg f g (l.take i) ++ [if f l[i] then g l[i] else l[i]] := by
  unfold chg; rw [List.take_succ_eq_append_getElem h, List.map_append]; rfl
theorem chg_len (f : Sn → Bool) (g : Sn → Sn) (l : List Sn) : (chg f g l).length = l.length := by unfold chg; rw [List.length_map]
theorem take_len22 (l : List Sn) (i : Nat) : (l.take i).length ≤ l.length := by rw [List.length_take]; omega
theorem ids_flt (f : Sn → Bool) (l : List Sn) : (ids (l.filter f)).length ≤ l.length := by unfold ids; rw [List.length_map]; exact List.length_filter_le _ _
theorem ids_yes {f : Sn → Bool} {l : List Sn} {i : Nat} (h : i < l.length) (hp : f l[i] = true) : ids ((l.take (i + 1)).filter f) = ids ((l.take i).filter f) ++ [l[i].id] := by
  unfold ids; rw [filter_take h, hp, List.map_append]; rfl
theorem ids_no {f : Sn → Bool} {l : List Sn} {i : Nat} (h : i < l.length) (hp : f l[i] = false) : ids ((l.take (i + 1)).filter f) = ids ((l.take i).filter f) := by
  unfold ids; rw [filter_take h, hp]; simp
/-- No bit beyond the 63rd. -/
theorem bt_big {m : Nat} {d : Int} (hm : m < 18446744073709551616) (h : ¬ d < 64) : bt m d = false := by
  unfold bt
  exact Nat.testBit_lt_two_pow (Nat.lt_of_lt_of_le hm (by
    have : 2 ^ 64 ≤ 2 ^ d.toNat := Nat.pow_le_pow_right (by decide) (by omega)
    exact this))

set_option maxRecDepth 100000 in
set_option maxHeartbeats 8000000 in
theorem r22_acked_any (x : Wn) (s : St) (st : Int) (m : Nat) (hm : m < 18446744073709551616) (w : World) (hL : Lies w x s) (hl : s.l.length ≤ 1000) :
    Calls Try.prog 28 #[Wv_.v x, .int .i64 st, .int .u64 m] w fun e w' => StIdsV (acked s st m) w e w' := by
  obtain ⟨w1, hw1⟩ : ∃ w1, w.alloc (.cells (Wv_.C x) 24) = w1 := ⟨_, rfl⟩
  obtain ⟨w2, hw2⟩ : ∃ w2, w1.alloc (.cells (Wv_.C zw) 24) = w2 := ⟨_, rfl⟩
  have hw2' : w1.alloc (.cells #[.int .i64 0, .int .i64 0, .slice none 0 0, .bool false] 24) = w2 := hw2
  have z1 : w1.heap.size = w.heap.size + 1 := by rw [← hw1]; simp
  have z2 : w2.heap.size = w.heap.size + 2 := by rw [← hw2]; simp [z1]
  obtain ⟨w3, hw3⟩ : ∃ w3, w2.alloc (.cells #[] 76) = w3 := ⟨_, rfl⟩
  have z3 : w3.heap.size = w.heap.size + 3 := by rw [← hw3]; simp [z2]
  obtain ⟨w4, hw4⟩ : ∃ w4, w3.alloc (.cells #[] 3) = w4 := ⟨_, rfl⟩
  have T2 := TwoV.new hw1 hw2
  have b3 : Below w2.heap.size w2 w3 := hw3 ▸ (Below.refl _ _).alloc (Nat.le_refl _) _
  have b4 : Below w3.heap.size w3 w4 := hw4 ▸ (Below.refl _ _).alloc (Nat.le_refl _) _
  have O3 : w3.ownsRow (w.heap.size + 2) 76 5 (.slice (some ⟨w.heap.size + 2, 0, none⟩) 0 0) 0 (Sn_.flat []) := by
    have h := Sn_.owns_lit w2 [] (base := w.heap.size + 2) (by omega) (Nat.zero_le _)
    rw [z2] at h
    rw [← hw3]
    exact h
  have O4 : w4.ownsRow (w.heap.size + 2) 3 1 (.slice (some ⟨w.heap.size + 3, 0, none⟩) 0 0) 0 (Is_.vs []) := by
    have h := Is_.owns_lit w3 [] (base := w.heap.size + 2) (by omega) (Nat.zero_le _)
    rw [z3] at h
    rw [← hw4]
    exact h
  have R4 : Hid (Ra w x (.slice (some ⟨w.heap.size + 2, 0, none⟩) 0 0) (.slice (some ⟨w.heap.size + 3, 0, none⟩) 0 0) [] [] w4) := ⟨(T2.below b3).below b4, owns_below22 O3 b4, O4⟩
  have e1 := T2.bx.all
  have HI8 := Lib.hid (info_parts Sn_.info)
  have HI9 := Lib.hid (info_parts Is_.info)
  have HL := Lib.hid hL
  have HLN := Lib.hid hl
  have HMM := Lib.hid hm
  obtain ⟨n, hn1⟩ : ∃ n, s.l.length = n := ⟨_, rfl⟩
  have hxn : x.n = n := hL.n.trans hn1
  have HN := Lib.hid hn1
  have CD := Lib.hid (fun (q : Int) W => r22_dist_any st q W)
  have CB := Lib.hid (fun (d : Int) W (h0 : 0 ≤ d) (h1 : d < 64) => r22_bit_any m d W hm h0 h1)
  have HD : Hid (acked s st m = ({ s with l := trimL (chg (ak st m) mk (s.l.take n)) }, ids ((s.l.take n).filter (ak st m)))) := by show _ = _; rw [← hn1, List.take_length]; rfl
  clear T2 b3 b4 O3 O4 hL hl hn1 hw2 hm
  go_enter Try.func28, Try.ntmps28
  go_wp2
  clear e1
  go_loopw [8, 9, 10] (fun v u z wr => ∃ i : Nat, z = .int .i64 i ∧ i ≤ n ∧ Hid (∃ sa c sb cb, v = .slice sa (chg (ak st m) mk (s.l.take i)).length c ∧ u = .slice sb (ids ((s.l.take i).filter (ak st m))).length cb) ∧ Hid (Ra w x v u (chg (ak st m) mk (s.l.take i)) (ids ((s.l.take i).filter (ak st m))) wr)) (fun _ _ z _ => n - (intOf z).toNat)
  case atStart => exact ⟨0, rfl, Nat.zero_le _, ⟨_, _, _, _, rfl, rfl⟩, R4⟩
  case round =>
    rename World => wr
    obtain ⟨i, rfl, hi, HV, HR⟩ := hrel
    obtain ⟨sv, cv, su, cu, rfl, rfl⟩ := HV.out
    have e1 := HR.out.two.bx.all
    have hi1 : i ≤ 1000 := by have := HLN.out; have := HN.out; omega
    by_cases hlt : i < n
    · have hil : i < s.l.length := by have := HN.out; omega
      obtain ⟨b, off, hsa, hbl, k0, k1, k2, k3, k4⟩ := HL.out.sl.lies i hil
      have c0 := (HR.out.two.bel.cell hbl).trans k0
      have c1 := (HR.out.two.bel.cell hbl).trans k1
      have c2 := (HR.out.two.bel.cell hbl).trans k2
      have c3 := (HR.out.two.bel.cell hbl).trans k3
      have c4 := (HR.out.two.bel.cell hbl).trans k4
      have hle : n ≤ x.c := by have := HL.out.sl.le; have := HN.out; omega
      have HY := Lib.hid (chg_take (f := ak st m) (g := mk) hil)
      have HIY := Lib.hid (ids_yes (f := ak st m) hil)
      have HIN := Lib.hid (ids_no (f := ak st m) hil)
      have HP8 : Hid ((chg (ak st m) mk (s.l.take i)).length ≤ 1000) := Nat.le_trans (by rw [chg_len]; exact take_len22 _ _) HLN.out
      have HP9 : Hid ((ids ((s.l.take i).filter (ak st m))).length ≤ 1000) := Nat.le_trans (ids_flt _ _) (Nat.le_trans (take_len22 _ _) HLN.out)
      have HAK : Hid (ak st m s.l[i] = (!s.l[i].dn && bt m (dist st s.l[i].q))) := rfl
      have HDI := Lib.hid (dist_in22 st s.l[i].q)
      have CDi := Lib.hid (CD.out s.l[i].q)
      have CBi := Lib.hid (CB.out (dist st s.l[i].q))
      have HBB := Lib.hid (fun (hh : ¬ dist st (s.l[i]'hil).q < 64) => bt_big HMM.out hh)
      have HLT := Lib.hid hlt
      have hi0 : (0 : Int) ≤ (i : Int) := by omega
      have hi2 : (i : Int) < (n : Int) := by omega
      generalize s.l[i] = h at *
      generalize dist st h.q = D at *
      generalize bt m D = BT at *
      generalize chg (ak st m) mk (s.l.take i) = L at *
      generalize ids ((s.l.take i).filter (ak st m)) = I at *
      obtain ⟨w5, hw5⟩ : ∃ w5, wr.alloc (.cells #[.int .i64 h.id, .int .i64 h.q, .int .i64 h.tr, .bool h.dn, .string h.da] 76) = w5 := ⟨_, rfl⟩
      have X5 := (show Sn_.Box w5 wr.heap.size h from hw5 ▸ Sn_.Box.new wr h rfl)
      have HX5 := Lib.hid X5
      have l5 := X5.load
      have e5 := X5.cells
      have b5 : Below wr.heap.size wr w5 := hw5 ▸ (Below.refl _ _).alloc (Nat.le_refl _) _
      have R5 := Lib.hid (HR.out.keep b5)
      have HM8 : Hid (L.length + 1 ≤ maxLen ∧ (L.length + 1) * 48 ≤ 140737488355328) := by
        have := HP8.out
        refine ⟨?_, by omega⟩
        unfold maxLen; omega
      have HM9 : Hid (I.length + 1 ≤ maxLen ∧ (I.length + 1) * 8 ≤ 140737488355328) := by
        have := HP9.out
        refine ⟨?_, by omega⟩
        unfold maxLen; omega
      have HZ := Lib.hid HR.out.two.size
      have ZR : Hid (wr.heap.size < w5.heap.size) := X5.lt
      clear k0 k1 k2 k3 k4 hbl hil X5
      by_cases hd : h.dn = true
      · have hdd := hd
        have HA := Lib.hid (show ak st m h = false by rw [HAK.out, hdd]; rfl)
        have HYE := Lib.hid (show chg (ak st m) mk (s.l.take (i + 1)) = L ++ [h] by rw [HY.out, if_neg (by rw [HA.out]; simp)])
        have HIE := Lib.hid (HIN.out HA.out)
        have HCS : Hid (Sn_.cs h = [.int .i64 h.id, .int .i64 h.q, .int .i64 h.tr, .bool true, .string h.da]) := by unfold Sn_.cs; rw [hd]; exact rfl
        rw [hd] at c3 l5 e5 hw5
        clear HY HIY HIN HAK HA hd
        go_wp2_with (first
          | (go_at_call 37; refine (CDi.out _).mono ?_; rintro e w' ⟨rfl, rfl⟩)
          | (at_builtin; obtain ⟨i0, hi0', hz0, hz1, hz2⟩ := HI8.out; refine wpList_append_own _ rfl _ _ 22 rfl (w.heap.size + 2) 76 i0 (.agg #[.int .i64 0, .int .i64 0, .int .i64 0, .bool false, .string ⟨#[]⟩]) 5 48 Try.underlying22 hi0' hz0 hz1 hz2 rfl (by decide) _ _ _ rfl (R5.out.alloc _).o8 ⟨w5.heap.size, 0, none⟩ 1 1 (Sn_.cs h) rfl rfl ?c1 (Sn_.flat_one _) HM8.out.1 HM8.out.2 ?c5 ?_))
        case c1 =>
          rw [HCS.out]
          intro j x hj
          match j, hj with
          | 0, hj => simp at hj; subst hj; simp [Addr.add]
          | 1, hj => simp at hj; subst hj; simp [Addr.add]
          | 2, hj => simp at hj; subst hj; simp [Addr.add]
          | 3, hj => simp at hj; subst hj; simp [Addr.add]
          | 4, hj => simp at hj; subst hj; simp [Addr.add]
        case c5 => have := R5.out.two.size; simp; omega
        intro v8 w8 hown8 hgrow hn'
        clear hi0' hz0 hz1 hz2
        obtain ⟨sv8, cv8, rfl⟩ := Sn_.slice_form hown8
        have R8 : Hid (Ra w x (.slice sv8 (L.length + 1) cv8) (.slice su I.length cu) (L ++ [h]) I w8) := by
          refine (R5.out.alloc _).app8 ?_ hgrow
          rw [Sn_.flat_snoc, List.length_append]
          exact hown8
        clear hown8 hgrow hn'
        go_wp2
        go_roundw
        case rel => exact ⟨i + 1, by go_num, HLT.out, by rw [HYE.out, HIE.out, List.length_append]; exact ⟨sv8, cv8, _, _, rfl, by first | rfl | (rw [List.length_append]; rfl)⟩, by rw [HYE.out, HIE.out]; exact R8⟩
        case measure => have := HLT.out; simp [intOf]; omega
      · have hd : h.dn = false := by simpa using hd
        by_cases h64 : D < 64
        · have HD64 := Lib.hid h64
          cases BT
          · have hdd := hd
            have HA := Lib.hid (show ak st m h = false by rw [HAK.out, hdd]; rfl)
            have HYE := Lib.hid (show chg (ak st m) mk (s.l.take (i + 1)) = L ++ [h] by rw [HY.out, if_neg (by rw [HA.out]; simp)])
            have HIE := Lib.hid (HIN.out HA.out)
            have HCS : Hid (Sn_.cs h = [.int .i64 h.id, .int .i64 h.q, .int .i64 h.tr, .bool false, .string h.da]) := by unfold Sn_.cs; rw [hd]; exact rfl
            rw [hd] at c3 l5 e5 hw5
            clear HY HIY HIN HAK HA hd
            go_wp2_with (first
              | (go_at_call 37; refine (CDi.out _).mono ?_; rintro e w' ⟨rfl, rfl⟩)
              | (go_at_call 56; refine (CBi.out _ HDI.out.1 HD64.out).mono ?_; rintro e w' ⟨rfl, rfl⟩)
              | (at_builtin; obtain ⟨i0, hi0', hz0, hz1, hz2⟩ := HI8.out; refine wpList_append_own _ rfl _ _ 22 rfl (w.heap.size + 2) 76 i0 (.agg #[.int .i64 0, .int .i64 0, .int .i64 0, .bool false, .string ⟨#[]⟩]) 5 48 Try.underlying22 hi0' hz0 hz1 hz2 rfl (by decide) _ _ _ rfl (R5.out.alloc _).o8 ⟨w5.heap.size, 0, none⟩ 1 1 (Sn_.cs h) rfl rfl ?c1 (Sn_.flat_one _) HM8.out.1 HM8.out.2 ?c5 ?_))
            case c1 =>
              rw [HCS.out]
              intro j x hj
              match j, hj with
              | 0, hj => simp at hj; subst hj; simp [Addr.add]
              | 1, hj => simp at hj; subst hj; simp [Addr.add]
              | 2, hj => simp at hj; subst hj; simp [Addr.add]
              | 3, hj => simp at hj; subst hj; simp [Addr.add]
              | 4, hj => simp at hj; subst hj; simp [Addr.add]
            case c5 => have := R5.out.two.size; simp; omega
            intro v8 w8 hown8 hgrow hn'
            clear hi0' hz0 hz1 hz2
            obtain ⟨sv8, cv8, rfl⟩ := Sn_.slice_form hown8
            have R8 : Hid (Ra w x (.slice sv8 (L.length + 1) cv8) (.slice su I.length cu) (L ++ [h]) I w8) := by
              refine (R5.out.alloc _).app8 ?_ hgrow
              rw [Sn_.flat_snoc, List.length_append]
              exact hown8
            clear hown8 hgrow hn'
            go_wp2
            go_roundw
            case rel => exact ⟨i + 1, by go_num, HLT.out, by rw [HYE.out, HIE.out, List.length_append]; exact ⟨sv8, cv8, _, _, rfl, by first | rfl | (rw [List.length_append]; rfl)⟩, by rw [HYE.out, HIE.out]; exact R8⟩
            case measure => have := HLT.out; simp [intOf]; omega
          · have HA := Lib.hid (show ak st m h = true by rw [HAK.out, hd]; rfl)
            have HYE := Lib.hid (show chg (ak st m) mk (s.l.take (i + 1)) = L ++ [mk h] by rw [HY.out, if_pos HA.out])
            have HIE := Lib.hid (HIY.out HA.out)
            have HCS : Hid (Sn_.cs (mk h) = [.int .i64 h.id, .int .i64 h.q, .int .i64 h.tr, .bool true, .string h.da]) := rfl
            have f5 := HX5.out.frozen
            obtain ⟨w6, hw6⟩ : ∃ w6, w5.setCell ⟨wr.heap.size, 3, none⟩ (.bool true) = w6 := ⟨_, rfl⟩
            have X6 : Hid (Sn_.Box w6 wr.heap.size (mk h)) := hw6 ▸ box_set3 HX5.out true
            have e6 : (w6.cell? ⟨wr.heap.size, 0, none⟩ = some (.int .i64 h.id) ∧ w6.cell? ⟨wr.heap.size, 1, none⟩ = some (.int .i64 h.q) ∧ w6.cell? ⟨wr.heap.size, 2, none⟩ = some (.int .i64 h.tr) ∧ w6.cell? ⟨wr.heap.size, 3, none⟩ = some (.bool true) ∧ w6.cell? ⟨wr.heap.size, 4, none⟩ = some (.string h.da)) := X6.out.cells
            have b6 : Below wr.heap.size wr w6 := hw6 ▸ b5.setCell (Nat.le_refl _) _
            have R6 := Lib.hid (HR.out.keep b6)
            have ZR6 : Hid (wr.heap.size < w6.heap.size) := X6.out.lt
            have HSU : Hid (∀ k, (Value.slice su I.length cu).ownBlock = some k → k < wr.heap.size) := fun k hk => (HR.out.o9.lt k hk).2
            rw [hd] at c3 l5 e5 hw5
            clear HY HIY HIN HAK HA hd b6
            go_wp2_with (first
              | (go_at_call 37; refine (CDi.out _).mono ?_; rintro e w' ⟨rfl, rfl⟩)
              | (go_at_call 56; refine (CBi.out _ HDI.out.1 HD64.out).mono ?_; rintro e w' ⟨rfl, rfl⟩)
              | (at_builtin; obtain ⟨i0, hi0', hz0, hz1, hz2⟩ := HI9.out; refine wpList_append_own _ rfl _ _ 48 rfl (w.heap.size + 2) 3 i0 (.int .i64 0) 1 8 Try.underlying48 hi0' hz0 hz1 hz2 rfl (by decide) _ _ _ rfl (R6.out.alloc _).o9 ⟨w6.heap.size, 0, none⟩ 1 1 [.int .i64 h.id] rfl rfl ?d1 ?d2 HM9.out.1 HM9.out.2 ?d5 ?_))
            case d1 =>
              intro j x hj
              match j, hj with
              | 0, hj => simp at hj; subst hj; simp [Addr.add]
            case d2 => intro x hx; simp at hx; subst hx; rfl
            case d5 => have := R6.out.two.size; simp; omega
            intro v7 w7 hown7 hgrow7 hn7
            clear hi0' hz0 hz1 hz2
            obtain ⟨su7, cu7, rfl⟩ := Is_.slice_form hown7
            have R7 : Hid (Ra w x (.slice sv L.length cv) (.slice su7 (I.length + 1) cu7) L (I ++ [h.id]) w7) := by
              refine (R6.out.alloc _).app9 ?_ hgrow7
              rw [Is_.vs_snoc, List.length_append]
              exact hown7
            have X7 : Hid (Sn_.Box w7 wr.heap.size (mk h)) := by
              refine box_grown22 (X6.out.below ((Below.refl _ _).alloc (Nat.le_refl _) _) X6.out.lt) hgrow7 (fun e => ?_)
              have := HSU.out _ e
              omega
            have e7 : (w7.cell? ⟨wr.heap.size, 0, none⟩ = some (.int .i64 h.id) ∧ w7.cell? ⟨wr.heap.size, 1, none⟩ = some (.int .i64 h.q) ∧ w7.cell? ⟨wr.heap.size, 2, none⟩ = some (.int .i64 h.tr) ∧ w7.cell? ⟨wr.heap.size, 3, none⟩ = some (.bool true) ∧ w7.cell? ⟨wr.heap.size, 4, none⟩ = some (.string h.da)) := X7.out.cells
            have l7 : (loadCellsFrom ⟨wr.heap.size, 0, none⟩ 0 5 #[]).run Try.prog w7 = .ok #[.int .i64 h.id, .int .i64 h.q, .int .i64 h.tr, .bool true, .string h.da] w7 := X7.out.load
            clear hown7 hgrow7 hn7
            go_wp2_with (first
              | (at_builtin; obtain ⟨i0, hi0', hz0, hz1, hz2⟩ := HI8.out; refine wpList_append_own _ rfl _ _ 22 rfl (w.heap.size + 2) 76 i0 (.agg #[.int .i64 0, .int .i64 0, .int .i64 0, .bool false, .string ⟨#[]⟩]) 5 48 Try.underlying22 hi0' hz0 hz1 hz2 rfl (by decide) _ _ _ rfl (R7.out.alloc _).o8 ⟨w7.heap.size, 0, none⟩ 1 1 (Sn_.cs (mk h)) rfl rfl ?c1 (Sn_.flat_one _) HM8.out.1 HM8.out.2 ?c5 ?_))
            case c1 =>
              rw [HCS.out]
              intro j x hj
              match j, hj with
              | 0, hj => simp at hj; subst hj; simp [Addr.add]
              | 1, hj => simp at hj; subst hj; simp [Addr.add]
              | 2, hj => simp at hj; subst hj; simp [Addr.add]
              | 3, hj => simp at hj; subst hj; simp [Addr.add]
              | 4, hj => simp at hj; subst hj; simp [Addr.add]
            case c5 => have := R7.out.two.size; simp; omega
            intro v8 w8 hown8 hgrow hn'
            clear hi0' hz0 hz1 hz2
            obtain ⟨sv8, cv8, rfl⟩ := Sn_.slice_form hown8
            have R8 : Hid (Ra w x (.slice sv8 (L.length + 1) cv8) (.slice su7 (I.length + 1) cu7) (L ++ [mk h]) (I ++ [h.id]) w8) := by
              refine (R7.out.alloc _).app8 ?_ hgrow
              rw [Sn_.flat_snoc, List.length_append]
              exact hown8
            clear hown8 hgrow hn'
            go_wp2
            go_roundw
            case rel => exact ⟨i + 1, by go_num, HLT.out, by rw [HYE.out, HIE.out, List.length_append]; exact ⟨sv8, cv8, _, _, rfl, by first | rfl | (rw [List.length_append]; rfl)⟩, by rw [HYE.out, HIE.out]; exact R8⟩
            case measure => have := HLT.out; simp [intOf]; omega
        · have hdd := hd
          have HBF := Lib.hid (HBB.out h64)
          have HA := Lib.hid (show ak st m h = false by rw [HAK.out, HBF.out]; simp)
          have HYE := Lib.hid (show chg (ak st m) mk (s.l.take (i + 1)) = L ++ [h] by rw [HY.out, if_neg (by rw [HA.out]; simp)])
          have HIE := Lib.hid (HIN.out HA.out)
          have HCS : Hid (Sn_.cs h = [.int .i64 h.id, .int .i64 h.q, .int .i64 h.tr, .bool false, .string h.da]) := by unfold Sn_.cs; rw [hd]; exact rfl
          rw [hd] at c3 l5 e5 hw5
          clear HY HIY HIN HAK HA hd
          go_wp2_with (first
            | (go_at_call 37; refine (CDi.out _).mono ?_; rintro e w' ⟨rfl, rfl⟩)
            | (at_builtin; obtain ⟨i0, hi0', hz0, hz1, hz2⟩ := HI8.out; refine wpList_append_own _ rfl _ _ 22 rfl (w.heap.size + 2) 76 i0 (.agg #[.int .i64 0, .int .i64 0, .int .i64 0, .bool false, .string ⟨#[]⟩]) 5 48 Try.underlying22 hi0' hz0 hz1 hz2 rfl (by decide) _ _ _ rfl (R5.out.alloc _).o8 ⟨w5.heap.size, 0, none⟩ 1 1 (Sn_.cs h) rfl rfl ?c1 (Sn_.flat_one _) HM8.out.1 HM8.out.2 ?c5 ?_))
          case c1 =>
            rw [HCS.out]
            intro j x hj
            match j, hj with
            | 0, hj => simp at hj; subst hj; simp
            | 1, hj => simp at hj; subst hj; simp
            | 2, hj => simp at hj; subst hj; simp
            | 3, hj => simp at hj; subst hj; simp
            | 4, hj => simp at hj; subst hj; simp
          case c5 => have := R5.out.two.size; simp; omega
          intro v8 w8 hown8 hgrow hn'
          clear hi0' hz0 hz1 hz2
          obtain ⟨sv8, cv8, rfl⟩ := Sn_.slice_form hown8
          have R8 : Hid (Ra w x (.slice sv8 (L.length + 1) cv8) (.slice su I.length cu) (L ++ [h]) I w8) := by
            refine (R5.out.alloc _).app8 ?_ hgrow
            rw [Sn_.flat_snoc, List.length_append]
            exact hown8
          clear hown8 hgrow hn'
          go_wp2
          go_roundw
          case rel => exact ⟨i + 1, by go_num, HLT.out, by rw [HYE.out, HIE.out, List.length_append]; exact ⟨sv8, cv8, _, _, rfl, by first | rfl | (rw [List.length_append]; rfl)⟩, by rw [HYE.out, HIE.out]; exact R8⟩
          case measure => have := HLT.out; simp [intOf]; omega
    · obtain rfl : i = n := by omega
      have HLL : Hid ((chg (ak st m) mk (s.l.take i)).length ≤ 1000) := Nat.le_trans (by rw [chg_len]; exact take_len22 _ _) HLN.out
      generalize chg (ak st m) mk (s.l.take i) = L at *
      generalize ids ((s.l.take i).filter (ak st m)) = I at *
      have HP8 : Hid (L.length ≤ 1000) := HLL.out
      have RD := Lib.hid (HR.out.keep (wj := wr.drew) ⟨rfl, rfl, rfl, Nat.le_refl _, fun _ _ => rfl⟩)
      have l1 := RD.out.two.bx.loadF
      have S8 := Lib.hid (Sn_.sl_owns RD.out.o8)
      have F8 := Lib.hid (Fr.own RD.out.o8)
      have S9 := Lib.hid (Is_.sl_owns RD.out.o9)
      have F9 := Lib.hid (Fr.own RD.out.o9)
      have CT := Lib.hid (r22_trim_any sv L cv wr.drew S8.out HP8.out)
      have CW := Lib.hid (fun (sa : Option Addr) (n c : Nat) W => r22_with_any x sa n c W)
      clear HR HV R4 hw1 hw2' hw3 hw4
      go_wp2_with fail
      go_region_with (first
        | (go_at_call 57; refine CT.out.mono ?_; rintro e w' ⟨sa', c', rfl, hS', hsib, rfl⟩; have ST := Lib.hid hS'; have FT := Lib.hid (F8.out.sib hsib); clear hS' hsib)
        | (go_at_call 47; refine (CW.out _ _ _ _).mono ?_; rintro e w9 ⟨rfl, hb9⟩; have T9 := Lib.hid (RD.out.two.below hb9); have S9b := Lib.hid (S9.out.below hb9); have ST9 := Lib.hid (ST.out.below hb9); have t9 := T9.out.rs.storeF { x with sa := sa', n := (trimL L).length, c := c' }; clear hb9))
      all_goals
        have T10 := Lib.hid (T9.out.setY { x with sa := sa', n := (trimL L).length, c := c' })
        have I10 := Lib.hid (is_row22 (r := w.heap.size + 1) (cs := Wv_.C { x with sa := sa', n := (trimL L).length, c := c' }) S9b.out F9.out (by omega))
        have L10 := Lib.hid (sl_row22 (r := w.heap.size + 1) (cs := Wv_.C { x with sa := sa', n := (trimL L).length, c := c' }) ST9.out FT.out (by omega))
        go_wp2
        refine ret_wv2 Try.results28 rfl rfl T10.out.rs rfl ?_
        show StIdsV (acked s st m) w _ _
        rw [HD.out]
        exact ⟨{ x with sa := sa', n := (trimL L).length, c := c' }, su, cu, rfl, ⟨⟨HL.out.nx, HL.out.sz, HL.out.rq, rfl, L10.out⟩, T10.out.bel, FT.out.up (by omega)⟩, I10.out, F9.out.up (by omega)⟩
end Go.Proofs.Ytldeflpaghbmmaa
