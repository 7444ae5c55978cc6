/-
  THE WALKS of the laws AddressNodes and AddressParses.
-/
import Derived.Test.YtnbcphpjgahgoaaAdLaws
namespace Go.Proofs.Ytnbcphpjgahgoaa
open Go.RowKit Go.Wr Go.Ad

theorem num0 : num 0 = (0, false) := by decide
theorem nod_eq (n m : Int) (hn : 0 ≤ n ∧ n < 16) : ((((nod n : Nat) : Int) == ((nod m : Nat) : Int)) == (n == m)) = true := by
  have e1 := nod_in hn
  by_cases hm : 0 ≤ m ∧ m < 16
  · have e2 := nod_in hm
    by_cases h : n = m
    · subst h; simp
    · have i1 : (n == m) = false := beq_eq_false_iff_ne.mpr h
      have i2 : (((nod n : Nat) : Int) == ((nod m : Nat) : Int)) = false := beq_eq_false_iff_ne.mpr (by omega)
      rw [i1, i2]; rfl
  · have e2 := nod_out hm
    have i1 : (n == m) = false := beq_eq_false_iff_ne.mpr (by omega)
    have i2 : (((nod n : Nat) : Int) == ((nod m : Nat) : Int)) = false := beq_eq_false_iff_ne.mpr (by omega)
    rw [i1, i2]; rfl

set_option maxRecDepth 100000 in
set_option maxHeartbeats 2000000 in
theorem addressNodes_walk1 (D : Does) (n : Int) (hn : (Lit.int .i64 n).wf = true) (m : Int) (hm : (Lit.int .i64 m).wf = true) (W : World) :
    Calls Try.prog 5 #[.int .i64 n, .int .i64 m] W fun e w' => e = .returned (.bool true) ∧ Below W.heap.size W w' := by
  have c1 := Lib.hid (fun w => D.node_any n w hn)
  have c2 := Lib.hid (fun w => D.node_any m w hm)
  have LV := Lib.hid (lives_any D)
  by_cases hr : 0 ≤ n ∧ n < 16
  · obtain ⟨k, rfl⟩ : ∃ k : Nat, n = k := ⟨n.toNat, by omega⟩
    have hk : k < 16 := by omega
    have hnn := num_nod k hk
    have hkd := nod_kind k hk
    have e1 := nod_in hr
    have hfin := nod_eq k m hr
    have hlt : nod (k : Int) < 18446744073709551616 := by omega
    have c3 : Hid (∀ w, Calls Try.prog 16 #[.int .u64 (nod k : Nat)] w fun e w' => e = .returned (.tuple #[.int .i64 k, .bool true]) ∧ w = w') := fun w => by have h := D.number_any (nod k) w hlt; rw [hnn] at h; exact h
    have c4 : Hid (∀ w, Calls Try.prog 18 #[.int .u64 (nod k : Nat)] w fun e w' => e = .returned (.bool true) ∧ w = w') := fun w => by have h := D.valid_any (nod k) w hlt; rw [hkd.1] at h; exact h
    have c5 : Hid (∀ w, Calls Try.prog 20 #[.int .u64 (nod k : Nat)] w fun e w' => e = .returned (.bool false) ∧ w = w') := fun w => by have h := D.group_any (nod k) w hlt; rw [hkd.2] at h; exact h
    have h0 : ¬ (k : Int) < 0 := by omega
    have h16 : ¬ (16 : Int) ≤ k := by omega
    generalize ((nod (k : Int) : Nat) : Int) = A at *
    generalize ((nod m : Nat) : Int) = B at *
    generalize ((k : Nat) : Int) = K at *
    clear hn hm hr hk hnn hkd e1 hlt
    go_enter Try.func5, Try.ntmps5
    go_wp2_with (first
      | (go_at_call 23; with_reducible refine (c1.out _).mono ?_; rintro e w' ⟨rfl, rfl⟩)
      | (go_at_call 23; with_reducible refine (c2.out _).mono ?_; rintro e w' ⟨rfl, rfl⟩)
      | (go_at_call 16; refine (c3.out _).mono ?_; rintro e w' ⟨rfl, rfl⟩)
      | (go_at_call 18; refine (c4.out _).mono ?_; rintro e w' ⟨rfl, rfl⟩)
      | (go_at_call 20; refine (c5.out _).mono ?_; rintro e w' ⟨rfl, rfl⟩)
      | (go_at_call 10; refine (LV.out _).mono ?_; rintro e w3 ⟨rfl, hb3⟩))
    go_returns
    exact ⟨rfl, hb3⟩
  · have e1 := nod_out hr
    rw [e1] at c1
    have c3 : Hid (∀ w, Calls Try.prog 16 #[.int .u64 0] w fun e w' => e = .returned (.tuple #[.int .i64 0, .bool false]) ∧ w = w') := fun w => by have h := D.number_any 0 w (by decide); rw [num0] at h; exact h
    have c1' : Hid (∀ w, Calls Try.prog 23 #[.int .i64 n] w fun e w' => e = .returned (.int .u64 0) ∧ w = w') := fun w => c1.out w
    generalize ((nod m : Nat) : Int) = B at *
    clear hn hm e1 c1
    by_cases h0 : n < 0
    · clear hr
      go_enter Try.func5, Try.ntmps5
      go_wp2_with (first
        | (go_at_call 23; with_reducible refine (c1'.out _).mono ?_; rintro e w' ⟨rfl, rfl⟩)
        | (go_at_call 23; with_reducible refine (c2.out _).mono ?_; rintro e w' ⟨rfl, rfl⟩)
        | (go_at_call 16; refine (c3.out _).mono ?_; rintro e w' ⟨rfl, rfl⟩)
        | (go_at_call 10; refine (LV.out _).mono ?_; rintro e w3 ⟨rfl, hb3⟩))
      go_returns
      exact ⟨rfl, hb3⟩
    · have h16 : (16 : Int) ≤ n := by omega
      clear hr
      go_enter Try.func5, Try.ntmps5
      go_wp2_with (first
        | (go_at_call 23; with_reducible refine (c1'.out _).mono ?_; rintro e w' ⟨rfl, rfl⟩)
        | (go_at_call 23; with_reducible refine (c2.out _).mono ?_; rintro e w' ⟨rfl, rfl⟩)
        | (go_at_call 16; refine (c3.out _).mono ?_; rintro e w' ⟨rfl, rfl⟩)
        | (go_at_call 10; refine (LV.out _).mono ?_; rintro e w3 ⟨rfl, hb3⟩))
      go_returns
      exact ⟨rfl, hb3⟩

theorem Rd.below {w w' : World} {b : Nat} {e : Int} {s : ByteArray} (h : Rd w b e s) (hb : Below w.heap.size w w') : Rd w' b e s := Blk.of_block h (hb.block b (Blk.lt h))
theorem be_first (a : Nat) : bev ((⟨(be a).toArray⟩ : ByteArray).extract 0 6).data.toList = bev (be a) := by
  have h := be_len a
  simp [List.take_of_length_le, h]
theorem be_rest (a : Nat) : ((⟨(be a).toArray⟩ : ByteArray).extract 6 (⟨(be a).toArray⟩ : ByteArray).size).size = 0 := by
  have h : (⟨(be a).toArray⟩ : ByteArray).size = 6 := by show (be a).toArray.size = 6; rw [List.size_toArray, be_len]
  rw [h]; simp

set_option maxRecDepth 100000 in
set_option maxHeartbeats 2000000 in
theorem addressParses_walk1 (D : Does) (a0 : Int) (ha : (Lit.int .u64 a0).wf = true) (W : World) :
    Calls Try.prog 3 #[.int .u64 a0] W fun e w' => e = .returned (.bool true) ∧ Below W.heap.size W w' := by
  obtain ⟨a, rfl, hl⟩ := nat_of_u64 ha
  have LV := Lib.hid (lives_any D)
  clear ha
  go_enter Try.func3, Try.ntmps3
  go_wp2_with fail
  have hw0 : Wr (W.alloc (.cells #[.int .i64 0, .pointer none, .string ⟨#[]⟩] 30)) W.heap.size [] := ⟨none, ⟨#[]⟩, [], Blk.new W _ 30 [.int .i64 0, .pointer none, .string ⟨#[]⟩] rfl, .nil, rfl⟩
  have hb0 : Below W.heap.size W (W.alloc (.cells #[.int .i64 0, .pointer none, .string ⟨#[]⟩] 30)) := (Below.refl _ _).alloc (Nat.le_refl _) _
  have hz0 : W.heap.size ≤ (W.alloc (.cells #[.int .i64 0, .pointer none, .string ⟨#[]⟩] 30)).heap.size := by simp
  generalize W.alloc (.cells #[.int .i64 0, .pointer none, .string ⟨#[]⟩] 30) = w0 at *
  by_cases hbig : 281474976710656 ≤ a
  · have hge : (281474976710656 : Int) ≤ a := by omega
    refine (D.write_big _ [] a w0 hw0 hge (by omega)).mono ?_
    rintro e w1 ⟨rfl, hc, hb⟩
    have hb1 := hb0.trans (hb.below hz0 (Nat.le_refl _))
    generalize ((a : Nat) : Int) = A at *
    clear hw0 hb hb0 hbig hl
    go_wp2_with fail
    refine (done_bad _ 4 w1 hc (by decide)).mono ?_
    rintro e w2 ⟨rfl, hb2⟩
    have HB := Lib.hid (hb1.trans (hb2.mono hb1.size))
    clear hb1 hb2 hc
    go_wp2_with (go_at_call 10; refine (LV.out _).mono ?_; rintro e w3 ⟨rfl, hb3⟩)
    go_returns
    exact ⟨rfl, HB.out.trans (hb3.mono HB.out.size)⟩
  · have hlt : a < 281474976710656 := by omega
    have hge : ¬ (281474976710656 : Int) ≤ a := by omega
    refine (D.write_ok _ [] a w0 hw0 hlt (by decide)).mono ?_
    rintro e w1 ⟨rfl, hw1, hb⟩
    rw [List.nil_append] at hw1
    have hb1 := hb0.trans (hb.below hz0 (Nat.le_refl _))
    clear hw0 hb hb0 hbig hl hz0
    have hDone := done_ok _ (be a) w1 hw1 (by rw [be_len]; decide)
    have hT := D.text_any a
    have hP := fun w => D.parse_any ⟨(txt a).toArray⟩ w (by show (txt a).toArray.size ≤ 1000; rw [List.size_toArray, txt_len]; decide)
    have htx : txt (prz (⟨(txt a).toArray⟩ : ByteArray).data.toList) = (⟨(txt a).toArray⟩ : ByteArray).data.toList := by show txt (prz (txt a)) = txt a; rw [prz_txt hlt]
    rw [if_pos htx, if_pos htx] at hP
    have hpz : prz (⟨(txt a).toArray⟩ : ByteArray).data.toList = a := prz_txt hlt
    rw [hpz] at hP
    have CT := Lib.hid (fun w => hT w hlt)
    have CP := Lib.hid hP
    have hR := fun b w (h : Rd w b 0 ⟨(be a).toArray⟩) => D.read_ok b ⟨(be a).toArray⟩ w h (by show 6 ≤ (be a).toArray.size; rw [List.size_toArray, be_len]; exact Nat.le_refl _)
    rw [be_first, bev_be hlt] at hR
    have CR := Lib.hid hR
    have hrest := be_rest a
    have hsz : (⟨(be a).toArray⟩ : ByteArray).size = 6 := by show (be a).toArray.size = 6; rw [List.size_toArray, be_len]
    generalize (⟨(txt a).toArray⟩ : ByteArray) = T at *
    generalize (⟨(be a).toArray⟩ : ByteArray).extract 6 (⟨(be a).toArray⟩ : ByteArray).size = R at *
    generalize (⟨(be a).toArray⟩ : ByteArray) = O at *
    generalize ((a : Nat) : Int) = A at *
    clear hT hP hR htx hpz hlt hw1
    go_wp2_with fail
    refine hDone.mono ?_
    rintro e w2 ⟨rfl, hb2⟩
    have hb2' := hb1.trans (hb2.mono hb1.size)
    clear hb1 hb2 hDone
    go_wp2_with fail
    refine (new_any O w2).mono ?_
    rintro e w3 ⟨rfl, rfl⟩
    have hrd : Rd (w2.alloc (.cells #[.int .i64 0, .string O] 62)) w2.heap.size 0 O := Blk.new w2 _ 62 [.int .i64 0, .string O] rfl
    have hb3 : Below W.heap.size W (w2.alloc (.cells #[.int .i64 0, .string O] 62)) := hb2'.alloc hb2'.size _
    have hr0 := hb2'.size
    generalize w2.alloc (.cells #[.int .i64 0, .string O] 62) = w3 at *
    generalize w2.heap.size = r at *
    clear hb2'
    go_wp2_with fail
    refine (CT.out _).mono ?_
    rintro e w4 ⟨rfl, hb4⟩
    have hrd4 := hrd.below hb4
    have hb4' := hb3.trans (hb4.mono hb3.size)
    clear hrd hb3 hb4
    go_wp2_with fail
    refine (CP.out _).mono ?_
    rintro e w5 ⟨rfl, hb5⟩
    have HRD := Lib.hid (hrd4.below hb5)
    have HB := Lib.hid (hb4'.trans (hb5.mono hb4'.size))
    clear hrd4 hb4' hb5 CT CP
    go_wp2_with fail
    refine (CR.out _ _ HRD.out).mono ?_
    rintro e w6 ⟨rfl, hrd6, hb6⟩
    have HE : Hid (Calls Try.prog 15 #[.pointer (some ⟨r, 0, none⟩)] w6 fun e w' => e = .returned (.int .i64 0) ∧ w6 = w') := by
      have h := end_ok r R w6 hrd6
      rw [if_neg (by omega)] at h; exact h
    have HB6 := Lib.hid (HB.out.trans (hb6.below HB.out.size hr0))
    clear hrd6 hb6 hrest CR
    go_wp2_with (first
      | (go_at_call 15; refine HE.out.mono ?_; rintro e w' ⟨rfl, rfl⟩)
      | (go_at_call 10; refine (LV.out _).mono ?_; rintro e w7 ⟨rfl, hb7⟩))
    go_returns
    exact ⟨rfl, HB6.out.trans (hb7.mono HB6.out.size)⟩
end Go.Proofs.Ytnbcphpjgahgoaa
