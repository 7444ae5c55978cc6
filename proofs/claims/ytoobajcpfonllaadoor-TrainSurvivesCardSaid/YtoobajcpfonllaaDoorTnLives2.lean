/-
  THE WALK of the examples that every law of layer 17 ends with.
-/
import Derived.Test.YtoobajcpfonllaaDoorTnLives
namespace Go.Proofs.YtoobajcpfonllaaDoor
open Go.RowKit Go.Tn Go.Wr Go.Ck

def xa : ByteArray := ⟨#[97, 98, 99]⟩
def xd : ByteArray := ⟨#[100]⟩
theorem ex_e : eE [xa, xd] = 0 := by decide
theorem ex_s : (eS [xa, xd]).size = 13 := by rw [eS_size ex_e]; decide
theorem ex_dec : dec (eS [xa, xd]).data.toList = [⟨4, xa⟩, ⟨12, xd⟩] := by
  have e : (eS [xa, xd]).data.toList = ag 0 (fs [xa, xd]) := by rw [eS_ok ex_e]
  rw [e, dec_ag (fs_pos ex_e).1 (fs_pos ex_e).2]
  rfl
theorem ex_0 : eE [] = 7 := by decide
theorem ex_1 : eE [⟨#[]⟩] = 4 := by decide
theorem ex_l : lnI [3, 1] = 13 := by decide
theorem ex_l0 : lnI [] = -1 := by decide
theorem ex_f : fl [3, 1, 5] 15 = 2 := by decide +kernel
theorem two_cars {W : World} {v0 : Option Addr} {c : Nat} {m n : Int} {s u : ByteArray} (h : Cr_.Sl W v0 [⟨m, s⟩, ⟨n, u⟩] c) : ∃ b off, v0 = some ⟨b, off, none⟩ ∧ (W.cell? ⟨b, off, none⟩ = some (.int .i64 m) ∧ W.cell? ⟨b, off + 1, none⟩ = some (.string s)) ∧ W.cell? ⟨b, off + 2, none⟩ = some (.int .i64 n) ∧ W.cell? ⟨b, off + 2 + 1, none⟩ = some (.string u) := by
  obtain ⟨b, off, rfl, -, h0⟩ := h.lies 0 (by simp)
  obtain ⟨b', off', e, -, h1⟩ := h.lies 1 (by simp)
  injection e with e; injection e with e1 e2
  subst e1; subst e2
  exact ⟨b, off, rfl, h0, h1⟩

set_option maxRecDepth 100000 in
set_option maxHeartbeats 4000000 in
theorem lives17_any (w : World) (ht : TnTab w) : Calls Tryd.prog 9 #[] w fun e w' => e = .returned (.bool true) ∧ Below w.heap.size w w' := by
  have HT := Lib.hid ht
  have hmx : ∀ n : Nat, n ≤ 3 → n ≤ maxLen := fun n h => by unfold maxLen; omega
  have C1 : Hid (∀ W : World, TnTab W → Calls Tryd.prog 10 #[.slice (some ⟨W.heap.size, 0, none⟩) 2 2] (W.alloc (.cells #[.string ⟨#[97, 98, 99]⟩, .string ⟨#[100]⟩] 9)) fun e w' => e = .returned (.tuple #[.string (eS [xa, xd]), .int .i64 0]) ∧ Below W.heap.size W w') := fun W h => by
    have c := tnEncode_any [xa, xd] (some ⟨W.heap.size, 0, none⟩) 2 _ (Ss_.sl_lit W [xa, xd] (hmx 2 (by decide))).lies (by decide) (h.alloc _)
    refine c.mono fun e w' q => ⟨q.1.trans (by rw [ex_e]), ?_⟩
    exact ((Below.refl _ _).alloc (Nat.le_refl _) _).trans (q.2.mono (by simp))
  have C2 : Hid (∀ W : World, TnTab W → Calls Tryd.prog 10 #[.slice none 0 0] W fun e w' => e = .returned (.tuple #[.string (eS []), .int .i64 7]) ∧ Below W.heap.size W w') := fun W h => by
    have c := tnEncode_any [] none 0 W (Ss_.At.nil _ _) (by decide) h
    exact c.mono fun e w' q => ⟨q.1.trans (by rw [ex_0]), q.2⟩
  have C3 : Hid (∀ W : World, TnTab W → Calls Tryd.prog 10 #[.slice (some ⟨W.heap.size, 0, none⟩) 1 1] (W.alloc (.cells #[.string ⟨#[]⟩] 9)) fun e w' => e = .returned (.tuple #[.string (eS [⟨#[]⟩]), .int .i64 4]) ∧ Below W.heap.size W w') := fun W h => by
    have c := tnEncode_any [⟨#[]⟩] (some ⟨W.heap.size, 0, none⟩) 1 _ (Ss_.sl_lit W [⟨#[]⟩] (hmx 1 (by decide))).lies (by decide) (h.alloc _)
    refine c.mono fun e w' q => ⟨q.1.trans (by rw [ex_1]), ?_⟩
    exact ((Below.refl _ _).alloc (Nat.le_refl _) _).trans (q.2.mono (by simp))
  have C4 : Hid (∀ W : World, TnTab W → Calls Tryd.prog 13 #[.string (eS [xa, xd])] W fun e w' => ∃ v0 c, e = .returned (.slice v0 2 c) ∧ Cr_.Sl w' v0 [⟨4, xa⟩, ⟨12, xd⟩] c ∧ Below W.heap.size W w') := fun W h => by
    have c := tnDecode_any (eS [xa, xd]) W (by rw [ex_s]; decide) h
    unfold DecPost at c
    rw [ex_dec] at c
    exact c
  have C5 : Hid (∀ W : World, Calls Tryd.prog 15 #[.slice (some ⟨W.heap.size, 0, none⟩) 2 2] (W.alloc (.cells #[.int .i64 3, .int .i64 1] 3)) fun e w' => e = .returned (.int .i64 13) ∧ W.alloc (.cells #[.int .i64 3, .int .i64 1] 3) = w') := fun W => by
    have c := tnLength_any [3, 1] (some ⟨W.heap.size, 0, none⟩) 2 _ (Is_.sl_lit W [3, 1] (hmx 2 (by decide))).lies (hmx 2 (by decide))
    exact c.mono fun e w' q => ⟨q.1.trans (by rw [ex_l]), q.2⟩
  have C6 : Hid (∀ W : World, Calls Tryd.prog 15 #[.slice none 0 0] W fun e w' => e = .returned (.int .i64 (-1)) ∧ W = w') := fun W => by
    have c := tnLength_any [] none 0 W (Is_.At.nil _ _) (hmx 0 (by decide))
    exact c.mono fun e w' q => ⟨q.1.trans (by rw [ex_l0]), q.2⟩
  have C7 : Hid (∀ W : World, Calls Tryd.prog 19 #[.slice (some ⟨W.heap.size, 0, none⟩) 3 3, .int .i64 15] (W.alloc (.cells #[.int .i64 3, .int .i64 1, .int .i64 5] 3)) fun e w' => e = .returned (.int .i64 2) ∧ W.alloc (.cells #[.int .i64 3, .int .i64 1, .int .i64 5] 3) = w') := fun W => by
    have c := tnFill_any [3, 1, 5] (some ⟨W.heap.size, 0, none⟩) 3 15 _ (Is_.sl_lit W [3, 1, 5] (hmx 3 (by decide))) (hmx 3 (by decide))
    exact c.mono fun e w' q => ⟨q.1.trans (by rw [ex_f]; rfl), q.2⟩
  have hsz := ex_s
  have hxa : xa = ⟨#[97, 98, 99]⟩ := rfl
  have hxd : xd = ⟨#[100]⟩ := rfl
  generalize eS [xa, xd] = E at *
  generalize eS [] = E0 at *
  generalize eS [⟨#[]⟩] = E1 at *
  rw [hxa, hxd] at C4
  clear hmx ht hxa hxd
  go_enter Tryd.func9, Tryd.ntmps9
  go_wp2_with fail
  refine (C1.out w HT.out).mono ?_
  rintro e w2 ⟨rfl, h⟩
  have HT2 := Lib.hid (HT.out.bel h)
  have B2 := Lib.hid h
  clear h HT C1
  go_wp2_with fail
  refine (C2.out w2 HT2.out).mono ?_
  rintro e w3 ⟨rfl, h⟩
  have HT3 := Lib.hid (HT2.out.bel h)
  have B3 := Lib.hid (B2.out.trans (h.mono B2.out.size))
  clear h HT2 B2 C2
  go_wp2_with fail
  refine (C3.out w3 HT3.out).mono ?_
  rintro e w4 ⟨rfl, h⟩
  have HT4 := Lib.hid (HT3.out.bel h)
  have B4 := Lib.hid (B3.out.trans (h.mono B3.out.size))
  clear h HT3 B3 C3
  go_wp2_with fail
  refine (C4.out w4 HT4.out).mono ?_
  rintro e w5 ⟨v5, c5, rfl, hs, h⟩
  have B5 := Lib.hid (B4.out.trans (h.mono B4.out.size))
  obtain ⟨b, off, rfl, ⟨f0, f1⟩, f2, f3⟩ := two_cars hs
  clear h hs HT4 B4 C4
  go_wp2_with fail
  refine (C5.out w5).mono ?_
  rintro e w6 ⟨rfl, hw⟩
  have B6 : Hid (Below w.heap.size w w6) := hw ▸ B5.out.alloc B5.out.size _
  clear hw C5
  go_wp2_with fail
  refine (C6.out w6).mono ?_
  rintro e w7 ⟨rfl, hw⟩
  subst hw
  clear C6
  go_wp2_with fail
  refine (C7.out w6).mono ?_
  rintro e w8 ⟨rfl, hw⟩
  have B8 : Hid (Below w.heap.size w w8) := hw ▸ B6.out.alloc B6.out.size _
  clear hw C7
  go_wp2
  go_returns
  exact ⟨rfl, B8.out⟩
end Go.Proofs.YtoobajcpfonllaaDoor
