/-
  THE WALK of the law ChecksumOctet.
-/
import Derived.Test.YtmgglbnadkkedaaDoorCkLaid
namespace Go.Proofs.YtmgglbnadkkedaaDoor
open Go.RowKit Go.Wr Go.Ck

theorem nat_of_u16' {a : Int} (h : (Lit.int .u16 a).wf = true) : ∃ n : Nat, a = n ∧ n < 65536 := by
  simp [Lit.wf, IntKind.min, IntKind.max, IntKind.signed, IntKind.bits] at h
  exact ⟨a.toNat, by omega, by omega⟩
theorem nat_of_u8 {a : Int} (h : (Lit.int .u8 a).wf = true) : ∃ n : Nat, a = n ∧ n < 256 := by
  simp [Lit.wf, IntKind.min, IntKind.max, IntKind.signed, IntKind.bits] at h
  exact ⟨a.toNat, by omega, by omega⟩

/-- One octet as a string. -/
theorem octet_conv (c : Nat) (hc : c < 256) (g : Nat) (W : World) (h0 : W.cell? ⟨g, 0, none⟩ = some (.int .u8 (c : Int))) :
    (convert 37 9 (.slice (some ⟨g, 0, none⟩) 1 1)).run Tryd.prog W = .ok (.string ⟨#[UInt8.ofNat c]⟩) W :=
  run_convert_bytes_back (P := Tryd.prog) W 37 9 5 ⟨g, 0, none⟩ 1 [UInt8.ofNat c] Tryd.underlying37 Tryd.underlying5 Tryd.underlying9 (fun j hj => by
    obtain rfl : j = 0 := by simpa using hj
    have e : (⟨g, 0, none⟩ : Addr).add 0 = ⟨g, 0, none⟩ := by unfold Addr.add; split <;> simp_all
    rw [e, h0]
    simp [UInt8.toNat_ofNat', Nat.mod_eq_of_lt hc])

theorem octet_list (s : ByteArray) (i c : Nat) : (s.extract 0 i ++ ⟨#[UInt8.ofNat c]⟩ ++ s.extract (i + 1) s.size).data.toList = s.data.toList.take i ++ UInt8.ofNat c :: s.data.toList.drop (i + 1) := by
  obtain ⟨⟨l⟩⟩ := s
  have e : (⟨⟨l⟩⟩ : ByteArray).size = l.length := rfl
  rw [e]
  simp [List.take_of_length_le]
theorem self_list (s : ByteArray) (i : Nat) (hi : i < s.size) : s.data.toList = s.data.toList.take i ++ (s[i]'hi) :: s.data.toList.drop (i + 1) := by
  obtain ⟨⟨l⟩⟩ := s
  have h : i < l.length := hi
  show l = l.take i ++ l[i] :: l.drop (i + 1)
  rw [← List.drop_eq_getElem_cons h, List.take_append_drop]

theorem octet_ne (s : ByteArray) (i c : Nat) (hi : i < s.size) (hc : c < 256) (h : ¬ ((s[i]'hi).toNat : Int) = c) :
    ¬ (crc8 (s.extract 0 i ++ ⟨#[UInt8.ofNat c]⟩ ++ s.extract (i + 1) s.size).data.toList : Int) = (crc8 s.data.toList : Int) := by
  intro e
  have e' : crc8 (s.extract 0 i ++ ⟨#[UInt8.ofNat c]⟩ ++ s.extract (i + 1) s.size).data.toList = crc8 s.data.toList := by omega
  rw [octet_list s i c] at e'
  have hn := crc8_ne (s.data.toList.take i) (s.data.toList.drop (i + 1)) (UInt8.ofNat c) (s[i]'hi) (fun hx => h (by rw [← hx, UInt8.toNat_ofNat', Nat.mod_eq_of_lt hc]))
  rw [← self_list s i hi] at hn
  exact hn e'

set_option maxRecDepth 100000 in
set_option maxHeartbeats 4000000 in
theorem checksumOctet_walk0 (s : ByteArray) (hs : s.size ≤ 140737488351232) (a : Int) (ha : (Lit.int .u16 a).wf = true) (c0 : Int) (hc0 : (Lit.int .u8 c0).wf = true) (W : World) (hl : LaidFacts W) :
    Calls Tryd.prog 8 #[.string s, .int .u16 a, .int .u8 c0] W fun e w' => e = .returned (.bool true) ∧ Below W.heap.size W w' := by
  obtain ⟨n, rfl, hn⟩ := nat_of_u16' ha
  obtain ⟨c, rfl, hc⟩ := nat_of_u8 hc0
  clear ha hc0
  have AW := Lib.hid awake_any
  have HT := Lib.hid hl
  by_cases h0 : (s.size : Int) = 0
  · clear hn hc hs hl
    go_enter Tryd.func8, Tryd.ntmps8
    go_wp2_with (go_at_call 9; refine (AW.out _ HT.out).mono ?_; rintro e w1 ⟨rfl, hb1⟩)
    go_returns
    exact ⟨rfl, hb1⟩
  have hb0 : ((s.size : Int) == 0) = false := beq_eq_false_iff_ne.mpr h0
  by_cases h3 : (1000 : Int) < s.size
  · clear hn hc hs hl h0
    go_enter Tryd.func8, Tryd.ntmps8
    go_wp2_with (go_at_call 9; refine (AW.out _ HT.out).mono ?_; rintro e w1 ⟨rfl, hb1⟩)
    go_returns
    exact ⟨rfl, hb1⟩
  obtain ⟨i, hi0⟩ : ∃ i, i = n % s.size := ⟨_, rfl⟩
  have hi : i < s.size := by rw [hi0]; exact Nat.mod_lt _ (by omega)
  have hrem : (Go.RowKit.wrap64 (n : Int)).tmod (s.size : Int) = (i : Int) := by
    rw [IntWalk.wrap64_in _ (by omega), Int.tmod_eq_emod_of_nonneg (by omega), hi0]; simp
  by_cases he : ((s[i]'hi).toNat : Int) = c
  · clear hn hc hs hl hi0 h0
    go_enter Tryd.func8, Tryd.ntmps8
    go_wp2_with (go_at_call 9; refine (AW.out _ HT.out).mono ?_; rintro e w1 ⟨rfl, hb1⟩)
    go_returns
    exact ⟨rfl, hb1⟩
  have hne := octet_ne s i c hi hc he
  have hsl1 := sliceTo s i (by omega)
  have hsl2 := sliceFrom s (i + 1) (by omega)
  rw [show ((i + 1 : Nat) : Int) = (i : Int) + 1 from rfl] at hsl2
  have hw1 : IntKind.i64.wrap ((i : Int) + 1) = i + 1 := IntWalk.i64_in _ (by omega)
  have hsz1 : (s.extract 0 i).size = i := by simp; omega
  have hsz2 : (s.extract (i + 1) s.size).size ≤ s.size := by simp
  obtain ⟨A, hA⟩ : ∃ A, A = s.extract 0 i := ⟨_, rfl⟩
  obtain ⟨B, hB⟩ : ∃ B, B = s.extract (i + 1) s.size := ⟨_, rfl⟩
  obtain ⟨D, hD⟩ : ∃ D : ByteArray, D = ⟨#[UInt8.ofNat c]⟩ := ⟨_, rfl⟩
  have hDs : D.size = 1 := by rw [hD]; rfl
  rw [← hA, ← hB, ← hD] at hne
  rw [← hA] at hsz1 hsl1
  rw [← hB] at hsz2 hsl2
  have hadd1 : ∀ W, (Op.stringOp .add A D).run Tryd.prog W = .ok (.string (A ++ D)) W := fun W => run_string_add_sum (P := Tryd.prog) W A D (by omega)
  have hADs : (A ++ D).size = A.size + D.size := ByteArray.size_append ..
  have hadd2 : ∀ W, (Op.stringOp .add (A ++ D) B).run Tryd.prog W = .ok (.string (A ++ D ++ B)) W := fun W => run_string_add_sum (P := Tryd.prog) W (A ++ D) B (by omega)
  have hADBs : (A ++ D ++ B).size = (A ++ D).size + B.size := ByteArray.size_append ..
  have c1 : Hid (∀ w, Tabs w → Calls Tryd.prog 12 #[.string (A ++ D ++ B)] w fun e w' => e = .returned (.int .u8 (crc8 (A ++ D ++ B).data.toList : Int)) ∧ w = w') := fun w hw => sum8_any (A ++ D ++ B) w (by omega) hw.t8
  have c2 : Hid (∀ w, Tabs w → Calls Tryd.prog 12 #[.string s] w fun e w' => e = .returned (.int .u8 (crc8 s.data.toList : Int)) ∧ w = w') := fun w hw => sum8_any s w hs hw.t8
  have hcv := octet_conv c hc W.heap.size (W.drew.alloc (.cells #[.int .u8 (c : Int)] 5)) (World.cell?_alloc_at _ _ _ 0 rfl)
  have hcv2 := octet_conv c hc W.heap.size (W.alloc (.cells #[.int .u8 (c : Int)] 5)).drew (World.cell?_alloc_at (w := W) _ _ _ 0 rfl)
  rw [← hD] at hcv2
  rw [← hD] at hcv
  generalize crc8 (A ++ D ++ B).data.toList = x at hne c1
  generalize crc8 s.data.toList = y at hne c2
  have hne1 : ((x : Int) == (y : Int)) = false := beq_eq_false_iff_ne.mpr hne
  have hne2 : ¬ x = y := fun e => hne (congrArg _ e)
  have hne4 : ((x : Int) != (y : Int)) = true := by rw [bne, hne1]; rfl
  have hne3 : (x == y) = false := beq_eq_false_iff_ne.mpr hne2
  generalize hX : A ++ D ++ B = X at *
  generalize hY : A ++ D = Y at *
  clear hne h0 hX hY hA hB hD hDs hADs hADBs hsz1 hsz2 hs hl hi0 hn hc
  go_enter Tryd.func8, Tryd.ntmps8
  go_wp2
  go_region_with (first
    | (go_at_call 12; with_reducible refine (c1.out _ ?ht).mono ?_; (case ht => first | exact HT.out | exact HT.out.below (Below.refl _ _).drew | exact HT.out.below ((Below.refl _ _).drew.alloc (Nat.le_refl _) _) | exact HT.out.below ((Below.refl _ _).alloc (Nat.le_refl _) _).drew); rintro e w' ⟨rfl, rfl⟩)
    | (go_at_call 12; with_reducible refine (c2.out _ ?ht).mono ?_; (case ht => first | exact HT.out | exact HT.out.below (Below.refl _ _).drew | exact HT.out.below ((Below.refl _ _).drew.alloc (Nat.le_refl _) _) | exact HT.out.below ((Below.refl _ _).alloc (Nat.le_refl _) _).drew); rintro e w' ⟨rfl, rfl⟩)
    | (go_at_call 9; refine (AW.out _ ?ht).mono ?_; (case ht => first | exact HT.out | exact HT.out.below (Below.refl _ _).drew | exact HT.out.below ((Below.refl _ _).drew.alloc (Nat.le_refl _) _) | exact HT.out.below ((Below.refl _ _).alloc (Nat.le_refl _) _).drew); rintro e w3 ⟨rfl, hb3⟩))
  all_goals
    have hbw : Below W.heap.size W w3 := (((Below.refl _ _).alloc (Nat.le_refl _) _).drew).trans (hb3.mono (by simp))
    clear hb3
    go_wp2
    go_returns
    exact ⟨rfl, hbw⟩
end Go.Proofs.YtmgglbnadkkedaaDoor
