/-
  WALKS of the landed functions of layer 5: Parse.
-/
import Derived.Test.YtnbcphpjgahgoaaAdDoneC
import Derived.Test.YtnbcphpjgahgoaaAdText2
import Derived.Test.YtnbcphpjgahgoaaShelf
namespace Go.Proofs.Ytnbcphpjgahgoaa
open Go.RowKit Go.Wr Go.Ad

theorem index5_any (c : UInt8) (w : World) :
    Calls Try.prog 34 #[.string ⟨#[48, 49, 50, 51, 52, 53, 54, 55, 56, 57, 97, 98, 99, 100, 101, 102]⟩, .int .u8 (c.toNat : Int)] w fun e w' => e = .returned (.int .i64 (if dig c < 16 then ((dig c : Nat) : Int) else -1)) ∧ w = w' := by
  refine (Try.strings_IndexByte _ _ w).mono ?_
  rintro e w' ⟨rfl, rfl⟩
  refine ⟨?_, rfl⟩
  rw [← index_dig]
  simp

set_option maxRecDepth 100000 in
set_option maxHeartbeats 1000000 in
theorem parse_any (s : ByteArray) (w : World) :
    Calls Try.prog 12 #[.string s] w fun e w' => e = .returned (.tuple #[.int .u64 ((if txt (prz s.data.toList) = s.data.toList then prz s.data.toList else 0 : Nat) : Int), .int .i64 (if txt (prz s.data.toList) = s.data.toList then 0 else 3)]) ∧ w = w' := by
  have hll : s.data.toList.length = s.size := Array.length_toList
  by_cases h17 : s.size = 17
  · have hz : prz s.data.toList = prk s.data.toList 17 := by unfold prz; rw [if_pos (hll.trans h17)]
    have hs17 : (s.size : Int) = 17 := by omega
    have hno : ∀ j, j < 17 → ¬ okc s.data.toList j → (if txt (prz s.data.toList) = s.data.toList then prz s.data.toList else 0) = 0 ∧ (if txt (prz s.data.toList) = s.data.toList then (0 : Int) else 3) = 3 := fun j hj h => by
      have := txt_not _ j hj h
      exact ⟨if_neg this, if_neg this⟩
    have hyes : (∀ j, j < 17 → okc s.data.toList j) → (if txt (prz s.data.toList) = s.data.toList then prz s.data.toList else 0) = prk s.data.toList 17 ∧ (if txt (prz s.data.toList) = s.data.toList then (0 : Int) else 3) = 0 := fun h => by
      have := txt_of_okc _ (hll.trans h17) h
      exact ⟨by rw [if_pos this, hz], if_pos this⟩
    generalize (if txt (prz s.data.toList) = s.data.toList then prz s.data.toList else 0) = r1 at *
    generalize (if txt (prz s.data.toList) = s.data.toList then (0 : Int) else 3) = r2 at *
    have HNO := Lib.hid hno
    have HYES := Lib.hid hyes
    clear hno hyes hz
    go_enter Try.func12, Try.ntmps12
    go_wp2
    go_loop [4, 12] (fun x i => ∃ m : Nat, m ≤ 17 ∧ i = .int .i64 m ∧ x = .int .u64 ((prk s.data.toList m : Nat) : Int) ∧ ∀ j, j < m → okc s.data.toList j) (fun _ i => 17 - (intOf i).toNat)
    case atStart => exact ⟨0, by omega, rfl, rfl, fun j hj => absurd hj (Nat.not_lt_zero _)⟩
    case round =>
      obtain ⟨m, hm, rfl, rfl, hok⟩ := hrel
      have HOK := Lib.hid hok
      clear hok
      by_cases hlt : m < 17
      · have hms : m < s.size := by omega
        have hg : s.data.toList.getD m 0 = s[m]'hms := by
          have h1 : m < s.data.toList.length := by rw [hll]; exact hms
          rw [List.getD_eq_getElem?_getD, List.getElem?_eq_getElem h1, Option.getD_some, Array.getElem_toList]; rfl
        have HP : Hid (prk s.data.toList (m + 1) = if m % 3 < 2 then prk s.data.toList m * 16 + dig (s[m]'hms) % 16 else prk s.data.toList m) := by show prk _ (m + 1) = _; rw [prk, hg]
        have HO : Hid (okc s.data.toList m ↔ if m % 3 < 2 then dig (s[m]'hms) < 16 else s[m]'hms = 58) := by show okc _ m ↔ _; unfold okc; rw [hg]
        have hx : prk s.data.toList m < 281474976710656 := prk_small _ (by omega)
        have D := Lib.hid (fun w => index5_any (s[m]'hms) w)
        have hlt' := Lib.hid hlt
        have hc8 := (s[m]'hms).toNat_lt
        clear hg
        by_cases h3 : m % 3 < 2
        · rw [if_pos h3] at HP HO
          have h3' : ((m : Int) % 3 == 2) = false := beq_eq_false_iff_ne.mpr (by omega)
          clear h3
          generalize prk s.data.toList m = x at hx HP ⊢
          by_cases hd : dig (s[m]'hms) < 16
          · rw [if_pos hd] at D
            have HOR := Lib.hid (or_low4 x (dig (s[m]'hms)) hd hx)
            have HM := Lib.hid (Nat.mod_eq_of_lt hd)
            have HD := Lib.hid (HO.out.2 hd)
            generalize dig (s[m]'hms) = d at *
            clear HO hc8
            go_wp2_with (go_at_call 34; refine (D.out _).mono ?_; rintro e w' ⟨rfl, rfl⟩)
            go_round
            case rel => exact ⟨m + 1, by omega, by go_num, by rw [HP.out, HM.out, HOR.out], fun j hj => by
              by_cases e : j = m
              · rw [e]; exact HD.out
              · exact HOK.out j (by omega)⟩
            case measure => simp [intOf]; omega
          · rw [if_neg hd] at D
            obtain ⟨rfl, rfl⟩ := HNO.out m hlt (fun h => hd (HO.out.1 h))
            clear HO hc8
            go_wp2_with (go_at_call 34; refine (D.out _).mono ?_; rintro e w' ⟨rfl, rfl⟩)
            go_returns
            exact ⟨rfl, rfl⟩
        · rw [if_neg h3] at HP HO
          have h3' : ((m : Int) % 3 == 2) = true := beq_iff_eq.mpr (by omega)
          clear h3
          by_cases hd : s[m]'hms = 58
          · have HD := Lib.hid (HO.out.2 hd)
            have hne : (((s[m]'hms).toNat : Int) != 58) = false := by rw [hd]; rfl
            clear HO hc8 hd
            go_wp2
            go_round
            case rel => exact ⟨m + 1, by omega, by go_num, by rw [HP.out], fun j hj => by
              by_cases e : j = m
              · rw [e]; exact HD.out
              · exact HOK.out j (by omega)⟩
            case measure => simp [intOf]; omega
          · obtain ⟨rfl, rfl⟩ := HNO.out m hlt (fun h => hd (HO.out.1 h))
            have hne : (((s[m]'hms).toNat : Int) != 58) = true := by
              rw [bne_iff_ne]
              intro h
              exact hd (UInt8.toNat_inj.1 (by show _ = 58; omega))
            clear HO hc8 hd
            go_wp2
            go_returns
            exact ⟨rfl, rfl⟩
      · obtain rfl : m = 17 := by omega
        obtain ⟨rfl, rfl⟩ := HYES.out HOK.out
        go_wp2
        go_returns
        exact ⟨rfl, rfl⟩
  · have hb : ((s.size : Int) != 17) = true := by rw [bne_iff_ne]; omega
    have hn : ¬ txt (prz s.data.toList) = s.data.toList := fun h => h17 (by rw [← hll, ← h, txt_len])
    rw [if_neg hn, if_neg hn]
    clear hn h17
    go_enter Try.func12, Try.ntmps12
    go_wp2
    go_returns
    exact ⟨rfl, rfl⟩
end Go.Proofs.Ytnbcphpjgahgoaa
