/-
  OF NO PROGRAM: the text of a set, and that Parse's plain function takes it back: prs (txt s) = some s; and where prs answers a set, the text was that set's.
-/
import Derived.Test.YtfmjekfgfkcleaaDoorBsParse
import Derived.Test.YtfmjekfgfkcleaaDoorBsCtz
import Derived.Lib.Join
namespace Go.Proofs.YtfmjekfgfkcleaaDoor
open Go.Bs

/-- The numeral of an element. -/
def dg (z : Int) : List UInt8 := Lib.decDigits z.toNat
/-- The elements' numerals with commas between them. -/
def jn (zs : List Int) : List UInt8 := Lib.join (zs.map dg) [44]
/-- The text of a set. -/
def txt (s : Nat) : List UInt8 := if els s = [] then [45] else jn (els s)

theorem dec_one {n : Nat} (h : n < 10) : Lib.decDigits n = [UInt8.ofNat (48 + n)] := by rw [Lib.decDigits, dif_pos h]
theorem dec_two {n : Nat} (h : 10 ≤ n) (h1 : n < 100) : Lib.decDigits n = [UInt8.ofNat (48 + n / 10), UInt8.ofNat (48 + n % 10)] := by
  rw [Lib.decDigits, dif_neg (by omega), dec_one (by omega)]; rfl

/-- The numeral by cases, for the kernel. -/
def dk (n : Nat) : List UInt8 := if n < 10 then [UInt8.ofNat (48 + n)] else [UInt8.ofNat (48 + n / 10), UInt8.ofNat (48 + n % 10)]
theorem dk_eq {n : Nat} (h : n < 64) : Lib.decDigits n = dk n := by
  unfold dk; split
  · exact dec_one ‹_›
  · exact dec_two (by omega) (by omega)

theorem dk_atoi : ∀ n : Fin 64, Lib.atoiAll (dk n.val) = .ok (n.val : Int) := by decide +kernel
theorem dk_cma : ∀ n : Fin 64, ∀ b ∈ dk n.val, b ≠ 44 := by decide +kernel
theorem dk_head : ∀ n : Fin 64, (dk n.val).head? ≠ some 45 ∧ 1 ≤ (dk n.val).length ∧ (dk n.val).length ≤ 2 := by decide +kernel

/-- An element's number. -/
def In (z : Int) : Prop := 0 ≤ z ∧ z < 64

theorem dg_dk {z : Int} (h : In z) : dg z = dk z.toNat := dk_eq (by have := h.1; have := h.2; omega)
theorem dg_elm {z : Int} (h : In z) : elm (dg z) = some z.toNat := by
  have h0 := h.1; have h1 := h.2
  have ha := dk_atoi ⟨z.toNat, by omega⟩
  have e : Lib.atoiAll (dg z) = .ok (z.toNat : Int) := by rw [dg_dk h]; exact ha
  rw [elm_ok e, if_pos ⟨by omega, by omega, rfl⟩]; rfl
theorem dg_cma {z : Int} (h : In z) : ∀ b ∈ dg z, b ≠ 44 := by
  have h0 := h.1; have h1 := h.2
  rw [dg_dk h]; exact dk_cma ⟨z.toNat, by omega⟩
theorem dg_head {z : Int} (h : In z) : (dg z).head? ≠ some 45 ∧ 1 ≤ (dg z).length ∧ (dg z).length ≤ 2 := by
  have h0 := h.1; have h1 := h.2
  rw [dg_dk h]; exact dk_head ⟨z.toNat, by omega⟩

theorem cma_none : ∀ {l : List UInt8}, (∀ b ∈ l, b ≠ 44) → cma l = -1
  | [], _ => rfl
  | b :: l, h => by
    have ih := cma_none (l := l) fun x hx => h x (List.mem_cons_of_mem _ hx)
    have hb : (b == 44) = false := by simpa using h b (List.mem_cons_self ..)
    unfold cma at *
    simp [Lib.indexByte, hb, ih]
theorem cma_app : ∀ {l : List UInt8} (r : List UInt8), (∀ b ∈ l, b ≠ 44) → cma (l ++ 44 :: r) = l.length
  | [], _, _ => rfl
  | b :: l, r, h => by
    have ih := cma_app (l := l) r fun x hx => h x (List.mem_cons_of_mem _ hx)
    have hb : (b == 44) = false := by simpa using h b (List.mem_cons_self ..)
    unfold cma at *
    have : ¬ ((l.length : Int) == -1) = true := by simp
    simp only [List.cons_append, Lib.indexByte, hb, ih]
    rw [if_neg (by simp), if_neg this]; simp
theorem cma_split : ∀ {l : List UInt8} {k : Nat}, cma l = k → l = l.take k ++ 44 :: l.drop (k + 1)
  | [], k, h => by simp [cma, Lib.indexByte] at h
  | b :: l, k, h => by
    have hge := (cma_lt l).1
    have hd : cma (b :: l) = if b == 44 then 0 else if cma l == -1 then -1 else cma l + 1 := rfl
    rw [hd] at h
    split at h
    · rename_i hb
      obtain rfl : k = 0 := by omega
      have : b = 44 := by simpa using hb
      simp [this]
    · split at h
      · omega
      · rename_i h1
        have h1 : ¬ cma l = -1 := by simpa using h1
        obtain ⟨j, rfl⟩ : ∃ j, k = j + 1 := ⟨k - 1, by omega⟩
        have := cma_split (l := l) (k := j) (by omega)
        simp only [List.take_succ_cons, List.drop_succ_cons, List.cons_append]
        rw [← this]

theorem jn_one (z : Int) : jn [z] = dg z := by unfold jn; exact Lib.join_one ..
theorem jn_cons (z y : Int) (r : List Int) : jn (z :: y :: r) = dg z ++ 44 :: jn (y :: r) := by
  unfold jn
  rw [List.map_cons, Lib.join_cons, List.map_cons, Lib.join_cons]
  simp [Lib.joinTail]

theorem hdw_one {z : Int} (h : In z) : hdw (dg z) = dg z ∧ mor (dg z) = false := by
  have := cma_none (dg_cma h); simp [hdw, mor, this]
theorem hdw_more {z : Int} (h : In z) (r : List UInt8) : hdw (dg z ++ 44 :: r) = dg z ∧ mor (dg z ++ 44 :: r) = true ∧ tlw (dg z ++ 44 :: r) = r := by
  have e := cma_app r (dg_cma h)
  have hn : ¬ ((dg z).length : Int) = -1 := by omega
  refine ⟨?_, ?_, ?_⟩
  · simp [hdw, e, hn]
  · simp [mor, e, hn]
  · simp [tlw, e, hn]

/-- Parse's loop over the text of an ascending list. -/
theorem prl_jn : ∀ (r : List Int) (z : Int) (f set least : Nat), (∀ x ∈ z :: r, In x) → (z :: r).Pairwise (· < ·) → (least : Int) ≤ z → r.length < f → prl f (jn (z :: r)) set least = some ((z :: r).foldl wth set)
  | [], z, f, set, least, hin, _, hz, hf => by
    obtain ⟨f, rfl⟩ : ∃ g, f = g + 1 := ⟨f - 1, by omega⟩
    have hi := hin z (List.mem_cons_self ..)
    have h0 := hi.1
    have e := hdw_one hi
    rw [jn_one, prl_last (by rw [e.1]; exact dg_elm hi) (by omega) e.2, show ((z.toNat : Nat) : Int) = z from by omega]; rfl
  | y :: r, z, f, set, least, hin, hp, hz, hf => by
    obtain ⟨f, rfl⟩ : ∃ g, f = g + 1 := ⟨f - 1, by omega⟩
    have hi := hin z (List.mem_cons_self ..)
    have h0 := hi.1
    rw [jn_cons]
    have e := hdw_more hi (jn (y :: r))
    have hlt : z < y := (List.pairwise_cons.1 hp).1 y (List.mem_cons_self ..)
    rw [prl_more (by rw [e.1]; exact dg_elm hi) (by omega) e.2.1, e.2.2, prl_jn r y f _ _ (fun x hx => hin x (List.mem_cons_of_mem _ hx)) (List.pairwise_cons.1 hp).2 (by omega) (by simp at hf; omega), show ((z.toNat : Nat) : Int) = z from by omega]
    rfl

/-- Where Parse's loop answers a set, the text was an ascending list's. -/
theorem prl_some : ∀ (f : Nat) (l : List UInt8) (set least y : Nat), prl f l set least = some y →
    ∃ z r, l = jn (z :: r) ∧ y = (z :: r).foldl wth set ∧ (∀ x ∈ z :: r, In x ∧ (least : Int) ≤ x) ∧ (z :: r).Pairwise (· < ·)
  | 0, _, _, _, _, h => by cases h
  | f + 1, l, set, least, y, h => by
    cases he : elm (hdw l) with
    | none => rw [prl_none he] at h; cases h
    | some i =>
      by_cases hlt : i < least
      · rw [prl_less he hlt] at h; cases h
      · have hi : i < 64 ∧ dg i = hdw l := by
          unfold elm at he
          split at he
          · split at he
            · rename_i v _ hh
              injection he with he
              subst he
              exact ⟨by omega, by unfold dg; rw [Int.toNat_natCast]; exact hh.2.2⟩
            · cases he
          · cases he
        have hin : In (i : Int) := ⟨by omega, by omega⟩
        cases hm : mor l with
        | false =>
          rw [prl_last he hlt hm] at h
          injection h with h
          have hc : cma l = -1 := by simpa [mor] using hm
          refine ⟨i, [], ?_, h.symm, ?_, List.pairwise_singleton ..⟩
          · rw [jn_one, hi.2]; simp [hdw, hc]
          · intro x hx
            obtain rfl : x = i := by simpa using hx
            exact ⟨hin, by omega⟩
        | true =>
          rw [prl_more he hlt hm] at h
          have hc : ¬ cma l = -1 := by simpa [mor] using hm
          obtain ⟨k, hk⟩ : ∃ k : Nat, cma l = k := ⟨(cma l).toNat, by have := (cma_lt l).1; omega⟩
          have hs := cma_split hk
          obtain ⟨z, r, hl, hy, hall, hp⟩ := prl_some f _ _ _ _ h
          refine ⟨i, z :: r, ?_, hy, ?_, ?_⟩
          · rw [jn_cons, ← hl, hi.2]
            rw [hdw, tlw, if_neg hc, if_neg hc, hk, Int.toNat_natCast]
            exact hs
          · intro x hx
            rcases List.mem_cons.1 hx with rfl | hx
            · exact ⟨hin, by omega⟩
            · have := hall x hx; exact ⟨this.1, by have := this.2; omega⟩
          · exact List.pairwise_cons.2 ⟨fun x hx => by have := (hall x hx).2; omega, hp⟩

/-! folding -/
theorem fold_testBit (j : Nat) : ∀ (zs : List Int) (acc : Nat), (∀ z ∈ zs, In z) → (zs.foldl wth acc).testBit j = (acc.testBit j || zs.any fun z => decide (z.toNat = j))
  | [], acc, _ => by simp
  | z :: zs, acc, h => by
    rw [List.foldl_cons, fold_testBit j zs _ fun x hx => h x (List.mem_cons_of_mem _ hx), testBit_wth, List.any_cons, Bool.or_assoc]
    have := h z (List.mem_cons_self ..)
    congr 2
    rw [Bool.eq_iff_iff]; simp [this.1, this.2]
theorem fold_lt : ∀ (zs : List Int) (acc : Nat), acc < 18446744073709551616 → zs.foldl wth acc < 18446744073709551616
  | [], _, h => h
  | z :: zs, _, h => fold_lt zs _ (wth_lt h z)
theorem els_in {s : Nat} {z : Int} (h : z ∈ els s) : In z := by
  have := (elk_mem s 64 z).1 h; exact ⟨this.1, by omega⟩
theorem fold_els {s : Nat} (hs : s < 18446744073709551616) : (els s).foldl wth 0 = s := by
  apply Nat.eq_of_testBit_eq
  intro j
  rw [fold_testBit j _ _ fun z hz => els_in hz, Nat.zero_testBit, Bool.false_or, Bool.eq_iff_iff, List.any_eq_true]
  constructor
  · rintro ⟨z, hz, hd⟩
    obtain ⟨h4, h5, h6⟩ := (elk_mem s 64 z).1 hz
    have := of_decide_eq_true hd
    rw [has_in h4 (by omega), this] at h6
    exact h6
  · intro h
    have hlt : j < 64 := by
      apply Nat.lt_of_not_le
      intro hle
      have h2 : s < 2 ^ j := Nat.lt_of_lt_of_le hs (show 2 ^ 64 ≤ 2 ^ j from Nat.pow_le_pow_right (by decide) hle)
      rw [Nat.testBit_lt_two_pow h2] at h; cases h
    exact ⟨(j : Int), (elk_mem s 64 _).2 ⟨by omega, by omega, by rw [has_in (by omega) (by omega)]; exact h⟩, decide_eq_true rfl⟩
theorem elk_up (s : Nat) : ∀ k, (elk s k).Pairwise (· < ·)
  | 0 => List.Pairwise.nil
  | k + 1 => by
    cases h : has s k
    · rw [elk_no h]; exact elk_up s k
    · rw [elk_yes h]
      refine List.pairwise_append.2 ⟨elk_up s k, List.pairwise_singleton .., fun a ha b hb => ?_⟩
      have := (elk_mem s k a).1 ha
      have : b = k := by simpa using hb
      omega
/-- Two ascending lists with the same members are the same. -/
theorem up_ext : ∀ {a b : List Int}, a.Pairwise (· < ·) → b.Pairwise (· < ·) → (∀ x, x ∈ a ↔ x ∈ b) → a = b
  | [], [], _, _, _ => rfl
  | [], y :: b, _, _, h => absurd ((h y).2 (List.mem_cons_self ..)) (by simp)
  | x :: a, [], _, _, h => absurd ((h x).1 (List.mem_cons_self ..)) (by simp)
  | x :: a, y :: b, ha, hb, h => by
    have ha := List.pairwise_cons.1 ha
    have hb := List.pairwise_cons.1 hb
    have hxy : x = y := by
      have h1 := (h x).1 (List.mem_cons_self ..)
      have h2 := (h y).2 (List.mem_cons_self ..)
      rcases List.mem_cons.1 h1 with e | h1
      · exact e
      · rcases List.mem_cons.1 h2 with e | h2
        · exact e.symm
        · have := ha.1 y h2; have := hb.1 x h1; omega
    subst hxy
    have := up_ext ha.2 hb.2 fun z => by
      constructor
      · intro hz
        rcases List.mem_cons.1 ((h z).1 (List.mem_cons_of_mem _ hz)) with e | h1
        · have := ha.1 z hz; omega
        · exact h1
      · intro hz
        rcases List.mem_cons.1 ((h z).2 (List.mem_cons_of_mem _ hz)) with e | h1
        · have := hb.1 z hz; omega
        · exact h1
    rw [this]

theorem jn_head {z : Int} (h : In z) (r : List Int) : jn (z :: r) ≠ [45] := by
  have hh := dg_head h
  intro e
  cases hd : dg z with
  | nil => rw [hd] at hh; simp at hh
  | cons b t =>
    have hb : b ≠ 45 := by rw [hd] at hh; simpa using hh.1
    cases r with
    | nil => rw [jn_one, hd] at e; injection e with e1; exact hb e1
    | cons y r => rw [jn_cons, hd] at e; injection e with e1; exact hb e1
theorem jn_len : ∀ (r : List Int) (z : Int), r.length ≤ (jn (z :: r)).length
  | [], _ => Nat.zero_le _
  | y :: r, z => by rw [jn_cons]; have := jn_len r y; simp; omega
theorem jn_le : ∀ (zs : List Int), (∀ z ∈ zs, In z) → (jn zs).length ≤ 3 * zs.length
  | [], _ => by simp [jn, Lib.join_nil]
  | [z], h => by rw [jn_one]; have := (dg_head (h z (List.mem_cons_self ..))).2.2; simp; omega
  | z :: y :: r, h => by
    rw [jn_cons]
    have := jn_le (y :: r) fun x hx => h x (List.mem_cons_of_mem _ hx)
    have := (dg_head (h z (List.mem_cons_self ..))).2.2
    simp at *; omega
theorem txt_le (s : Nat) : (txt s).length ≤ 192 := by
  unfold txt; split
  · decide
  · have := jn_le (els s) fun z hz => els_in hz
    have := elk_len s 64
    unfold els at *; omega

theorem els_nil0 {s : Nat} (h : els s = []) (hs : s < 18446744073709551616) : s = 0 := by
  by_cases h0 : s = 0
  · exact h0
  · rw [els_cons h0 hs] at h; cases h

/-- The text of a set is parsed as the set. -/
theorem prs_txt {s : Nat} (hs : s < 18446744073709551616) : prs (txt s) = some s := by
  unfold txt; split
  · rename_i h
    rw [els_nil0 h hs]; rfl
  · cases he : els s with
    | nil => contradiction
    | cons z r =>
      have hin : ∀ x ∈ z :: r, In x := fun x hx => els_in (s := s) (by rw [he]; exact hx)
      have hz := hin z (List.mem_cons_self ..)
      unfold prs
      rw [if_neg (jn_head hz r), prl_jn r z _ 0 0 hin (by rw [← he]; exact elk_up s 64) (by have := hz.1; omega) (by have := jn_len r z; omega), ← he, fold_els hs]
/-- A text that is accepted is the text of its set. -/
theorem txt_prs {l : List UInt8} {s : Nat} (h : prs l = some s) : txt s = l := by
  unfold prs at h
  split at h
  · rename_i hl
    injection h with h
    subst h
    rw [hl]; unfold txt; rw [if_pos els_zero]
  · obtain ⟨z, r, hl, hy, hall, hp⟩ := prl_some _ _ _ _ _ h
    have hin : ∀ x ∈ z :: r, In x := fun x hx => (hall x hx).1
    have e : els s = z :: r := by
      refine up_ext (elk_up s 64) hp fun x => ?_
      have hm := elk_mem s 64 x
      unfold els
      rw [hm]
      have hb : ∀ j : Nat, s.testBit j = (z :: r).any fun z => decide (z.toNat = j) := fun j => by
        rw [hy, fold_testBit j _ _ hin, Nat.zero_testBit, Bool.false_or]
      constructor
      · rintro ⟨h0, h1, h2⟩
        rw [has_in h0 (by omega), hb, List.any_eq_true] at h2
        obtain ⟨y, hy, hd⟩ := h2
        have := of_decide_eq_true hd
        have hyi := hin y hy
        obtain rfl : y = x := by have := hyi.1; omega
        exact hy
      · intro hx
        have hxi := hin x hx
        refine ⟨hxi.1, by have := hxi.2; omega, ?_⟩
        rw [has_in hxi.1 hxi.2, hb, List.any_eq_true]
        exact ⟨x, hx, decide_eq_true rfl⟩
    unfold txt
    rw [e, if_neg (by simp), ← hl]
end Go.Proofs.YtfmjekfgfkcleaaDoor
