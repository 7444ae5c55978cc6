/-
  THE WALK of bitset.Parse: what it answers for every text, as a plain function over the text's bytes.
-/
import Derived.Test.YtfmjekfgfkcleaaDoorBsElem
namespace Go.Proofs.YtfmjekfgfkcleaaDoor
open Go.RowKit Go.Bs

/-- The word ahead of the first ',', the rest behind it, and whether there is a ','. -/
def hdw (l : List UInt8) : List UInt8 := if cma l = -1 then l else l.take (cma l).toNat
def tlw (l : List UInt8) : List UInt8 := if cma l = -1 then [] else l.drop ((cma l).toNat + 1)
def mor (l : List UInt8) : Bool := !decide (cma l = -1)

/-- What the loop of Parse comes to: the set, or none where it answers ErrForm. -/
def prl : Nat → List UInt8 → Nat → Nat → Option Nat
  | 0, _, _, _ => none
  | f + 1, l, set, least =>
    match elm (hdw l) with
    | none => none
    | some i => if i < least then none else if mor l then prl f (tlw l) (wth set i) (i + 1) else some (wth set i)
/-- What Parse answers: the set, or none where it answers ErrForm. -/
def prs (l : List UInt8) : Option Nat := if l = [45] then some 0 else prl (l.length + 1) l 0 0

/-- The loop's measure. -/
def pms (r m : Value) : Nat := match r, m with | .string s, .bool b => s.size + (if b then 1 else 0) | _, _ => 0

/-- What Parse answers, and what becomes of the world. -/
def PrsPost (R : Option Nat) (w : World) (e : Ending) (w' : World) : Prop :=
  Below w.heap.size w w' ∧ ((R = none ∧ e = .returned (.tuple #[.int .u64 0, .int .i64 3])) ∨ ∃ v : Nat, R = some v ∧ v < 18446744073709551616 ∧ e = .returned (.tuple #[.int .u64 v, .int .i64 0]))

/-- What holds at the head of every round. -/
def PrsRel (R : Option Nat) (w : World) (n : Nat) (set least rest more : Value) (wr : World) : Prop :=
  ∃ (s k f : Nat) (r : ByteArray) (m : Bool), set = .int .u64 s ∧ least = .int .i64 k ∧ rest = .string r ∧ more = .bool m ∧
    s < 18446744073709551616 ∧ k ≤ 64 ∧ r.size ≤ n ∧ Below w.heap.size w wr ∧ ErrVars wr ∧ (if m then prl f r.data.toList s k = R ∧ r.size < f else R = some s)

theorem size_eq (s : ByteArray) : s.data.toList.length = s.size := Array.length_toList

theorem below_drewN {B : Nat} {w w' : World} (h : Below B w w') (n : Nat) : Below B w (w'.drewN n) := ⟨h.os, h.tape, h.output, h.size, h.block⟩
theorem ErrVars.drewN {w : World} (h : ErrVars w) (n : Nat) : ErrVars (w.drewN n) := h.below (below_drewN (Below.refl _ _) n)

theorem hdw_miss {l : List UInt8} (h : cma l = -1) : hdw l = l ∧ tlw l = [] ∧ mor l = false := by simp [hdw, tlw, mor, h]
theorem hdw_hit {s : ByteArray} {i : Nat} (h : cma s.data.toList = i) (hi : i < s.size) :
    hdw s.data.toList = (s.extract 0 i).data.toList ∧ tlw s.data.toList = (s.extract (i + 1) s.size).data.toList ∧ mor s.data.toList = true ∧ (s.extract (i + 1) s.size).size < s.size := by
  have hne : ¬ ((i : Int) = -1) := by omega
  refine ⟨?_, ?_, ?_, ?_⟩
  · simp [hdw, h, hne]
  · simp only [tlw, h, hne, if_false, Int.toNat_natCast]
    rw [ByteArray.data_extract, Array.toList_extract, List.extract_eq_take_drop]
    exact (List.take_of_length_le (by rw [List.length_drop, size_eq]; omega)).symm
  · simp [mor, h, hne]
  · simp; omega

theorem prl_none {f x k : Nat} {l : List UInt8} (h : elm (hdw l) = none) : prl (f + 1) l x k = none := by simp only [prl, h]
theorem prl_less {f x k v : Nat} {l : List UInt8} (h : elm (hdw l) = some v) (hv : v < k) : prl (f + 1) l x k = none := by simp only [prl, h, if_pos hv]
theorem prl_more {f x k v : Nat} {l : List UInt8} (h : elm (hdw l) = some v) (hv : ¬ v < k) (hm : mor l = true) : prl (f + 1) l x k = prl f (tlw l) (wth x v) (v + 1) := by simp only [prl, h, if_neg hv, hm, if_true]
theorem prl_last {f x k v : Nat} {l : List UInt8} (h : elm (hdw l) = some v) (hv : ¬ v < k) (hm : mor l = false) : prl (f + 1) l x k = some (wth x v) := by
  simp only [prl, h, if_neg hv, hm]; rfl

set_option maxHeartbeats 1000000 in
theorem parse_any (s : ByteArray) (w : World) (hs : s.size ≤ 281474976710656) (hv : ErrVars w) :
    Calls Tryd.prog 29 #[.string s] w fun e w' => PrsPost (prs s.data.toList) w e w' := by
  obtain ⟨R, hR⟩ : ∃ R, R = prs s.data.toList := ⟨_, rfl⟩
  rw [← hR]
  by_cases he : s.data.toList = [45]
  · have hd : (s.toList == [45]) = true := by rw [Lib.toList_data, he]; rfl
    have HR : Hid (R = some 0) := by unfold Hid; rw [hR, prs, if_pos he]
    clear hR he
    go_enter Tryd.func29, Tryd.ntmps29
    go_wp2
    go_ret2
    exact ⟨Below.refl _ _, .inr ⟨0, HR.out, by omega, rfl⟩⟩
  · have hd : (s.toList == [45]) = false := by
      rw [Lib.toList_data]; simpa using he
    have HR : Hid (prl (s.size + 1) s.data.toList 0 0 = R) := by unfold Hid; rw [hR, prs, if_neg he, size_eq]
    clear hR he
    go_enter Tryd.func29, Tryd.ntmps29
    go_wp2
    go_loopw [4, 5, 6, 7] (fun set least rest more wr => PrsRel R w 281474976710656 set least rest more wr) (fun _ _ rest more _ => pms rest more)
    case atStart => exact ⟨0, 0, s.size + 1, s, true, rfl, rfl, rfl, rfl, by omega, by omega, hs, Below.refl _ _, hv, HR.out, by omega⟩
    case round =>
      rename_i wr
      obtain ⟨x, k, f, r, m, rfl, rfl, rfl, rfl, hx, hk, hr, hb, hE, hm⟩ := hrel
      have HM := Lib.hid hm
      clear hm hv hd HR
      cases m with
      | false =>
        go_wp2
        go_ret2
        exact ⟨hb, .inr ⟨x, HM.out, hx, rfl⟩⟩
      | true =>
        have hC := cut_any r wr (by omega)
        obtain ⟨f, rfl⟩ : ∃ g, f = g + 1 := ⟨f - 1, by have := HM.out.2; omega⟩
        have HR := Lib.hid HM.out.1
        have hf : r.size < f + 1 := HM.out.2
        clear HM
        go_wp2_with (go_at_call 40; refine hC.mono ?_; rintro e w' ⟨⟨n, rfl⟩, ⟨h1, rfl⟩ | ⟨i, h1, h2, rfl⟩⟩)
        · have HH := Lib.hid (hdw_miss h1)
          clear h1 hC
          have hE1 : ErrVars (wr.drewN n) := hE.drewN n
          have hb1 : Below w.heap.size w (wr.drewN n) := below_drewN hb n
          clear hE hb
          refine (element_any r _ hr hE1).mono ?_
          rintro e w2 ⟨hb2, ⟨hn, rfl⟩ | ⟨v, hn, hv, rfl⟩⟩
          · have HN := Lib.hid hn
            clear hn
            go_wp2
            go_ret2
            exact ⟨hb1.trans (hb2.mono hb1.size), .inl ⟨by rw [← HR.out]; exact prl_none (by rw [HH.out.1]; exact HN.out), rfl⟩⟩
          · have HN := Lib.hid hn
            clear hn
            by_cases hlt : v < k
            · go_wp2
              go_ret2
              exact ⟨hb1.trans (hb2.mono hb1.size), .inl ⟨by rw [← HR.out]; exact prl_less (by rw [HH.out.1]; exact HN.out) hlt, rfl⟩⟩
            · go_wp2_with (go_at_call 13; refine (with_any _ _ _ hx).mono ?_; rintro e w' ⟨rfl, rfl⟩)
              go_roundw
              case rel => exact ⟨wth x v, v + 1, 0, ByteArray.empty, false, rfl, by go_num, rfl, rfl, wth_lt hx v, by omega, by decide, hb1.trans (hb2.mono hb1.size), hE1.below hb2, by rw [← HR.out]; exact prl_last (by rw [HH.out.1]; exact HN.out) hlt HH.out.2.2⟩
              case measure => simp [pms]
        · have HH := Lib.hid (hdw_hit h1 h2)
          clear h1 hC
          have hE1 : ErrVars (wr.drewN n) := hE.drewN n
          have hb1 : Below w.heap.size w (wr.drewN n) := below_drewN hb n
          clear hE hb
          have hr2 : (r.extract 0 i).size ≤ 281474976710656 := by simp; omega
          refine (element_any (r.extract 0 i) _ hr2 hE1).mono ?_
          rintro e w2 ⟨hb2, ⟨hn, rfl⟩ | ⟨v, hn, hv, rfl⟩⟩
          · have HN := Lib.hid hn
            clear hn
            go_wp2
            go_ret2
            exact ⟨hb1.trans (hb2.mono hb1.size), .inl ⟨by rw [← HR.out]; exact prl_none (by rw [HH.out.1]; exact HN.out), rfl⟩⟩
          · have HN := Lib.hid hn
            clear hn
            by_cases hlt : v < k
            · go_wp2
              go_ret2
              exact ⟨hb1.trans (hb2.mono hb1.size), .inl ⟨by rw [← HR.out]; exact prl_less (by rw [HH.out.1]; exact HN.out) hlt, rfl⟩⟩
            · go_wp2_with (go_at_call 13; refine (with_any _ _ _ hx).mono ?_; rintro e w' ⟨rfl, rfl⟩)
              go_roundw
              case rel => exact ⟨wth x v, v + 1, f, r.extract (i + 1) r.size, true, rfl, by go_num, rfl, rfl, wth_lt hx v, by omega, by have := HH.out.2.2.2; omega, hb1.trans (hb2.mono hb1.size), hE1.below hb2, by rw [← HR.out, prl_more (by rw [HH.out.1]; exact HN.out) hlt HH.out.2.2.1, HH.out.2.1], by have := HH.out.2.2.2; omega⟩
              case measure => have := HH.out.2.2.2; simp only [pms]; omega
end Go.Proofs.YtfmjekfgfkcleaaDoor
