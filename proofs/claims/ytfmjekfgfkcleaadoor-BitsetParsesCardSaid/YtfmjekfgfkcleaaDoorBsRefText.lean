/-
  THE WALK of the reference's Text.
-/
import Derived.Test.YtfmjekfgfkcleaaDoorBsDecimal
import Derived.Test.YtfmjekfgfkcleaaDoorBsEls
namespace Go.Proofs.YtfmjekfgfkcleaaDoor
open Go.RowKit Go.Bs

theorem jn_snoc : ∀ (zs : List Int) (z : Int), zs ≠ [] → jn (zs ++ [z]) = jn zs ++ [44] ++ dg z
  | [], _, h => absurd rfl h
  | [y], z, _ => by simp [jn_cons, jn_one]
  | y :: x :: r, z, _ => by
    have ih := jn_snoc (x :: r) z (by simp)
    rw [List.cons_append, List.cons_append, jn_cons, ← List.cons_append, ih, jn_cons]; simp
theorem jn_take {zs : List Int} {k : Nat} (h0 : 1 ≤ k) (h : k < zs.length) : jn (zs.take (k + 1)) = jn (zs.take k) ++ [44] ++ dg zs[k] := by
  rw [List.take_succ_eq_append_getElem h, jn_snoc]
  intro e
  have := congrArg List.length e
  rw [List.length_take, List.length_nil] at this; omega

theorem cat3 (a b : List UInt8) : (⟨a.toArray⟩ ++ ⟨#[44]⟩ ++ ⟨b.toArray⟩ : ByteArray) = ⟨(a ++ [44] ++ b).toArray⟩ := by
  apply ByteArray.ext
  simp [ByteArray.data_append]

set_option maxRecDepth 100000 in
set_option maxHeartbeats 1000000 in
theorem refText_any (s : Nat) (w : World) (hs : s < 18446744073709551616) :
    Calls Tryd.prog 30 #[.int .u64 s] w fun e w' => e = .returned (.string ⟨(txt s).toArray⟩) ∧ Below w.heap.size w w' := by
  have hE : ∀ w, Calls Tryd.prog 19 #[.int .u64 s] w fun e w' => ElsPost s w e w' := fun w => refElements_any s w hs
  have hl64 : (els s).length ≤ 64 := elk_len s 64
  by_cases hnil : els s = []
  · have HT : Hid (txt s = [45]) := if_pos hnil
    have hlen : (els s).length = 0 := by rw [hnil]; rfl
    clear hs hnil
    go_enter Tryd.func30, Tryd.ntmps30
    go_wp2_with (go_at_call 19; refine (hE _).mono ?_; rintro e w1 ⟨g, cap, rfl, hc, hg, hg2, hb⟩)
    go_ret
    exact ⟨by rw [HT.out]; rfl, hb⟩
  · have HT : Hid (txt s = jn (els s)) := if_neg hnil
    have hlen : 0 < (els s).length := List.length_pos_iff.2 hnil
    have HZ : Hid (∀ (k : Nat) (h : k < (els s).length) (wx : World), Calls Tryd.prog 42 #[.int .i64 (els s)[k]] wx fun e w' => e = .returned (.string ⟨(dg (els s)[k]).toArray⟩) ∧ Below wx.heap.size wx w') := fun k h wx => by
      have hr := els_range h
      generalize (els s)[k] = z at hr
      obtain ⟨n, rfl⟩ : ∃ n : Nat, z = n := ⟨z.toNat, by omega⟩
      exact decimal_any n (by omega) wx
    have HJ1 : Hid (∀ h, jn ((els s).take 1) = dg ((els s)[0]'h)) := fun h => by
      rw [List.take_succ_eq_append_getElem h, List.take_zero, List.nil_append, jn_one]
    have HJL : Hid (∀ k, (jn ((els s).take k)).length ≤ 192) := fun k => by
      have := jn_le ((els s).take k) fun z hz => els_in (List.mem_of_mem_take hz)
      rw [List.length_take] at this; omega
    clear hs hnil
    go_enter Tryd.func30, Tryd.ntmps30
    go_wp2_with (first | (go_at_call 19; refine (hE _).mono ?_; rintro e w1 ⟨g, cap, rfl, hc, hg, hg2, hb⟩; have HC := Lib.hid hc; have hc0 := hc 0 hlen; have hz0 := HZ.out 0 hlen w1; have HJ0 := Lib.hid (HJ1.out hlen); clear hc; generalize (els s)[0] = z0 at hc0 hz0 HJ0) | (go_at_call 42; refine hz0.mono ?_; rintro e w2 ⟨rfl, hb2⟩))
    go_loopw [4, 5] (fun t i wr => ∃ k : Nat, 1 ≤ k ∧ k ≤ (els s).length ∧ i = .int .i64 k ∧ t = .string ⟨(jn ((els s).take k)).toArray⟩ ∧ Below w1.heap.size w1 wr) (fun _ i _ => (els s).length - (intOf i).toNat)
    case atStart => exact ⟨1, Nat.le_refl _, hlen, rfl, by rw [HJ0.out], hb2⟩
    case round =>
      rename_i wr
      obtain ⟨k, hk0, hk, rfl, rfl, hbr⟩ := hrel
      by_cases hlt : k < (els s).length
      · have hck := (hbr.cell (p := ⟨g, k, none⟩) hg2).trans (HC.out k hlt)
        have hzk := HZ.out k hlt wr
        have HS := Lib.hid (jn_take hk0 hlt)
        have hL : (dg (els s)[k]).length ≤ 2 := (dg_head (els_in (List.getElem_mem hlt))).2.2
        have hL0 := HJL.out k
        generalize (els s)[k] = z at hck hzk HS hL
        go_wp2_with (go_at_call 42; refine hzk.mono ?_; rintro e w3 ⟨rfl, hb3⟩)
        go_roundw
        case rel => exact ⟨k + 1, by omega, hlt, by go_num, by rw [HS.out, cat3], hbr.trans (hb3.mono hbr.size)⟩
        case measure => simp [intOf]; omega
      · obtain rfl : k = (els s).length := by omega
        go_wp2
        go_ret
        exact ⟨by rw [HT.out, ← List.take_length (l := els s)]; simp, hb.trans (hbr.mono hb.size)⟩
end Go.Proofs.YtfmjekfgfkcleaaDoor
