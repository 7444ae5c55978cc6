/-
  THE WALK of the law's own count of layer 7.
-/
import Derived.Test.YtjfhkheedcpimaaSpProg
namespace Go.Proofs.Ytjfhkheedcpimaa
open Go.RowKit Go.Sp

theorem cnt_in (l : List Sp) (t : Int) (k : Nat) (hk : k < l.length) (h : has l[k] t) : cnt (l.take (k + 1)) t = cnt (l.take k) t + 1 := by
  unfold cnt
  rw [List.take_succ_eq_append_getElem hk, List.countP_append, List.countP_singleton]
  simp [h]
theorem cnt_out (l : List Sp) (t : Int) (k : Nat) (hk : k < l.length) (h : ¬ has l[k] t) : cnt (l.take (k + 1)) t = cnt (l.take k) t := by
  unfold cnt
  rw [List.take_succ_eq_append_getElem hk, List.countP_append, List.countP_singleton]
  simp [h]

set_option maxRecDepth 100000 in
set_option maxHeartbeats 1000000 in
theorem count_any (D : Does) (l : List Sp) (sa : Option Addr) (c : Nat) (t : Int) (w : World) (ht : (Lit.int .i64 t).wf = true) (hl : l.length ≤ 1000000) (h : SpAt w sa l) :
    Calls Try.prog 26 #[.slice sa l.length c, .int .i64 t] w fun e w' => e = .returned (.int .i64 (cnt l t)) ∧ Below w.heap.size w w' := by
  have H1 := Lib.hid h
  have HH := Lib.hid (fun s w => D.has_any s t w ht)
  unfold sv at HH
  clear h
  go_enter Try.func26, Try.ntmps26
  go_wp2
  go_loopw [5, 9] (fun z i wr => ∃ k n : Nat, k ≤ l.length ∧ i = .int .i64 k ∧ z = .int .i64 n ∧ n = cnt (l.take k) t ∧ n ≤ k ∧ SpAt wr sa l ∧ Below w.heap.size w wr) (fun _ i _ => l.length - (intOf i).toNat)
  case atStart => exact ⟨0, 0, Nat.zero_le _, rfl, rfl, rfl, Nat.le_refl _, H1.out, Below.refl _ _⟩
  case round =>
    clear H1
    obtain ⟨k, n, hk, rfl, rfl, hn, hnk, hsp, hb⟩ := hrel
    have HN := Lib.hid hn
    have HSP := Lib.hid hsp
    have HB := Lib.hid hb
    clear hn hsp hb
    by_cases hlt : k < l.length
    · obtain ⟨b, off, rfl, -, h0, h1⟩ := HSP.out k hlt
      obtain ⟨d, hd⟩ : ∃ d, d = decide (has l[k] t) := ⟨_, rfl⟩
      have HHK : Hid (∀ w, Calls Try.prog 14 #[.agg #[.int .i64 l[k].f, .int .i64 l[k].t], .int .i64 t] w fun e w' => e = .returned (.bool d) ∧ Below w.heap.size w w') := fun w => by rw [hd]; exact HH.out l[k] w
      have i0 : (0 : Int) ≤ (k : Int) := by omega
      have i1 : (k : Int) < (l.length : Int) := by omega
      have hlt' := Lib.hid hlt
      by_cases hx : has l[k] t
      · obtain rfl : d = true := by rw [hd]; exact decide_eq_true hx
        clear hd
        have HC := Lib.hid (cnt_in l t k hlt hx)
        clear hx
        generalize l[k].f = f at *
        generalize l[k].t = u at *
        go_wp2_with (go_at_call 14; refine (HHK.out _).mono ?_; rintro e w2 ⟨rfl, hb2⟩; have HSP2 := Lib.hid (HSP.out.below hb2); have HB2 := Lib.hid (HB.out.trans (hb2.mono HB.out.size)); clear hb2)
        go_roundw
        case rel => exact ⟨k + 1, n + 1, hlt'.out, by go_num, by go_num, by rw [HC.out, ← HN.out], by omega, HSP2.out, HB2.out⟩
        case measure => have := hlt'.out; simp [intOf]; omega
      · obtain rfl : d = false := by rw [hd]; exact decide_eq_false hx
        clear hd
        have HC := Lib.hid (cnt_out l t k hlt hx)
        clear hx
        generalize l[k].f = f at *
        generalize l[k].t = u at *
        go_wp2_with (go_at_call 14; refine (HHK.out _).mono ?_; rintro e w2 ⟨rfl, hb2⟩; have HSP2 := Lib.hid (HSP.out.below hb2); have HB2 := Lib.hid (HB.out.trans (hb2.mono HB.out.size)); clear hb2)
        go_roundw
        case rel => exact ⟨k + 1, n, hlt'.out, by go_num, rfl, by rw [HC.out, ← HN.out], by omega, HSP2.out, HB2.out⟩
        case measure => have := hlt'.out; simp [intOf]; omega
    · obtain rfl : k = l.length := by omega
      have hc : n = cnt l t := by have := HN.out; rwa [List.take_length] at this
      clear HN
      have HC := Lib.hid hc
      clear hc
      go_wp2
      go_returns
      exact ⟨by rw [← HC.out]; rfl, HB.out⟩
end Go.Proofs.Ytjfhkheedcpimaa
