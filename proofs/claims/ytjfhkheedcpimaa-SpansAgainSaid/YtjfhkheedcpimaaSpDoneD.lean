/-
  THE WALK OF THE LANDED CODE OF LAYER 7: ascending.
-/
import Derived.Test.YtjfhkheedcpimaaSpDoneB
namespace Go.Proofs.Ytjfhkheedcpimaa
open Go.RowKit Go.Sp

def full (l : List Sp) : List Sp := l.filter fun s => decide (s.f < s.t)
theorem full_yes {l : List Sp} {k : Nat} (hk : k < l.length) (h : ¬ l[k].t ≤ l[k].f) : full (l.take (k + 1)) = full (l.take k) ++ [l[k]] := by
  unfold full
  rw [List.take_succ_eq_append_getElem hk, List.filter_append, List.filter_cons, if_pos (decide_eq_true (by omega))]
  rfl
theorem full_no {l : List Sp} {k : Nat} (hk : k < l.length) (h : l[k].t ≤ l[k].f) : full (l.take (k + 1)) = full (l.take k) := by
  unfold full
  rw [List.take_succ_eq_append_getElem hk, List.filter_append, List.filter_cons, if_neg (by simp; omega)]
  simp
theorem full_len (l : List Sp) (k : Nat) : (full (l.take k)).length ≤ k := by
  unfold full
  have := List.length_filter_le (fun s : Sp => decide (s.f < s.t)) (l.take k)
  have := List.length_take_le k l
  omega

set_option maxRecDepth 100000 in
set_option maxHeartbeats 2000000 in
theorem ascending_any (l : List Sp) (sa : Option Addr) (c : Nat) (w : World) (hl : l.length ≤ 1000000) (h : SpAt w sa l) :
    Calls Try.prog 30 #[.slice sa l.length c] w fun e w' => (∃ u v0 c', e = .returned (.slice v0 u.length c') ∧ Asc l u ∧ SpAt w' v0 u) ∧ Below w.heap.size w w' := by
  have HI := Lib.hid (info_parts infoSpan)
  have HE := Lib.hid (fun (s : Sp) w => empty_any s w)
  have HS := Lib.hid (fun (v0 : Option Addr) (cap : Nat) (wr : World) hn hown => sort_any (full l) l rfl w.heap.size cap v0 wr hn hown)
  have H1 := Lib.hid h
  have HF := Lib.hid (full_len l)
  unfold sv at HE
  clear h
  go_enter Try.func30, Try.ntmps30
  go_wp2
  go_loopw [3, 8] (fun v i wr => ∃ (k : Nat) (m : List Sp), k ≤ l.length ∧ i = .int .i64 k ∧ m = full (l.take k) ∧ wr.ownsRow w.heap.size 23 2 v m.length (flt m) ∧ Below w.heap.size w wr)
    (fun _ i _ => l.length - (intOf i).toNat)
  case atStart => exact ⟨0, [], Nat.zero_le _, rfl, rfl, World.ownsRow_nil _ _ _ _, Below.refl _ _⟩
  case round =>
    rename_i wr
    obtain ⟨k, m, hk, rfl, hm, hown, hb⟩ := hrel
    have hml : m.length ≤ k := by rw [hm]; exact HF.out k
    by_cases hlt : k < l.length
    · obtain ⟨b, off, rfl, -, c0, c1⟩ := (H1.out.below hb) k hlt
      have i0 : (0 : Int) ≤ (k : Int) := by omega
      have i1 : (k : Int) < (l.length : Int) := by omega
      have hlt' := Lib.hid hlt
      have HEK := Lib.hid (fun w => HE.out l[k] w)
      by_cases hx : l[k].t ≤ l[k].f
      · have HM := Lib.hid (full_no hlt hx)
        rw [decide_eq_true hx] at HEK
        generalize l[k].f = f at *
        generalize l[k].t = u at *
        clear hx hlt
        go_wp2_with (go_at_call 27; refine (HEK.out _).mono ?_; rintro e w2 ⟨rfl, hb2⟩; have B2 := Lib.hid (hb.trans (((Below.refl _ wr).alloc (Nat.le_refl _) _).trans (hb2.mono (by simp)) |>.mono hb.size)); have hown2 := owns_below (hown.alloc _) hb2; have HO := Lib.hid hown2; clear hb2 hown2 hown hb)
        go_roundw
        case rel => exact ⟨k + 1, m, hlt'.out, by go_num, by rw [HM.out]; exact hm, HO.out, B2.out⟩
        case measure => have := hlt'.out; simp [intOf]; omega
      · have HM := Lib.hid (full_yes hlt hx)
        rw [decide_eq_false hx] at HEK
        have hlen : m.length + 1 ≤ 1000000 := by omega
        have HM2 : Hid (full (l.take (k + 1)) = m ++ [⟨l[k].f, l[k].t⟩]) := by rw [hm]; exact HM.out
        clear HM hm
        generalize l[k].f = f at *
        generalize l[k].t = u at *
        clear hx hlt
        go_wp2_with (first
          | (go_at_call 27; refine (HEK.out _).mono ?_; rintro e w2 ⟨rfl, hb2⟩
             have hown2 := owns_below (hown.alloc _) hb2
             have hbb := hb.trans (((Below.refl _ wr).alloc (Nat.le_refl _) _).trans (hb2.mono (by simp)) |>.mono hb.size)
             have d0 : w2.cell? ⟨wr.heap.size, 0, none⟩ = some (.int .i64 f) := (hb2.cell (p := ⟨wr.heap.size, 0, none⟩) (by simp)).trans (by simp)
             have d1 : w2.cell? ⟨wr.heap.size, 1, none⟩ = some (.int .i64 u) := (hb2.cell (p := ⟨wr.heap.size, 1, none⟩) (by simp)).trans (by simp)
             clear hb2 hown hb)
          | (at_builtin; obtain ⟨i0, hi, hz0, hz1, hz2⟩ := HI.out; refine wpList_append_own _ rfl _ _ 31 rfl w.heap.size 23 i0 (.agg #[.int .i64 0, .int .i64 0]) 2 16 Try.underlying31 hi hz0 hz1 hz2 rfl (by decide) _ _ _ rfl (hown2.alloc _) ⟨w2.heap.size, 0, none⟩ 1 1 [.int .i64 f, .int .i64 u] rfl rfl ?c1 ?c2 ?c3 ?c4 ?c5 ?_))
        case c1 =>
          intro j u hj
          match j, hj with
          | 0, hj => simp at hj; subst hj; simp [Addr.add]
          | 1, hj => simp at hj; subst hj; simp [Addr.add]
        case c2 => intro u hu; simp at hu; rcases hu with rfl | rfl <;> rfl
        case c3 => unfold maxLen; omega
        case c4 => omega
        case c5 => have := hbb.size; simp; omega
        intro v' w3 hown' hgrow hn'
        clear hi hz0 hz1 hz2
        have R : w3.ownsRow w.heap.size 23 2 v' (m ++ [⟨f, u⟩] : List Sp).length (flt (m ++ [⟨f, u⟩])) ∧ Below w.heap.size w w3 := by
          refine ⟨?_, ?_⟩
          · rw [flt_snoc, List.length_append]
            exact hown'
          · refine Below.grown (hbb.alloc hbb.size _) hgrow (by simp; have := hbb.size; omega) (fun j hj => ?_)
            exact (hown2.lt j hj).1
        clear hown' hgrow hown2 hbb hn'
        go_wp2
        go_roundw
        case rel => exact ⟨k + 1, m ++ [⟨f, u⟩], hlt'.out, by go_num, HM2.out.symm, R.1, R.2⟩
        case measure => have := hlt'.out; simp [intOf]; omega
    · obtain rfl : k = l.length := by omega
      rw [List.take_length] at hm
      subst hm
      obtain ⟨v0, cap, rfl⟩ := slice_form hown
      have HSC := Lib.hid (HS.out v0 cap wr (by omega) hown)
      have HB := Lib.hid hb
      clear hown hb
      go_wp2_with (go_at_call 31; refine HSC.out.mono ?_; rintro e w2 ⟨rfl, ⟨u, hu, hasc, hsp⟩, hb2⟩; have HU := Lib.hid (And.intro hasc hsp); have B2 := Lib.hid (HB.out.trans hb2); clear hb2 hsp hasc)
      go_returns
      exact ⟨⟨u, v0, cap, by rw [hu]; rfl, HU.out.1, HU.out.2⟩, B2.out⟩
end Go.Proofs.Ytjfhkheedcpimaa
