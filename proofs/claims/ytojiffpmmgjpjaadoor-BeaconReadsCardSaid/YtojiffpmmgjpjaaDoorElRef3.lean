/-
  WALKS of layer 9: the reference's Decode, With.
-/
import Derived.Test.YtojiffpmmgjpjaaDoorElRef2
import Derived.Deep.RegionLaw
import Derived.Deep.AppendLies
import Derived.Test.YtojiffpmmgjpjaaDoorAppAny
namespace Go.Proofs.YtojiffpmmgjpjaaDoor
open Go.RowKit Go.Em El_

theorem slice2 (s : ByteArray) (p n : Nat) (h : p + 2 + n ≤ s.size) (W : World) : (Instr.slice 9 (.string s) (some (.int .i64 ((p : Int) + 2))) (some (.int .i64 ((p : Int) + 2 + (n : Int)))) none).run Tryd.prog W = .ok (.string (s.extract (p + 2) (p + 2 + n))) W := by
  rw [run_slice_string_if W 9 s .i64 .i64 ((p : Int) + 2) ((p : Int) + 2 + (n : Int)) Tryd.underlying9, if_pos ⟨by omega, by omega⟩, if_pos (show 0 ≤ (p : Int) + 2 ∧ (p : Int) + 2 ≤ (p : Int) + 2 + (n : Int) by omega)]
  rw [show ((p : Int) + 2).toNat = p + 2 by omega, show ((p : Int) + 2 + (n : Int)).toNat = p + 2 + n by omega]

/-- What Decode hands back. -/
def DecPost (s : ByteArray) (w : World) (e : Ending) (w' : World) : Prop :=
  ∃ v0 c, e = .returned (.tuple #[.slice v0 (dec s).1.length c, .int .i64 (dec s).2]) ∧ Sl w' v0 (dec s).1 c ∧ Below w.heap.size w w'
theorem decPost_err {s : ByteArray} {w w' : World} {e : Ending} {r : Int} (h : dec s = ([], r)) (he : e = .returned (.tuple #[.slice none 0 0, .int .i64 r])) (hb : Below w.heap.size w w') : DecPost s w e w' :=
  ⟨none, 0, by rw [h, he]; rfl, by rw [h]; exact Sl.none _, hb⟩
theorem decPost_ok {s : ByteArray} {w w' : World} {e : Ending} {L : List El} {v0 : Option Addr} {c : Nat} (h : dec s = (L, 0)) (he : e = .returned (.tuple #[.slice v0 L.length c, .int .i64 0])) (ha : Sl w' v0 L c) (hb : Below w.heap.size w w') : DecPost s w e w' :=
  ⟨v0, c, by rw [h, he], by rw [h]; exact ha, hb⟩

set_option maxRecDepth 100000 in
set_option maxHeartbeats 4000000 in
theorem refDecode_any (s : ByteArray) (w : World) (hs : s.size ≤ 1000000) :
    Calls Tryd.prog 16 #[.string s] w fun e w' => DecPost s w e w' := by
  have HI := Lib.hid (info_parts info)
  go_enter Tryd.func16, Tryd.ntmps16
  go_wp2
  go_loopw [4, 5] (fun v i wr => ∃ (L : List El) (f p : Nat), p ≤ s.size ∧ L.length ≤ 32 ∧ i = .int .i64 p ∧ s.size - p < f ∧ dec s = fin L (decF s f p L.length) ∧ wr.ownsRow w.heap.size 49 2 v L.length (flat L) ∧ Below w.heap.size w wr)
    (fun _ i _ => s.size - (intOf i).toNat)
  case atStart => exact ⟨[], s.size + 1, 0, Nat.zero_le _, Nat.zero_le _, rfl, by omega, dec_fin s, World.ownsRow_nil _ _ _ _, Below.refl _ _⟩
  case round =>
    rename_i wr
    obtain ⟨L, f, p, hp, hL, rfl, hf, hd, hown, hb⟩ := hrel
    obtain ⟨f, rfl⟩ : ∃ g, f = g + 1 := ⟨f - 1, by omega⟩
    obtain ⟨v0, c, rfl⟩ := slice_form hown
    by_cases hlt : p < s.size
    · by_cases h32 : L.length = 32
      · have hR := hd
        rw [h32, fin_full L hlt] at hR
        have HR := Lib.hid hR
        clear hd hown hR hf
        go_wp2
        go_returns
        exact decPost_err HR.out rfl hb
      · have h32' : ((L.length : Int) == 32) = false := by simp; omega
        by_cases h2 : s.size - p < 2
        · have hR := hd
          rw [fin_short L hlt h32 (.inl h2)] at hR
          have HR := Lib.hid hR
          clear hd hown hR hf
          have h2' : (s.size : Int) - p < 2 := by omega
          go_wp2
          go_returns
          exact decPost_err HR.out rfl hb
        · have h2' : ¬ (s.size : Int) - p < 2 := by omega
          have hp1 : p + 1 < s.size := by omega
          have hbe := byt_get hp1
          have hbe0 := byt_get hlt
          have hbl := byt_lt s (p + 1)
          have hbl0 := byt_lt s p
          by_cases h3 : s.size - p - 2 < byt s (p + 1)
          · have hR := hd
            rw [fin_short L hlt h32 (.inr h3)] at hR
            have HR := Lib.hid hR
            clear hd hown hR hf
            have h3' : (s.size : Int) - p - 2 < byt s (p + 1) := by omega
            go_wp2
            go_returns
            exact decPost_err HR.out rfl hb
          · have hR := hd
            rw [fin_step L hlt h32 (by omega)] at hR
            have HR := Lib.hid hR
            have h3' : ¬ (s.size : Int) - p - 2 < byt s (p + 1) := by omega
            have HX : Hid (cs (elAt s p) = [.int .i64 (byt s p : Int), .string (s.extract (p + 2) (p + 2 + byt s (p + 1)))]) := rfl
            generalize elAt s p = x at *
            have t2 : ((p : Int) + 2 + (byt s (p + 1) : Int)).toNat = p + 2 + byt s (p + 1) := by omega
            have j2 : (p : Int) + 2 + (byt s (p + 1) : Int) ≤ s.size := by omega
            have j1 : 0 ≤ (p : Int) + 2 + (byt s (p + 1) : Int) := by omega
            have j4 : (p : Int) + 2 ≤ (p : Int) + 2 + (byt s (p + 1) : Int) := by omega
            have j3 : 0 ≤ (p : Int) + 2 := by omega
            have t1 : ((p : Int) + 2).toNat = p + 2 := by omega
            have q1 : IntKind.i64.wrap ((p : Int) + 2) = (p : Int) + 2 := IntWalk.i64_in _ (by omega)
            have q0 : IntKind.i64.wrap (byt s p : Int) = byt s p := IntWalk.i64_in _ (by omega)
            obtain ⟨t, ht⟩ : ∃ t, t = s.extract (p + 2) (p + 2 + byt s (p + 1)) := ⟨_, rfl⟩
            have te : s.extract (p + 2) (p + 2 + byt s (p + 1)) = t := ht.symm
            rw [te] at HX
            clear ht
            have HF := Lib.hid hf
            clear hd hR hf
            have i0 : (0 : Int) ≤ (p : Int) := by omega
            have i1 : (p : Int) < (s.size : Int) := by omega
            obtain ⟨i0', hi, hz0, hz1, hz2⟩ := HI.out
            have hb2 : Below w.heap.size w (wr.alloc (.cells #[.int .i64 (byt s p : Int), .string t] 49)).drew := (hb.alloc hb.size _).drew
            have hown2 : (wr.alloc (.cells #[.int .i64 (byt s p : Int), .string t] 49)).drew.ownsRow w.heap.size 49 2 (.slice v0 L.length c) L.length (flat L) := (hown.alloc _).drew
            have hnews : ∀ j u, ([.int .i64 (byt s p : Int), .string t] : List Value)[j]? = some u → (wr.alloc (.cells #[.int .i64 (byt s p : Int), .string t] 49)).drew.cell? ((⟨wr.heap.size, 0, none⟩ : Addr).add j) = some u :=
              World.news_of_block (cs := #[.int .i64 (byt s p : Int), .string t]) (t := 49) (fr := (0, 0)) (by show (wr.heap.push _)[wr.heap.size]? = _; rw [Array.getElem?_push, if_pos rfl])
            go_wp2
            go_region_law (refine step_append_lies _ rfl (.tmp 40) (.tmp 51) 32 rfl w.heap.size 49 i0' (.agg #[.int .i64 0, .string ⟨#[]⟩]) 2 24 Tryd.underlying32 hi hz0 hz1 hz2 rfl (by decide) (.slice v0 L.length c) L.length (flat L) (by simp [Act.eval]) hown2 ⟨wr.heap.size, 0, none⟩ 1 1 [.int .i64 (byt s p : Int), .string t] (by simp [Act.eval]) rfl hnews (by intro u hu; simp at hu; rcases hu with rfl | rfl <;> rfl) (by decide) (by unfold maxLen; omega) (by omega) (by have := hb.size; simp; omega) _ rfl ?_; intro g cap w1 hown3 hgrow hat hlt3)
            clear hi hz0 hz1 hz2 hnews hat hlt3
            have R : w1.ownsRow w.heap.size 49 2 (.slice (some ⟨g, 0, none⟩) (L ++ [x]).length cap) (L ++ [x]).length (flat (L ++ [x])) ∧ Below w.heap.size w w1 := by
              refine ⟨?_, Below.grown hb2 hgrow hb2.size (fun j hj => (hown2.lt j hj).1)⟩
              rw [flat_snoc, HX.out, List.length_append]
              exact hown3
            have hLL : (L ++ [x]).length = L.length + 1 := by rw [List.length_append]; rfl
            have HLL := Lib.hid hLL
            rw [← hLL] at HR
            clear hown hown2 hown3 hgrow hb2 hb hbe hbe0 t1 t2 te q0 q1 hLL
            go_wp2
            go_roundw
            case rel => exact ⟨L ++ [x], f, p + 2 + byt s (p + 1), by omega, by have := HLL.out; omega, by go_num, by have := HF.out; omega, HR.out, by rw [← HLL.out]; exact R.1, R.2⟩
            case measure => simp [intOf]; omega
    · obtain rfl : p = s.size := by omega
      have hR := hd
      rw [fin_end L (Nat.lt_irrefl _)] at hR
      have HR := Lib.hid hR
      have HO : Hid (Sl wr v0 L c) := sl_owns hown
      clear hd hown hR hf
      go_wp2
      go_returns
      exact decPost_ok HR.out rfl HO.out hb

/-- What With hands back. -/
def WithPost (l : List El) (e : El) (w : World) (r : Ending) (w' : World) : Prop :=
  ∃ v0 c', r = .returned (.slice v0 (wth l e).length c') ∧ Sl w' v0 (wth l e) c' ∧ Below w.heap.size w w'

end Go.Proofs.YtojiffpmmgjpjaaDoor
