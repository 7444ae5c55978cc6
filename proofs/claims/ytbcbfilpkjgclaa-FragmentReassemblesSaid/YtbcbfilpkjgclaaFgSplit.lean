/-
  WALKS: Split, of package fragment and of the reference; the reference's Same.
-/
import Derived.Test.YtbcbfilpkjgclaaFgSs
import Derived.Test.YtbcbfilpkjgclaaFgNum
import Derived.Deep.LoopGhost
import Derived.OwnWalk
import Derived.BigQuiet
namespace Go.Proofs.Ytbcbfilpkjgclaa
open Go.RowKit Go.Fg

/-- What Split hands back. -/
def SpPost (s : ByteArray) (t : Int) (w : World) (e : Ending) (w' : World) : Prop :=
  ∃ v0 c, e = .returned (.slice v0 (pcs s t).length c) ∧ Ss_.Sl w' v0 (pcs s t) c ∧ Below w.heap.size w w'
theorem spPost {s : ByteArray} {t : Int} {w w' : World} {e : Ending} {L : List ByteArray} {v0 : Option Addr} {c : Nat} (h : pcs s t = L) (he : e = .returned (.slice v0 L.length c)) (ha : Ss_.Sl w' v0 L c) (hb : Below w.heap.size w w') : SpPost s t w e w' :=
  ⟨v0, c, by rw [h, he], by rw [h]; exact ha, hb⟩
/-- .. in a block of its own. -/
def SpOwn (s : ByteArray) (t : Int) (w : World) (e : Ending) (w' : World) : Prop :=
  ∃ v0 c, e = .returned (.slice v0 (pcs s t).length c) ∧ Ss_.Sl w' v0 (pcs s t) c ∧ Below w.heap.size w w' ∧ ∀ b off, v0 = some ⟨b, off, none⟩ → w.heap.size ≤ b
theorem spOwn {s : ByteArray} {t : Int} {w w' : World} {e : Ending} {L : List ByteArray} {v0 : Option Addr} {c : Nat} (h : pcs s t = L) (he : e = .returned (.slice v0 L.length c)) (ha : Ss_.Sl w' v0 L c) (hb : Below w.heap.size w w') (ho : ∀ b off, v0 = some ⟨b, off, none⟩ → w.heap.size ≤ b) : SpOwn s t w e w' :=
  ⟨v0, c, by rw [h, he], by rw [h]; exact ha, hb, ho⟩
theorem own_ge {base n size : Nat} {e : TypeId} {v0 : Option Addr} {l c : Nat} {wr : World} {xs : List Value} (h : wr.ownsRow base e size (.slice v0 l c) n xs) (b off : Nat) (hv : v0 = some ⟨b, off, none⟩) : base ≤ b := by
  obtain ⟨_, ⟨h1, h2⟩ | ⟨g, cap', cur, h1, hb, -⟩⟩ := h
  · injection h1 with e1; rw [hv] at e1; cases e1
  · injection h1 with e1
    rw [hv] at e1
    injection e1 with e1
    injection e1 with e1
    rw [e1]; exact hb
theorem slice18_to (s : ByteArray) (p : Nat) (hp : p ≤ s.size) (W : World) : (Instr.slice 9 (.string s) none (some (.int .i64 (p : Int))) none).run Try.prog W = .ok (.string (s.extract 0 p)) W := by
  rw [run_slice_string_h W 9 s Try.underlying9 .i64 (p : Int) (by omega) (by omega), Int.toNat_natCast]
theorem slice18_from (s : ByteArray) (p : Nat) (hp : p ≤ s.size) (W : World) : (Instr.slice 9 (.string s) (some (.int .i64 (p : Int))) none none).run Try.prog W = .ok (.string (s.extract p s.size)) W := by
  rw [run_slice_string_l W 9 s Try.underlying9 .i64 (p : Int) (by omega) (by omega), Int.toNat_natCast]
theorem pcs_take_len {s : ByteArray} {t : Int} {k : Nat} (h : k ≤ cn s.size t) : ((pcs s t).take k).length = k := by rw [List.length_take, pcs_len]; omega
theorem pcs_all (s : ByteArray) (t : Int) {k : Nat} (h : k = cn s.size t) : (pcs s t).take k = pcs s t := by
  subst h; rw [← pcs_len, List.take_length]
theorem meas18 {n k z : Nat} (h : (k + 1) * z < n) (hz : 0 < z) : n - (k + 1) * z < n - k * z := by
  rw [Nat.succ_mul] at *; omega

set_option maxRecDepth 100000 in
set_option maxHeartbeats 4000000 in
theorem fgSplit_own (s : ByteArray) (t : Int) (w : World) (hs : s.size ≤ 5000) :
    Calls Try.prog 9 #[.string s, .int .i64 t] w fun e w' => SpOwn s t w e w' := by
  have HI := Lib.hid (info_parts Ss_.info)
  have CS := Lib.hid fun w => fgSize_any s.size t w (by omega)
  have HM := Lib.hid fun k => @more_iff s.size k t
  have HN := Lib.hid (cn_le s.size t)
  have HK : Hid (0 < s.size → kz s.size t = ps s.size t) := fun h => kz_eq t h
  have HP := Lib.hid (cn_pos s.size t)
  have HS := Lib.hid hs
  generalize hz : ps s.size t = z at *
  clear hs
  go_enter Try.func9, Try.ntmps9
  go_wp2_with (go_at_call 15; refine (CS.out _).mono ?_; rintro e w' ⟨rfl, rfl⟩)
  go_loopw [0, 6] (fun x v wr => ∃ (k : Nat) (u : ByteArray), k < cn s.size t ∧ u = s.extract (k * kz s.size t) s.size ∧ x = .string u ∧ wr.ownsRow w.heap.size 9 1 v ((pcs s t).take k).length (Ss_.vs ((pcs s t).take k)) ∧ Below w.heap.size w wr)
    (fun x _ _ => match x with | .string u => u.size | _ => 0)
  case atStart => exact ⟨0, s, HP.out, by rw [Nat.zero_mul]; exact ByteArray.extract_zero_size.symm, rfl, World.ownsRow_nil _ _ _ _, Below.refl _ _⟩
  case round =>
    rename World => w1
    obtain ⟨k, u, hk, hu, rfl, hown, hb⟩ := hrel
    have HB := Lib.hid hb
    have HU := Lib.hid hu
    have hus : u.size = s.size - k * kz s.size t := by rw [hu, rest_size]
    have hlen : ((pcs s t).take k).length = k := pcs_take_len (Nat.le_of_lt hk)
    have HLE := Lib.hid hlen
    clear hlen
    have HT := Lib.hid (pcs_take hk)
    have hm := HM.out k hk
    have hk16 : k ≤ 16 := Nat.le_trans (Nat.le_of_lt hk) HN.out
    by_cases hmo : k + 1 < cn s.size t
    · have hgt : z < u.size := by rw [hus]; exact hm.2 hmo
      have hgt' : (z : Int) < (u.size : Int) := by omega
      have hkz := HK.out (by omega)
      have HSA : Hid (u.extract 0 z = pc s (kz s.size t) k) := by rw [HU.out, ← hkz]; exact rest_take _ _ _
      have HSB : Hid (u.extract z u.size = s.extract ((k + 1) * kz s.size t) s.size) := by rw [HU.out, ← hkz]; exact rest_drop _ _ _
      have hsa := slice18_to u z (Nat.le_of_lt hgt)
      have hsb := slice18_from u z (Nat.le_of_lt hgt)
      have HME := meas18 ((cn_gt t).1 hmo) (kz_pos s.size t)
      have HMO := Lib.hid hmo
      have HU2 := Lib.hid hus
      rw [HSA.out] at hsa
      rw [HSB.out] at hsb
      have HO := Lib.hid hown
      generalize pc s (kz s.size t) k = P at *
      generalize hV : s.extract ((k + 1) * kz s.size t) s.size = V at *
      have HV : Hid (V = s.extract ((k + 1) * kz s.size t) s.size) := hV.symm
      have HVS : Hid (V.size = s.size - (k + 1) * kz s.size t) := hV ▸ rest_size _ _
      have HMEA : Hid (V.size < u.size) := by rw [HVS.out, HU2.out]; exact HME
      clear hb hu hus hk hm hmo hkz hgt HME hV hz hown
      generalize (pcs s t).take k = L at *
      go_wp2_with (at_builtin; obtain ⟨i0, hi, hz0, hz1, hz2⟩ := HI.out; refine wpList_append_own _ rfl _ _ 24 rfl w.heap.size 9 i0 (.string ⟨#[]⟩) 1 16 Try.underlying24 hi hz0 hz1 hz2 rfl (by decide) _ _ _ rfl (HO.out.alloc _) ⟨w1.heap.size, 0, none⟩ 1 1 [.string P] rfl rfl ?c1 ?c2 ?c3 ?c4 ?c5 ?_)
      case c1 =>
        intro j x hj
        match j, hj with
        | 0, hj => simp at hj; subst hj; simp [Addr.add]
      case c2 => intro x hx; simp at hx; subst hx; rfl
      case c3 => have := HLE.out; unfold maxLen; omega
      case c4 => have := HLE.out; omega
      case c5 => have := HB.out.size; simp; omega
      intro v4 w4 hown4 hgrow hn'
      clear hi hz0 hz1 hz2
      have R : w4.ownsRow w.heap.size 9 1 v4 (L ++ [P]).length (Ss_.vs (L ++ [P])) ∧ Below w.heap.size w w4 := by
        refine ⟨?_, ?_⟩
        · rw [Ss_.vs_snoc, List.length_append]
          exact hown4
        · refine Below.grown (HB.out.alloc HB.out.size _) hgrow (by simp; have := HB.out.size; omega) (fun j hj => ?_)
          exact (HO.out.lt j hj).1
      have HO4 := Lib.hid R.1
      have HB4 := Lib.hid R.2
      clear hown4 hgrow hn' R
      go_wp2
      go_roundw
      case rel => exact ⟨k + 1, V, HMO.out, HV.out, rfl, by rw [HT.out]; exact HO4.out, HB4.out⟩
      case measure => exact HMEA.out
    · have hgt : ¬ z < u.size := by rw [hus]; exact fun h => hmo (hm.1 h)
      have hgt' : ¬ (z : Int) < (u.size : Int) := by omega
      have hk1 : k + 1 = cn s.size t := by omega
      have HE : Hid (pcs s t = (pcs s t).take k ++ [u]) := by
        have e : pc s (kz s.size t) k = u := by
          rw [hu]
          refine pc_zero ?_
          have := cn_full s.size t
          rw [← hk1, Nat.succ_mul] at this
          exact this
        exact (pcs_all s t hk1).symm.trans (HT.out.trans (by rw [e]))
      have HO := Lib.hid hown
      clear hb hu hus hk hm hmo hgt hk1 hz HT HU hown
      generalize (pcs s t).take k = L at *
      go_wp2_with (at_builtin; obtain ⟨i0, hi, hz0, hz1, hz2⟩ := HI.out; refine wpList_append_own _ rfl _ _ 24 rfl w.heap.size 9 i0 (.string ⟨#[]⟩) 1 16 Try.underlying24 hi hz0 hz1 hz2 rfl (by decide) _ _ _ rfl (HO.out.alloc _) ⟨w1.heap.size, 0, none⟩ 1 1 [.string u] rfl rfl ?d1 ?d2 ?d3 ?d4 ?d5 ?_)
      case d2 => rfl
      case d3 => have := HLE.out; unfold maxLen; omega
      case d4 => have := HLE.out; omega
      case d5 => have := HB.out.size; simp; omega
      intro v4 w4 hown4 hgrow hn'
      clear hi hz0 hz1 hz2
      have R : w4.ownsRow w.heap.size 9 1 v4 (L ++ [u]).length (Ss_.vs (L ++ [u])) ∧ Below w.heap.size w w4 := by
        refine ⟨?_, ?_⟩
        · rw [Ss_.vs_snoc, List.length_append]
          exact hown4
        · refine Below.grown (HB.out.alloc HB.out.size _) hgrow (by simp; have := HB.out.size; omega) (fun j hj => ?_)
          exact (HO.out.lt j hj).1
      obtain ⟨hO4, hB4⟩ := R
      obtain ⟨v0, c', rfl⟩ := Ss_.slice_form hO4
      have HO5 := Lib.hid (Ss_.sl_owns hO4)
      have HO6 := Lib.hid (own_ge hO4)
      have HB5 := Lib.hid hB4
      clear hown4 hgrow hn' hO4 hB4
      go_wp2
      go_returns
      exact spOwn HE.out rfl HO5.out HB5.out HO6.out
theorem fgSplit_any (s : ByteArray) (t : Int) (w : World) (hs : s.size ≤ 5000) :
    Calls Try.prog 9 #[.string s, .int .i64 t] w fun e w' => SpPost s t w e w' :=
  (fgSplit_own s t w hs).mono fun _ _ ⟨v0, c, h1, h2, h3, _⟩ => ⟨v0, c, h1, h2, h3⟩
end Go.Proofs.Ytbcbfilpkjgclaa
