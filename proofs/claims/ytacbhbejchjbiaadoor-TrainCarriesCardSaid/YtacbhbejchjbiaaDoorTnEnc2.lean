/-
  THE WALK of package train's Encode.
-/
import Derived.Test.YtacbhbejchjbiaaDoorTnEnc
namespace Go.Proofs.YtacbhbejchjbiaaDoor
open Go.RowKit Go.Tn Go.Wr Go.Ck

/-- Block g begins with these numbers, none of them frozen. -/
def Nm (W : World) (g : Nat) (l : List Int) : Prop := ∀ j, j < l.length → W.cell? ⟨g, j, none⟩ = some (.int .i64 (l.getD j 0)) ∧ W.frozen? ⟨g, j, none⟩ = false
theorem Nm.set {W : World} {g : Nat} {l : List Int} (h : Nm W g l) (i : Nat) (z : Int) : Nm (W.setCell ⟨g, i, none⟩ (.int .i64 z)) g (l.set i z) := by
  intro j hj
  rw [List.length_set] at hj
  obtain ⟨h1, h2⟩ := h j hj
  refine ⟨?_, (World.frozen?_setCell _ _ _ _).trans h2⟩
  by_cases e : i = j
  · subst e
    rw [World.cell?_setCell_same _ _ _ h1]
    simp [List.getD, hj]
  · rw [World.cell?_setCell_other _ _ _ _ (fun h => e (congrArg Addr.off h)), h1]
    simp [List.getD, e]
/-- The list while it is being filled. -/
def prt (l : List Int) (k : Nat) : List Int := l.take k ++ List.replicate (l.length - k) 0
theorem prt_len (l : List Int) (k : Nat) (h : k ≤ l.length) : (prt l k).length = l.length := by unfold prt; rw [List.length_append, List.length_take, List.length_replicate]; omega
theorem prt_set (l : List Int) (k : Nat) (h : k < l.length) : (prt l k).set k l[k] = prt l (k + 1) := by
  unfold prt
  have e : (l.take k).length = k := by rw [List.length_take]; omega
  obtain ⟨d, hd⟩ : ∃ d, l.length - k = d + 1 := ⟨l.length - k - 1, by omega⟩
  rw [List.set_append_right _ _ (by rw [e]; exact Nat.le_refl _), e, Nat.sub_self, hd, List.replicate_succ, List.set_cons_zero, show l.length - (k + 1) = d by omega, List.take_succ_eq_append_getElem h, List.append_assoc]
  rfl
theorem prt_full (l : List Int) : prt l l.length = l := by unfold prt; simp
theorem prt_zero (l : List Int) : prt l 0 = List.replicate l.length 0 := by unfold prt; simp
theorem nm_made (w : World) (l : List Int) (t : TypeId) : Nm (w.alloc (.cells (madeCells #[.int .i64 0] l.length) t)) w.heap.size (prt l 0) := by
  intro j hj
  rw [prt_zero, List.length_replicate] at hj
  refine ⟨?_, by simp⟩
  rw [World.cell?_alloc_at _ _ _ j rfl, prt_zero]
  simp [madeCells, hj, List.getD, Nat.mod_one]
theorem nm_at {W : World} {g : Nat} {l : List Int} (h : Nm W g l) (hg : g < W.heap.size) : Is_.At W (some ⟨g, 0, none⟩) l := by
  intro i hi
  refine ⟨g, 0, rfl, hg, ?_⟩
  rw [Nat.zero_add, (h i hi).1]
  simp [List.getD, hi]
theorem infoInt17 : (Tryd.prog.info? 3).map (fun i => (i.zero, i.size, i.bytes)) = some (some (.int .i64 0), 1, 8) := by kernel_rfl

/-- What Encode hands back. -/
def EncPost (l : List ByteArray) (w : World) (e : Ending) (w' : World) : Prop := e = .returned (.tuple #[.string (eS l), .int .i64 (eE l)]) ∧ Below w.heap.size w w'
theorem encPost17_err {l : List ByteArray} {w w' : World} {e : Ending} {r : Int} (h : eE l = r) (h0 : ¬ r = 0) (he : e = .returned (.tuple #[.string ⟨#[]⟩, .int .i64 r])) (hb : Below w.heap.size w w') : EncPost l w e w' :=
  ⟨by rw [eS_bad (by rw [h]; exact h0), h, he], hb⟩
theorem encPost17_ok {l : List ByteArray} {w w' : World} {e : Ending} (h : eE l = 0) (he : e = .returned (.tuple #[.string ⟨(ag 0 (fs l)).toArray⟩, .int .i64 0])) (hb : Below w.heap.size w w') : EncPost l w e w' :=
  ⟨by rw [eS_ok h, h, he], hb⟩

set_option maxRecDepth 100000 in
set_option maxHeartbeats 4000000 in
theorem tnEncode_any (l : List ByteArray) (sa : Option Addr) (c : Nat) (w : World) (h : Ss_.At w sa l) (hl : l.length ≤ 1000) (ht : TnTab w) :
    Calls Tryd.prog 7 #[.slice sa l.length c] w fun e w' => EncPost l w e w' := by
  have HA := Lib.hid h
  have HT := Lib.hid ht
  have hmk := run_make_row' (P := Tryd.prog) 56 3 (.int .i64 0) 8 Tryd.underlying56 infoInt17 rfl .i64 .i64 l.length (by omega) (by omega) w
  have N0 := nm_made w (sz l) 3
  rw [sz_len] at N0
  have HN0 := Lib.hid N0
  have HB0 : Hid (Below w.heap.size w (w.alloc (.cells (madeCells #[.int .i64 0] l.length) 3)) ∧ w.heap.size < (w.alloc (.cells (madeCells #[.int .i64 0] l.length) 3)).heap.size) := ⟨(Below.refl _ _).alloc (Nat.le_refl _) _, by simp⟩
  generalize w.alloc (.cells (madeCells #[.int .i64 0] l.length) 3) = w0 at hmk HN0 HB0
  clear h ht N0
  go_enter Tryd.func7, Tryd.ntmps7
  go_wp2
  clear hmk
  go_loopw [14] (fun i wr => ∃ k : Nat, k ≤ l.length ∧ i = .int .i64 k ∧ Nm wr w.heap.size (prt (sz l) k) ∧ Below w.heap.size w wr ∧ w.heap.size < wr.heap.size) (fun i _ => l.length - (intOf i).toNat)
  case atStart => exact ⟨0, Nat.zero_le _, rfl, HN0.out, HB0.out.1, HB0.out.2⟩
  case round =>
    rename_i wr
    obtain ⟨k, hk, rfl, hnm, hb, hg⟩ := hrel
    have HB := Lib.hid hb
    have HG := Lib.hid hg
    have HN := Lib.hid hnm
    clear HN0 HB0
    by_cases hlt : k < l.length
    · obtain ⟨b, off, rfl, hbl, c0⟩ := HA.out.below hb k hlt
      obtain ⟨d0, f0⟩ := hnm k (by rw [prt_len _ _ (by rw [sz_len]; exact hk), sz_len]; exact hlt)
      have HP : Hid ((prt (sz l) k).set k (l[k].size : Int) = prt (sz l) (k + 1)) := by
        have := prt_set (sz l) k (by rw [sz_len]; exact hlt)
        unfold sz at this ⊢
        rw [List.getElem_map] at this; exact this
      have HLT := Lib.hid hlt
      generalize l[k] = p at *
      clear hnm hb hg
      go_wp2
      go_roundw
      case rel => exact ⟨k + 1, HLT.out, by go_num, by rw [← HP.out]; exact HN.out.set k _, HB.out.setCell (Nat.le_refl _) _, by simpa using HG.out⟩
      case measure => have := HLT.out; simp [intOf]; omega
    · obtain rfl : k = l.length := by omega
      have h3 := HN.out
      have ef : prt (sz l) l.length = sz l := by have := prt_full (sz l); rwa [sz_len] at this
      rw [ef] at h3
      have CM := Lib.hid (tnMeasure_any (sz l) (some ⟨w.heap.size, 0, none⟩) l.length wr (nm_at h3 hg) (by rw [sz_len]; unfold maxLen; omega))
      rw [sz_len] at CM
      have CJ := Lib.hid fun he => tnJoin_any l sa c wr (HA.out.below hb) he (HT.out.bel hb)
      unfold MsPost at CM
      have e0 : mE (sz l) = eE l := rfl
      rw [e0] at CM
      generalize msO (sz l) = o at *
      obtain ⟨r, hre⟩ : ∃ r, r = eE l := ⟨_, rfl⟩
      rw [← hre] at CM
      have HR := Lib.hid hre.symm
      clear e0 ef h3 hnm hb hg HN hre
      by_cases hr : r = 0
      · have HE := Lib.hid (HR.out.trans hr)
        have CJ2 := Lib.hid (CJ.out HE.out)
        subst hr
        clear CJ HR
        go_wp2_with (first
          | (go_at_call 15; refine CM.out.mono ?_; rintro e w' ⟨rfl, rfl⟩)
          | (go_at_call 16; refine CJ2.out.mono ?_; rintro e w2 ⟨rfl, h⟩; have HB2 := Lib.hid (HB.out.trans (h.mono HB.out.size)); clear h))
        go_returns
        exact encPost17_ok HE.out rfl HB2.out
      · have hr' : (r != 0) = true := by rw [bne_iff_ne]; exact hr
        have H0 := Lib.hid hr
        clear CJ hr
        go_wp2_with (go_at_call 15; refine CM.out.mono ?_; rintro e w' ⟨rfl, rfl⟩)
        go_returns
        exact encPost17_err HR.out H0.out rfl HB.out
end Go.Proofs.YtacbhbejchjbiaaDoor
