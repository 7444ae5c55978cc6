/-
  THE REFERENCE OF LAYER 19: Get, Drop, Put over a table as a slice of entries.
-/
import Derived.Test.YtacjdgglfeemcaaHiEs
import Derived.Handy
namespace Go.Proofs.Ytacjdgglfeemcaa
open Go.RowKit Go.Hi
attribute [local go_sem ↓ high] Lw_.loadF Lw_.storeF Lw_.v_cells Lw_.v_match Ew_.loadF Ew_.storeF Ew_.v_cells Ew_.v_match
attribute [local go_sem ↓ high] Es_.buildE
attribute [local go_sem] Lw_.loadF_new Ew_.loadF_new Ew_.storeF_zero

/-- The result's cell as it was made. -/
structure Gst (w wi : World) : Prop where
  rs : Lw_.Box wi w.heap.size zl
  bel : Below w.heap.size w wi

set_option maxRecDepth 100000 in
set_option maxHeartbeats 2000000 in
theorem ref19Get_any (M : Tb) (sa : Option Addr) (c : Nat) (p k : Int) (w : World) (hs : Es_.At w sa M) (hu : Up M) (hl : M.length ≤ 1000) :
    Calls Try.prog 14 #[.slice sa M.length c, .int .u64 p, .int .i64 k] w fun e w' => e = .returned (Lw_.v (get M p k)) ∧ Below w.heap.size w w' := by
  obtain ⟨w1, hw1⟩ : ∃ w1, w.alloc (.cells (Lw_.C zl) 23) = w1 := ⟨_, rfl⟩
  have hw1' : w.alloc (.cells #[.bool false, .int .i64 0, .int .i64 0] 23) = w1 := hw1
  have HB : Hid (Lw_.Box w1 w.heap.size zl) := hw1 ▸ Lw_.Box.new w zl
  have HBL : Hid (Below w.heap.size w w1) := hw1 ▸ (Below.refl _ _).alloc (Nat.le_refl _) _
  have HS := Lib.hid hs
  have HU := Lib.hid hu
  clear hs hu hw1
  go_enter Try.func14, Try.ntmps14
  go_wp2
  go_loopw [7] (fun v wr => wr = w1 ∧ ∃ i : Nat, v = .int .i64 i ∧ i ≤ M.length ∧ (isF k = true → ∀ x ∈ M.take i, x.1 ≠ p)) (fun v _ => M.length - (intOf v).toNat)
  case atStart => exact ⟨rfl, 0, rfl, Nat.zero_le _, fun _ x hx => by cases hx⟩
  case round =>
    obtain ⟨rfl, i, rfl, hi, hn⟩ := hrel
    have HN := Lib.hid hn
    clear hn
    by_cases hlt : i < M.length
    · obtain ⟨b, off, hsa, hbl, hc⟩ := HS.out i hlt
      subst hsa
      have hc1 : ∀ j, j < 16 → wr.cell? ⟨b, off + i * 16 + j, none⟩ = (Ew_.C (Es_.e1 M[i]))[j]? := fun j hj => (HBL.out.cell hbl).trans (hc j hj)
      have c0 := Es_.peer hc1
      obtain ⟨x, hx⟩ : ∃ x, x = M[i] := ⟨_, rfl⟩
      have HX := Lib.hid hx
      have HC := Lib.hid hc1
      have HLT := Lib.hid hlt
      rw [← hx] at c0
      clear hc hc1 hx hbl
      have hm : x ∈ M := HX.out ▸ List.getElem_mem hlt
      have HM := Lib.hid hm
      clear hm
      have nx : (x.1 ≠ p ∨ isF k = false) → (isF k = true → ∀ z ∈ M.take (i + 1), z.1 ≠ p) := fun h hk z hz => by
        rw [List.take_succ_eq_append_getElem HLT.out, ← HX.out] at hz
        rcases List.mem_append.1 hz with hz | hz
        · exact HN.out hk z hz
        · rw [List.mem_singleton.1 hz]
          rcases h with h | h
          · exact h
          · rw [hk] at h; cases h
      have NX := Lib.hid nx
      clear nx
      by_cases hp : x.1 = p
      · have dp : (x.1 == p) = true := by rw [beq_iff_eq]; exact hp
        by_cases h0 : 0 ≤ k
        · by_cases h5 : k < 5
          · have hk : isF k = true := decide_eq_true ⟨h0, h5⟩
            obtain ⟨q, rfl, hq⟩ := isF_nat hk
            have ix := Es_.ixo b (off + i * 16 + 1) q hq wr
            have lk := Es_.last HC.out q hq
            rw [← HX.out] at lk
            have s2 := HB.out.storeF (x.2.get q)
            have HY := Lib.hid (show get M p (q : Int) = x.2.get q by
              unfold Hi.get
              rw [if_pos hk, ← hp, find_some HU.out HM.out, Int.toNat_natCast])
            clear hp hk
            go_wp2
            exact ret_la Try.results14 rfl (HB.out.setRow (x.2.get q)) rfl ⟨by rw [HY.out], below_setRow HBL.out (Nat.le_refl _) _⟩
          · have hk : isF k = false := decide_eq_false fun h => h5 h.2
            clear hp
            go_wp2
            go_roundw
            case rel => exact ⟨trivial, i + 1, by go_num, HLT.out, NX.out (.inr hk)⟩
            case measure => have := HLT.out; simp [intOf]; omega
        · have hk : isF k = false := decide_eq_false fun h => h0 h.1
          clear hp
          go_wp2
          go_roundw
          case rel => exact ⟨trivial, i + 1, by go_num, HLT.out, NX.out (.inr hk)⟩
          case measure => have := HLT.out; simp [intOf]; omega
      · have dp : (x.1 == p) = false := by rw [beq_eq_false_iff_ne]; exact hp
        have HP := Lib.hid hp
        clear hp
        go_wp2
        go_roundw
        case rel => exact ⟨trivial, i + 1, by go_num, HLT.out, NX.out (.inl HP.out)⟩
        case measure => have := HLT.out; simp [intOf]; omega
    · obtain rfl : i = M.length := by omega
      have s2 : (Lw_.StoreF ⟨w.heap.size, 0, none⟩ (.agg #[.bool false, .int .i64 0, .int .i64 0])).run Try.prog wr = .ok () (wr.setRow w.heap.size (Lw_.C zl)) := HB.out.storeF zl
      have HY := Lib.hid (show get M p k = zl by
        unfold Hi.get
        cases hk : isF k
        · rfl
        · rw [if_pos rfl, find_none (fun x hx => HN.out hk x (by rwa [List.take_length])), zf_get])
      go_wp2
      exact ret_la Try.results14 rfl (HB.out.setRow zl) rfl ⟨by rw [HY.out], below_setRow HBL.out (Nat.le_refl _) _⟩

/-- A table handed back in a block of the call's own. -/
def TbPost (M : Tb) (w : World) (e : Ending) (w' : World) : Prop :=
  ∃ v0 c, e = .returned (.slice v0 M.length c) ∧ w'.ownsRow w.heap.size 44 16 (.slice v0 M.length c) M.length (Es_.flat M) ∧ Below w.heap.size w w'
theorem filt_take {M : Tb} {i : Nat} (h : i < M.length) (f : Int × Fl → Bool) : (M.take (i + 1)).filter f = if f M[i] then (M.take i).filter f ++ [M[i]] else (M.take i).filter f := by
  rw [List.take_succ_eq_append_getElem h, List.filter_append, List.filter_cons, List.filter_nil]
  split <;> simp
theorem filt_len {M : Tb} (i : Nat) (f : Int × Fl → Bool) : ((M.take i).filter f).length ≤ M.length :=
  Nat.le_trans (List.length_filter_le _ _) (by rw [List.length_take]; omega)

set_option maxRecDepth 100000 in
set_option maxHeartbeats 2000000 in
theorem ref19Drop_any (M : Tb) (sa : Option Addr) (c : Nat) (p : Int) (w : World) (hs : Es_.At w sa M) (hl : M.length ≤ 1000) :
    Calls Try.prog 18 #[.slice sa M.length c, .int .u64 p] w fun e w' => TbPost (drp M p) w e w' := by
  have HI := Lib.hid (info_parts Es_.info)
  have HS := Lib.hid hs
  clear hs
  go_enter Try.func18, Try.ntmps18
  go_wp2
  go_loopw [5, 6] (fun u v wr => ∃ i : Nat, v = .int .i64 i ∧ i ≤ M.length ∧ wr.ownsRow w.heap.size 44 16 u ((M.take i).filter (fun x => decide (x.1 ≠ p))).length (Es_.flat ((M.take i).filter (fun x => decide (x.1 ≠ p)))) ∧ Below w.heap.size w wr) (fun _ v _ => M.length - (intOf v).toNat)
  case atStart =>
    have h := World.ownsRow_made (base := w.heap.size) (e := 44) (size := 16) w #[] 0 (Nat.le_refl _) (by decide) rfl
    exact ⟨0, rfl, Nat.zero_le _, h, (Below.refl _ _).alloc (Nat.le_refl _) _⟩
  case round =>
    rename_i wr
    obtain ⟨i, rfl, hi, hown, hb⟩ := hrel
    by_cases hlt : i < M.length
    · obtain ⟨b, off, hsa, hbl, hc⟩ := HS.out i hlt
      subst hsa
      have hc1 : ∀ j, j < 16 → wr.cell? ⟨b, off + i * 16 + j, none⟩ = (Ew_.C (Es_.e1 M[i]))[j]? := fun j hj => (hb.cell hbl).trans (hc j hj)
      have HF := Lib.hid (filt_take hlt (fun x => decide (x.1 ≠ p)))
      have HN := Lib.hid (filt_len (M := M) i (fun x => decide (x.1 ≠ p)))
      have HLT := Lib.hid hlt
      generalize M[i] = x at *
      have c0 := Es_.peer hc1
      have lx := Es_.load hc1
      have hbs := Es_.build_one (Es_.e1 x)
      have hnw := fun W => Es_.news W x
      generalize Ew_.v (Es_.e1 x) = V at lx hbs
      generalize Ew_.C (Es_.e1 x) = O at hbs hnw
      have HNW := Lib.hid hnw
      clear hnw
      have HB := Lib.hid hb
      generalize (M.take i).filter (fun x => decide (x.1 ≠ p)) = L at *
      clear hc hc1 hbl
      have HML : Hid (L.length + 1 ≤ maxLen) := by show L.length + 1 ≤ maxLen; have := HN.out; unfold maxLen; omega
      have HMB : Hid ((L.length + 1) * 128 ≤ 140737488355328) := by show (L.length + 1) * 128 ≤ 140737488355328; have := HN.out; omega
      by_cases hp : x.1 = p
      · have dp : (x.1 != p) = false := by rw [bne_eq_false_iff_eq]; exact hp
        have HR : Hid ((M.take (i + 1)).filter (fun x => decide (x.1 ≠ p)) = L) := by rw [HF.out, if_neg (by simp [hp])]; exact rfl
        have HO := Lib.hid hown
        clear hp hown hb
        go_wp2
        go_roundw
        case rel => exact ⟨i + 1, by go_num, HLT.out, by rw [HR.out]; exact HO.out, HB.out⟩
        case measure => have := HLT.out; simp [intOf]; omega
      · have dp : (x.1 != p) = true := by rw [bne_iff_ne]; exact hp
        have HR : Hid ((M.take (i + 1)).filter (fun x => decide (x.1 ≠ p)) = L ++ [x]) := by rw [HF.out, if_pos (by simp [hp])]; exact rfl
        clear hp
        go_wp2_with (at_builtin; obtain ⟨i0, hi0, hz0, hz1, hz2⟩ := HI.out; refine wpList_append_own _ rfl _ _ 36 rfl w.heap.size 44 i0 (Ew_.v ze) 16 128 Try.underlying36 hi0 hz0 hz1 hz2 rfl (by decide) _ _ _ rfl (hown.alloc _) ⟨wr.heap.size, 0, none⟩ 1 1 (Es_.ec x) rfl rfl (HNW.out wr) (Es_.ec_one x) HML.out HMB.out ?c5 ?_)
        case c5 => have := hb.size; simp; omega
        intro v' w1 hown' hgrow _
        clear hi0 hz0 hz1 hz2
        have R0 := Es_.appended hown rfl rfl hb.size hown' hgrow
        have R := Lib.hid (And.intro R0.1 (hb.trans R0.2))
        clear hown hown' hgrow hb c0 lx R0
        go_wp2
        go_roundw
        case rel => exact ⟨i + 1, by go_num, HLT.out, by rw [HR.out]; exact R.out.1, R.out.2⟩
        case measure => have := HLT.out; simp [intOf]; omega
    · obtain rfl : i = M.length := by omega
      rw [List.take_length] at hown
      have HO := Lib.hid hown
      have HB := Lib.hid hb
      obtain ⟨v0, cv, rfl⟩ := Es_.slice_form hown
      clear hown hb
      go_wp2
      go_returns
      exact ⟨v0, cv, rfl, HO.out, HB.out⟩
end Go.Proofs.Ytacjdgglfeemcaa
