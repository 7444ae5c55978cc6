/-
  WALKS of the reference of layer 14: Octets, Encode, IDs.
-/
import Derived.Test.YtojiffpmmgjpjaaDoorBnRefE
namespace Go.Proofs.YtojiffpmmgjpjaaDoor
open Go.RowKit Go.Bn Go.Wr
attribute [local go_sem ↓ high] Bn_.loadF Bn_.storeF Bn_.v_cells Bn_.v_match Bn_.loadT Bn_.loadS Bn_.loadP
attribute [local go_sem] Bn_.C0 Bn_.C1 Bn_.C2 Bn_.C3 Bn_.C4 Bn_.C9 Bn_.C10 Bn_.loadF_new

set_option maxRecDepth 100000 in
set_option maxHeartbeats 4000000 in
theorem refOctets14_any (b : Bn) (L : List Go.Em.El) (sa : Option Addr) (c : Nat) (w : World) (hb : Ok b) (h : El_.At w sa L) (hl : L.length ≤ 1000) :
    Calls Tryd.prog 13 #[Bn_.v b, .slice sa L.length c] w fun e w' => e = .returned (.tuple #[.string (octs b L), .int .i64 (Go.Em.chk L)]) ∧ Below w.heap.size w w' := by
  obtain ⟨w1, hw1⟩ : ∃ w1, w.alloc (.cells (Bn_.C b) 31) = w1 := ⟨_, rfl⟩
  have S1 := Lib.hid (show Stb w b w1 from hw1 ▸ Stb.new w b)
  have hst := hb.st
  have hiv := hb.iv
  have hes := Go.Em.enc_size L
  have HA : Hid (El_.At w1 sa L) := h.below (hw1 ▸ (Below.refl _ _).alloc (Nat.le_refl _) _)
  have CL := Lib.hid fun (w : World) h => refEncode_any L sa c w h (by omega)
  have N1 : Hid (∀ w, Calls Tryd.prog 28 #[.int .i64 b.st, .int .i64 4] w fun e w' => e = .returned (.string (oz (le b.st.toNat 4))) ∧ Below w.heap.size w w') := fun w => refOct14_any b.st 4 w (by decide) (by omega)
  have N2 : Hid (∀ w, Calls Tryd.prog 28 #[.int .i64 b.iv, .int .i64 2] w fun e w' => e = .returned (.string (oz (le b.iv.toNat 2))) ∧ Below w.heap.size w w') := fun w => refOct14_any b.iv 2 w (by decide) (by omega)
  have a1 := oz_add (le b.st.toNat 4) (le b.iv.toNat 2) (by simp [le_len])
  have a2 : ∀ W, (Op.stringOp .add (oz (le b.st.toNat 4 ++ le b.iv.toNat 2)) (Go.Em.enc L)).run Tryd.prog W = .ok (.string (octs b L)) W := fun W => by
    have h := oz_add (le b.st.toNat 4 ++ le b.iv.toNat 2) (Go.Em.enc L).data.toList (by simp only [List.length_append, le_len, Array.length_toList]; have : (Go.Em.enc L).data.size = (Go.Em.enc L).size := rfl; omega) W
    rw [oz_of] at h
    exact h
  generalize octs b L = E at *
  generalize Go.Em.enc L = t at *
  generalize Go.Em.chk L = r at *
  generalize oz (le b.st.toNat 4 ++ le b.iv.toNat 2) = z at *
  generalize oz (le b.st.toNat 4) = n1 at *
  generalize oz (le b.iv.toNat 2) = n2 at *
  clear hb hst hiv hes h hl
  go_enter Tryd.func13, Tryd.ntmps13
  go_wp2_with (first
    | (go_at_call 30; refine (CL.out _ HA.out).mono ?_; rintro e w4 ⟨rfl, hb⟩; have S4 := Lib.hid (S1.out.keep hb); clear hb))
  have hc : ∀ (p : Of (Stb w b)) (j : Nat), p.w.cell? ⟨w.heap.size, j, none⟩ = (Bn_.C b)[j]? := fun p => p.ok.box.all
  have _ne : Nonempty (Of (Stb w b)) := ⟨⟨_, S4.out⟩⟩
  refine wp_region_of (Stb w b) (by kernel_rfl) (by kernel_rfl) S4.out.drew ?_
  repeat (quiet_step (first
    | (go_at_call 28; with_reducible exact Calls.of_below Stb.keep' (N1.out _))
    | (go_at_call 28; with_reducible exact Calls.of_below Stb.keep' (N2.out _))))
  refine wpQuiet_nil ?_
  rintro _ ⟨p, rfl⟩
  go_wp2
  go_returns
  exact ⟨rfl, p.ok.bel⟩

/-- A slice of elements that lies, beside the boxed beacon. -/
structure Eat (w : World) (b : Bn) (sa : Option Addr) (L : List Go.Em.El) (wi : World) : Prop where
  st : Stb w b wi
  lies : El_.At wi sa L
theorem Eat.keep {w : World} {b : Bn} {sa : Option Addr} {L : List Go.Em.El} (wi w' : World) (h : Eat w b sa L wi) (hb : Below wi.heap.size wi w') : Eat w b sa L w' := ⟨h.st.keep hb, h.lies.below hb⟩

set_option maxRecDepth 100000 in
set_option maxHeartbeats 4000000 in
theorem refEncode14_any (b : Bn) (w : World) (hw : TmW b.tm) :
    Calls Tryd.prog 14 #[Bn_.v b] w fun e w' => e = .returned (.tuple #[.string (encR b), .int .i64 (chk b)]) ∧ Below w.heap.size w w' := by
  obtain ⟨w1, hw1⟩ : ∃ w1, w.alloc (.cells (Bn_.C b) 31) = w1 := ⟨_, rfl⟩
  have S1 := Lib.hid (show Stb w b w1 from hw1 ▸ Stb.new w b)
  have l1 := S1.out.box.loadF
  have CC := Lib.hid fun w => refCheck14_any b w hw
  by_cases h0 : chk b = 0
  case neg =>
    have HE : Hid (encR b = ⟨#[]⟩) := if_neg h0
    have h0' : (chk b != 0) = true := by simp; exact h0
    generalize chk b = r at *
    clear h0 hw
    go_enter Tryd.func14, Tryd.ntmps14
    go_wp2_with (go_at_call 31; refine (CC.out _).mono ?_; rintro e w2 ⟨rfl, hb⟩; have S2 := Lib.hid (S1.out.keep hb); clear hb l1)
    go_returns
    exact ⟨by rw [HE.out]; rfl, S2.out.bel⟩
  have hb := chk_ok.1 h0
  have HE : Hid (encR b = octs b (els b)) := if_pos h0
  have CE := Lib.hid fun w => refElements14_any b w hw hb
  unfold ElsPost at CE
  have CO : Hid (∀ (w : World) sa c, El_.At w sa (els b) → Calls Tryd.prog 13 #[Bn_.v b, .slice sa (els b).length c] w fun e w' => e = .returned (.tuple #[.string (octs b (els b)), .int .i64 0]) ∧ Below w.heap.size w w') := fun w sa c h => by
    have := refOctets14_any b (els b) sa c w hb h (by have := els_len b; omega)
    rw [els_chk hb hw] at this
    exact this
  rw [h0] at CC ⊢
  generalize octs b (els b) = E at *
  generalize els b = L at *
  clear hw hb h0
  go_enter Tryd.func14, Tryd.ntmps14
  go_wp2_with (first
    | (go_at_call 31; refine (CC.out _).mono ?_; rintro e w2 ⟨rfl, hb⟩; have S2 := Lib.hid (S1.out.keep hb); clear hb l1))
  have l2 := S2.out.box.drew.loadF
  have q2 := S2.out.drew
  go_region_held3 (fun w' => (Bn_.LoadF ⟨w.heap.size, 0, none⟩).run Tryd.prog w' = .ok (Bn_.v b) w' ∧ Stb w b w') (first | exact ⟨by assumption, by assumption⟩ | go_keep)
    (first
    | (go_at_call 12; refine (CE.out _).mono ?_; rintro e w3 ⟨sa, c, rfl, hsl, hb⟩; have HSL := Lib.hid hsl.lies; have r2 := q2.keep hb; have r1 := r2.box.loadF)
    | (go_at_call 13; refine (CO.out _ _ _ HSL.out).mono ?_; rintro e w4 ⟨rfl, hb⟩; have s2 := r2.keep hb; have s1 := s2.box.loadF))
  go_wp2
  go_returns
  exact ⟨by rw [HE.out]; rfl, s2.bel⟩

/-- The list of the known IDs, in a block of its own. -/
theorem refIDs14_any (w : World) :
    Calls Tryd.prog 17 #[] w fun e w' => e = .returned (.slice (some ⟨w.heap.size, 0, none⟩) 6 6) ∧ w.alloc (.cells #[.int .i64 0, .int .i64 3, .int .i64 5, .int .i64 11, .int .i64 12, .int .i64 37] 3) = w' := by
  go_enter Tryd.func17, Tryd.ntmps17
  go_wp2
  go_ret
  exact ⟨rfl, rfl⟩
end Go.Proofs.YtojiffpmmgjpjaaDoor
