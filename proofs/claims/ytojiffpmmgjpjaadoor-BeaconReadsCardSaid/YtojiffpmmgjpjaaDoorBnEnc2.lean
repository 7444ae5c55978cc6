/-
  THE WALK of package beacon's Encode.
-/
import Derived.Test.YtojiffpmmgjpjaaDoorBnEnc
namespace Go.Proofs.YtojiffpmmgjpjaaDoor
open Go.RowKit Go.Bn Go.Wr
attribute [local go_sem ↓ high] Bn_.loadF Bn_.storeF Bn_.v_cells Bn_.v_match Bn_.loadT Bn_.loadS Bn_.loadQ Bn_.Q_match
attribute [local go_sem] Bn_.C0 Bn_.C1 Bn_.C2 Bn_.C3 Bn_.C4 Bn_.C9 Bn_.C10 Bn_.loadF_new Bn_.loadQ_new

theorem Stb.keep' {w : World} {b : Bn} (wi w' : World) (h : Stb w b wi) (hb : Below wi.heap.size wi w') : Stb w b w' := h.keep hb
theorem Stb.drew {w wi : World} {b : Bn} (h : Stb w b wi) : Stb w b wi.drew := h.keep (Below.refl _ _).drew

set_option maxRecDepth 100000 in
set_option maxHeartbeats 4000000 in
theorem bnEncode_any (b : Bn) (w : World) (hw : TmW b.tm) :
    Calls Tryd.prog 9 #[Bn_.v b] w fun e w' => e = .returned (.tuple #[.string (encR b), .int .i64 (chk b)]) ∧ Below w.heap.size w w' := by
  obtain ⟨w1, hw1⟩ : ∃ w1, w.alloc (.cells (Bn_.C b) 31) = w1 := ⟨_, rfl⟩
  have S1 := Lib.hid (show Stb w b w1 from hw1 ▸ Stb.new w b)
  have l1 := S1.out.box.loadF
  have CC := Lib.hid fun w => bnCheck_any b w hw
  by_cases h0 : chk b = 0
  case neg =>
    have HE : Hid (encR b = ⟨#[]⟩) := if_neg h0
    have h0' : (chk b != 0) = true := by simp; exact h0
    generalize chk b = r at *
    clear h0 hw
    go_enter Tryd.func9, Tryd.ntmps9
    go_wp2_with (go_at_call 10; refine (CC.out _).mono ?_; rintro e w2 ⟨rfl, hb⟩; have S2 := Lib.hid (S1.out.keep hb); clear hb l1)
    go_returns
    exact ⟨by rw [HE.out]; rfl, S2.out.bel⟩
  have hb := chk_ok.1 h0
  have hst := hb.st
  have hiv := hb.iv
  have HE : Hid (encR b = enc b) := if_pos h0
  have CE := Lib.hid fun w => bnElements_any b w hw hb
  have hes := Go.Em.enc_size (els b)
  have CL : Hid (∀ (w : World) sa c, El_.Sl w sa (els b) c → Calls Tryd.prog 20 #[.slice sa (els b).length c] w fun e w' => e = .returned (.tuple #[.string (Go.Em.enc (els b)), .int .i64 0]) ∧ Below w.heap.size w w') := fun w sa c h => by
    have := encode_any (els b) sa c w h.lies (by have := els_len b; omega)
    rw [els_chk hb hw] at this
    exact this
  have N1 : Hid (∀ w, Calls Tryd.prog 22 #[.int .i64 b.st, .int .i64 4] w fun e w' => e = .returned (.string (oz (le b.st.toNat 4))) ∧ Below w.heap.size w w') := fun w => bnNumber_any b.st 4 w (by decide) (by rw [pow4]; omega)
  have N2 : Hid (∀ w, Calls Tryd.prog 22 #[.int .i64 b.iv, .int .i64 2] w fun e w' => e = .returned (.string (oz (le b.iv.toNat 2))) ∧ Below w.heap.size w w') := fun w => bnNumber_any b.iv 2 w (by decide) (by rw [pow2]; omega)
  have a1 := oz_add (le b.st.toNat 4) (le b.iv.toNat 2) (by simp [le_len])
  have a2 : ∀ W, (Op.stringOp .add (oz (le b.st.toNat 4 ++ le b.iv.toNat 2)) (Go.Em.enc (els b))).run Tryd.prog W = .ok (.string (enc b)) W := fun W => by
    have h := oz_add (le b.st.toNat 4 ++ le b.iv.toNat 2) (Go.Em.enc (els b)).data.toList (by simp only [List.length_append, le_len, Array.length_toList]; have : (Go.Em.enc (els b)).data.size = (Go.Em.enc (els b)).size := rfl; omega) W
    rw [oz_of] at h
    exact h
  rw [h0] at CC ⊢
  generalize enc b = E at *
  generalize Go.Em.enc (els b) = L at *
  generalize oz (le b.st.toNat 4 ++ le b.iv.toNat 2) = z at *
  generalize oz (le b.st.toNat 4) = n1 at *
  generalize oz (le b.iv.toNat 2) = n2 at *
  clear hw hb hst hiv h0 hes
  go_enter Tryd.func9, Tryd.ntmps9
  go_wp2_with (first
    | (go_at_call 10; refine (CC.out _).mono ?_; rintro e w2 ⟨rfl, hb⟩; have S2 := Lib.hid (S1.out.keep hb); have l2 := S2.out.box.loadF; clear hb l1)
    | (go_at_call 21; refine (CE.out _).mono ?_; rintro e w3 ⟨sa, c, rfl, hsl, hb⟩; have HSL := Lib.hid hsl; have S3 := Lib.hid (S2.out.keep hb); clear hb l2 hsl)
    | (go_at_call 20; refine (CL.out _ _ _ HSL.out).mono ?_; rintro e w4 ⟨rfl, hb⟩; have S4 := Lib.hid (S3.out.keep hb); clear hb))
  have hc : ∀ (p : Of (Stb w b)) (j : Nat), p.w.cell? ⟨w.heap.size, j, none⟩ = (Bn_.C b)[j]? := fun p => p.ok.box.all
  have _ne : Nonempty (Of (Stb w b)) := ⟨⟨_, S4.out⟩⟩
  refine wp_region_of (Stb w b) (by kernel_rfl) (by kernel_rfl) S4.out.drew ?_
  repeat (quiet_step (first
    | (go_at_call 22; with_reducible exact Calls.of_below Stb.keep' (N1.out _))
    | (go_at_call 22; with_reducible exact Calls.of_below Stb.keep' (N2.out _))))
  refine wpQuiet_nil ?_
  rintro _ ⟨p, rfl⟩
  go_wp2
  go_returns
  exact ⟨by rw [HE.out]; rfl, p.ok.bel⟩
end Go.Proofs.YtojiffpmmgjpjaaDoor
