/-
  WALKS of package manage: filled.
-/
import Derived.Test.YtcpfkikifhcdmaaMgProg
import Derived.Test.YtcpfkikifhcdmaaLexFast
namespace Go.Proofs.Ytcpfkikifhcdmaa
open Go.RowKit Go.Mg Go.Ad
attribute [local go_sem ↓ high] Bd_.loadF Bd_.storeF Bd_.v_cells Bd_.v_match Bd_.loadP
attribute [local go_sem] Bd_.C0 Bd_.C1 Bd_.C2 Bd_.C3 Bd_.C4 Bd_.C5 Bd_.C6 Bd_.C7 Bd_.C8 Bd_.C9 Bd_.C10 Bd_.C11 Bd_.C12 Bd_.C13 Bd_.C14 Bd_.C15 Bd_.C16 Bd_.loadF_new

set_option maxRecDepth 100000 in
set_option maxHeartbeats 4000000 in
theorem mgFilled_any (b : Bd) (w : World) :
    Calls Try.prog 22 #[Bd_.v b] w fun e w' => e = .returned (.int .i64 (fif b)) ∧ Below w.heap.size w w' := by
  obtain ⟨w1, hw1⟩ : ∃ w1, w.alloc (.cells (Bd_.C b) 27) = w1 := ⟨_, rfl⟩
  have S1 := Lib.hid (show Stb w b w1 from hw1 ▸ Stb.new w b)
  have pe := plan_neq b
  have pg := fun op x y => plan_gd op x y b.pf b.pp b.pl 0 0 0
  have CW := Lib.hid mgWhen_any
  have HF : Hid (fif b = bits .or .i64 (bits .or .i64 (bits .or .i64 (bits .or .i64 (bits .or .i64 (bits .or .i64 (bits .or .i64 (bits .or .i64 (bits .or .i64 (bits .or .i64 (bits .or .i64 (bits .or .i64 (bits .or .i64 (wh (b.sp != 0) 1) (wh (b.st != 0) 2)) (wh (b.hn != 0) 4)) (wh (!b.nm.toList.isEmpty) 8)) (wh (b.ls != 0) 16)) (wh (b.dv != 0) 32)) (wh (b.od != 0) 64)) (wh (b.ai != 0) 128)) (wh (b.ct != 0) 256)) (wh (b.sr != 0) 512)) (wh (b.sz != 0) 1024)) (wh (b.ch != 0) 2048)) (wh (b.cn != 0) 4096)) (wh (!pz b) 8192)) := rfl
  go_enter Try.func22, Try.ntmps22
  go_wp2
  have hc : ∀ (p : Of (Stb w b)) (j : Nat), p.w.cell? ⟨w.heap.size, j, none⟩ = (Bd_.C b)[j]? := fun p => p.ok.box.all
  have lp : ∀ (p : Of (Stb w b)), (Bd_.LoadP ⟨w.heap.size, 14, none⟩).run Try.prog p.w = .ok (.agg #[.int .i64 b.pf, .int .i64 b.pp, .int .i64 b.pl]) p.w := fun p => p.ok.box.loadP
  have _ne : Nonempty (Of (Stb w b)) := ⟨⟨_, S1.out⟩⟩
  refine wp_region_of (Stb w b) (by kernel_rfl) (Region.lexB_of_fast (by kernel_rfl)) S1.out.drew ?_
  repeat (quiet_step (first
    | (go_at_call 44; exact Calls.of_same (CW.out _ _ _))))
  refine wpQuiet_nil ?_
  rintro _ ⟨p, rfl⟩
  clear hc lp
  go_wp2
  go_returns
  exact ⟨by rw [HF.out]; rfl, p.ok.bel⟩

end Go.Proofs.Ytcpfkikifhcdmaa
