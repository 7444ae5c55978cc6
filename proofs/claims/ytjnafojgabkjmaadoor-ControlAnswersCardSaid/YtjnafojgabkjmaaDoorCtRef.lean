/-
  WALKS of the reference of layer 11: Respond, RTS, Poll, answerable, CTS, Ack, within.
-/
import Derived.Test.YtjnafojgabkjmaaDoorFrRet
import Derived.Test.YtjnafojgabkjmaaDoorCtMath
import Derived.Test.YtjnafojgabkjmaaDoorHdCheck
import Derived.Test.YtjnafojgabkjmaaDoorHdKinds
import Derived.Test.YtjnafojgabkjmaaDoorAdRef
import Derived.Test.YtjnafojgabkjmaaDoorCtProg2
import Derived.Lib.MinMax
import Derived.Deep.RegionWith
namespace Go.Proofs.YtjnafojgabkjmaaDoor
open Go.RowKit Go.Hd Go.Wr Go.Ct
attribute [local go_sem ↓ high] Fr_.loadF Fr_.storeF Fr_.v_cells Fr_.v_match
attribute [local go_sem] Fr_.C0 Fr_.C1 Fr_.C2 Fr_.C3 Fr_.C4 Fr_.C5 Fr_.C6 Fr_.C7 Fr_.C8 Fr_.C9 Fr_.C10 Fr_.C11 Fr_.C12 Fr_.C13 Fr_.C14 Fr_.C15 Fr_.C16 Fr_.C17 Fr_.storeF_zero

theorem within_any (c s : Int) (w : World) :
    Calls Tryd.prog 48 #[.int .i64 c, .int .i64 s] w fun e w' => e = .returned (.bool (decide (win c s))) ∧ w = w' := by
  by_cases h0 : 0 ≤ c <;> by_cases h1 : c < 4 <;> by_cases h2 : 0 ≤ s <;> by_cases h3 : s < 4096
  all_goals
    first
      | rw [decide_eq_true (show win c s from ⟨⟨h0, h1⟩, h2, h3⟩)]
      | rw [decide_eq_false (show ¬ win c s from fun h => by unfold win at h; omega)]
    go_enter Tryd.func48, Tryd.ntmps48
    go_wp2
    go_returns
    exact ⟨rfl, rfl⟩

theorem refRespond_any (d s : Int) (w : World) (hd : (Lit.int .i64 d).wf = true) (hs : (Lit.int .i64 s).wf = true) :
    Calls Tryd.prog 22 #[.int .i64 d, .int .i64 s] w fun e w' => e = .returned (.int .i64 (rsd d s)) ∧ w = w' := by
  have bd := i64_of hd
  have bs := i64_of hs
  clear hd hs
  go_enter Tryd.func22, Tryd.ntmps22
  go_wp2
  go_returns
  exact ⟨congrArg (fun x => Ending.returned (.int .i64 x)) (rsd_max' d s), rfl⟩

set_option maxRecDepth 100000 in
set_option maxHeartbeats 2000000 in
theorem refRTS_any (ta fa d : Int) (w : World) :
    Calls Tryd.prog 17 #[.int .u64 ta, .int .u64 fa, .int .i64 d] w fun e w' => e = .returned (Fr_.v (mkF 12 d ta fa ⟨#[]⟩)) ∧ Below w.heap.size w w' := by
  obtain ⟨w1, hw1⟩ : ∃ w1, w.alloc (.cells #[.int .i64 0, .bool false, .bool false, .bool false, .bool false, .bool false, .bool false, .int .i64 0, .int .i64 0, .int .u64 0, .int .u64 0, .int .u64 0, .int .i64 0, .int .i64 0, .int .i64 0, .int .i64 0, .int .i64 0, .string ⟨#[]⟩] 27) = w1 := ⟨_, rfl⟩
  have st := Lib.hid (show Gst w w.heap.size w1 from hw1 ▸ Gst.new w)
  have hf := mk_fold 12 d ta fa ⟨#[]⟩
  have sf := st.out.res.storeF (mkF 12 d ta fa ⟨#[]⟩)
  go_enter Tryd.func17, Tryd.ntmps17
  go_wp2
  exact ret_frame Tryd.results17 rfl (st.out.res.setRow _) rfl ⟨rfl, st.out.fin _⟩
set_option maxRecDepth 100000 in
set_option maxHeartbeats 2000000 in
theorem refPoll_any (ta fa : Int) (w : World) :
    Calls Tryd.prog 19 #[.int .u64 ta, .int .u64 fa] w fun e w' => e = .returned (Fr_.v (mkF 17 0 ta fa ⟨#[]⟩)) ∧ Below w.heap.size w w' := by
  obtain ⟨w1, hw1⟩ : ∃ w1, w.alloc (.cells #[.int .i64 0, .bool false, .bool false, .bool false, .bool false, .bool false, .bool false, .int .i64 0, .int .i64 0, .int .u64 0, .int .u64 0, .int .u64 0, .int .i64 0, .int .i64 0, .int .i64 0, .int .i64 0, .int .i64 0, .string ⟨#[]⟩] 27) = w1 := ⟨_, rfl⟩
  have st := Lib.hid (show Gst w w.heap.size w1 from hw1 ▸ Gst.new w)
  have hf := mk_fold 17 0 ta fa ⟨#[]⟩
  have sf := st.out.res.storeF (mkF 17 0 ta fa ⟨#[]⟩)
  go_enter Tryd.func19, Tryd.ntmps19
  go_wp2
  exact ret_frame Tryd.results19 rfl (st.out.res.setRow _) rfl ⟨rfl, st.out.fin _⟩

set_option maxHeartbeats 2000000 in
theorem refSingle_any (a : Int) (w : World) (hu : u64 a) :
    Calls Tryd.prog 70 #[.int .u64 a] w fun e w' => e = .returned (.bool (decide (vad a ∧ ¬ grp a))) ∧ w = w' := by
  obtain ⟨n, rfl⟩ : ∃ n : Nat, a = n := ⟨a.toNat, by have := hu.1; omega⟩
  have CV := Lib.hid (fun w => refValid5_any n w)
  have CG := Lib.hid (fun w => refGroup5_any n w (by have := hu.2; omega))
  have ev : Go.Ad.vald n = decide (vad (n : Int)) := by
    unfold Go.Ad.vald vad
    exact decide_eq_decide.2 (by omega)
  have eg : Go.Ad.grp n = decide (grp (n : Int)) := by
    unfold Go.Ad.grp Go.Ad.vald grp vad
    rw [← Bool.decide_and]
    exact decide_eq_decide.2 (by omega)
  rw [ev] at CV
  rw [eg] at CG
  clear ev eg hu
  generalize ((n : Nat) : Int) = a at *
  by_cases hv : vad a
  · rw [decide_eq_true hv] at CV
    by_cases hg : grp a
    · rw [decide_eq_true hg] at CG
      rw [decide_eq_false (fun h => h.2 hg)]
      clear hv hg
      go_enter Tryd.func70, Tryd.ntmps70
      go_wp2_with (first | (go_at_call 83; refine (CV.out _).mono ?_; rintro e w' ⟨rfl, rfl⟩) | (go_at_call 84; refine (CG.out _).mono ?_; rintro e w' ⟨rfl, rfl⟩))
      go_returns
      exact ⟨rfl, rfl⟩
    · rw [decide_eq_false hg] at CG
      rw [decide_eq_true (⟨hv, hg⟩ : vad a ∧ ¬ grp a)]
      clear hv hg
      go_enter Tryd.func70, Tryd.ntmps70
      go_wp2_with (first | (go_at_call 83; refine (CV.out _).mono ?_; rintro e w' ⟨rfl, rfl⟩) | (go_at_call 84; refine (CG.out _).mono ?_; rintro e w' ⟨rfl, rfl⟩))
      go_returns
      exact ⟨rfl, rfl⟩
  · rw [decide_eq_false hv] at CV
    rw [decide_eq_false (fun h => hv h.1)]
    clear hv
    go_enter Tryd.func70, Tryd.ntmps70
    go_wp2_with (go_at_call 83; refine (CV.out _).mono ?_; rintro e w' ⟨rfl, rfl⟩)
    go_returns
    exact ⟨rfl, rfl⟩

set_option maxRecDepth 100000 in
set_option maxHeartbeats 2000000 in
theorem refAnswerable_any (f : Fr) (w : World) (hu : FrU f) :
    Calls Tryd.prog 50 #[Fr_.v f] w fun e w' => e = .returned (.bool (decide (ans f))) ∧ Below w.heap.size w w' := by
  have S1 := Lib.hid (Stf.new w f)
  have CC := Lib.hid (fun w1 => refCheck_any f w1)
  have CG := Lib.hid (fun w => refSingle_any f.ta w hu.ta)
  have l1 := S1.out.box.loadF
  by_cases h : chk f = 0
  · have hc : (chk f == 0) = true := by rw [h]; rfl
    have hv := ans_single f h
    by_cases hg : grp f.ta
    · rw [decide_eq_false (show ¬ ans f from fun h => h.2 hg)]
      rw [decide_eq_false (fun h => h.2 hg)] at CG
      clear h hg hu hv
      go_enter Tryd.func50, Tryd.ntmps50
      go_wp2_with (first
        | (go_at_call 69; refine (CC.out _).mono ?_; rintro e w2 ⟨rfl, hb⟩; have S2 := Lib.hid (Stf.keep _ _ S1.out hb); clear hb l1; have e2 := S2.out.box.all)
        | (go_at_call 70; refine (CG.out _).mono ?_; rintro e w3 ⟨rfl, rfl⟩))
      go_returns
      exact ⟨rfl, S2.out.bel⟩
    · rw [decide_eq_true (show ans f from ⟨h, hg⟩)]
      rw [decide_eq_true (⟨hv, hg⟩ : vad f.ta ∧ ¬ grp f.ta)] at CG
      clear h hg hu hv
      go_enter Tryd.func50, Tryd.ntmps50
      go_wp2_with (first
        | (go_at_call 69; refine (CC.out _).mono ?_; rintro e w2 ⟨rfl, hb⟩; have S2 := Lib.hid (Stf.keep _ _ S1.out hb); clear hb l1; have e2 := S2.out.box.all)
        | (go_at_call 70; refine (CG.out _).mono ?_; rintro e w3 ⟨rfl, rfl⟩))
      go_returns
      exact ⟨rfl, S2.out.bel⟩
  · have hc : (chk f == 0) = false := by rw [beq_eq_false_iff_ne]; exact h
    rw [decide_eq_false (show ¬ ans f from fun hh => h hh.1)]
    clear h hu
    go_enter Tryd.func50, Tryd.ntmps50
    go_wp2_with (first
      | (go_at_call 69; refine (CC.out _).mono ?_; rintro e w2 ⟨rfl, hb⟩; have S2 := Lib.hid (Stf.keep _ _ S1.out hb); clear hb l1; have e2 := S2.out.box.all)
      | (go_at_call 70; refine (CG.out _).mono ?_; rintro e w3 ⟨rfl, rfl⟩))
    go_returns
    exact ⟨rfl, S2.out.bel⟩

set_option maxRecDepth 100000 in
set_option maxHeartbeats 2000000 in
theorem refCTS_any (f : Fr) (w : World) (hu : FrU f) (hd : (Lit.int .i64 f.du).wf = true) :
    Calls Tryd.prog 24 #[Fr_.v f] w fun e w' => e = .returned (.tuple #[Fr_.v (ctsF f), .bool (decide (okC f))]) ∧ Below w.heap.size w w' := by
  obtain ⟨w1, hw1⟩ : ∃ w1, w.alloc (.cells (Fr_.C f) 27) = w1 := ⟨_, rfl⟩
  obtain ⟨w2, hw2⟩ : ∃ w2, w1.alloc (.cells #[.int .i64 0, .bool false, .bool false, .bool false, .bool false, .bool false, .bool false, .int .i64 0, .int .i64 0, .int .u64 0, .int .u64 0, .int .u64 0, .int .i64 0, .int .i64 0, .int .i64 0, .int .i64 0, .int .i64 0, .string ⟨#[]⟩] 27) = w2 := ⟨_, rfl⟩
  have st := Lib.hid (show Fst w f w1.heap.size w2 from hw2 ▸ Fst.new f hw1)
  have CA := Lib.hid (fun w1 => refAnswerable_any f w1 hu)
  have CR := Lib.hid (fun w => refRespond_any f.du 7 w hd (by decide))
  have l2 := st.out.box.loadF
  clear hu hd
  by_cases ha : ans f
  · rw [decide_eq_true ha] at CA
    by_cases hk : f.kd = 12
    · have hn : (f.kd != 12) = false := by rw [hk]; rfl
      rw [decide_eq_true (show okC f from ⟨ha, hk⟩), show ctsF f = mkF 13 (rsd f.du 7) f.fa 0 ⟨#[]⟩ from if_pos ⟨ha, hk⟩]
      have hf := mk_fold 13 (rsd f.du 7) f.fa 0 ⟨#[]⟩
      clear ha hk
      go_enter Tryd.func24, Tryd.ntmps24
      go_wp2_with (first
        | (go_at_call 50; refine (CA.out _).mono ?_; rintro e w3 ⟨rfl, hb⟩; have st3 := Lib.hid (st.out.keep hb); clear hb l2; have e3 := st3.out.box.all))
      clear e3
      have e3 := st3.out.box.drew.all
      have sf := st3.out.res.drew.storeF (mkF 13 (rsd f.du 7) f.fa 0 ⟨#[]⟩)
      go_region_with (go_at_call 22; refine (CR.out _).mono ?_; rintro e w' ⟨rfl, rfl⟩)
      all_goals go_wp2
      all_goals exact ret_two Tryd.results24 rfl rfl (st3.out.res.drew.setRow _) rfl ⟨rfl, below_setRow st3.out.bel.drew (Nat.le_of_lt st3.out.re)⟩
    · have hn : (f.kd != 12) = true := by rw [bne_iff_ne]; exact hk
      rw [decide_eq_false (show ¬ okC f from fun h => hk h.2), show ctsF f = Fr_.zf from if_neg (fun h => hk h.2)]
      clear ha hk
      go_enter Tryd.func24, Tryd.ntmps24
      go_wp2_with (first
        | (go_at_call 50; refine (CA.out _).mono ?_; rintro e w3 ⟨rfl, hb⟩; have st3 := Lib.hid (st.out.keep hb); clear hb l2; have e3 := st3.out.box.all; have sf := st3.out.zero))
      exact ret_two Tryd.results24 rfl rfl (st3.out.res.setRow _) rfl ⟨rfl, st3.out.fin _⟩
  · rw [decide_eq_false ha] at CA
    rw [decide_eq_false (show ¬ okC f from fun h => ha h.1), show ctsF f = Fr_.zf from if_neg (fun h => ha h.1)]
    clear ha
    go_enter Tryd.func24, Tryd.ntmps24
    go_wp2_with (first
      | (go_at_call 50; refine (CA.out _).mono ?_; rintro e w3 ⟨rfl, hb⟩; have st3 := Lib.hid (st.out.keep hb); clear hb l2; have sf := st3.out.zero))
    exact ret_two Tryd.results24 rfl rfl (st3.out.res.setRow _) rfl ⟨rfl, st3.out.fin _⟩
end Go.Proofs.YtjnafojgabkjmaaDoor
