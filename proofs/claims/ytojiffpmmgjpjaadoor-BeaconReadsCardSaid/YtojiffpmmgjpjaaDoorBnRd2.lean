/-
  THE WALK of package beacon's readElement, element by element.
-/
import Derived.Test.YtojiffpmmgjpjaaDoorBnRd
import Derived.Deep.DeepCutAuto
namespace Go.Proofs.YtojiffpmmgjpjaaDoor
open Go.RowKit Go.Bn Go.Wr
attribute [local go_sem ↓ high] Bn_.loadT Bn_.storeT Bn_.storeS Bn_.storeP

theorem storeT_new14 (W : World) (c p m : Int) (g : Bool) : (Bn_.StoreT ⟨W.heap.size, 0, none⟩ (.agg #[.int .i64 c, .int .i64 p, .bool g, .int .u64 m])).run Tryd.prog (W.alloc (.cells #[.int .i64 0, .int .i64 0, .bool false, .int .u64 0] 24)) = .ok () (W.alloc (.cells #[.int .i64 c, .int .i64 p, .bool g, .int .u64 m] 24)) :=
  run_storeVar_new W 24 _ #[.int .i64 c, .int .i64 p, .bool g, .int .u64 m] Bn_.szT rfl (by simp [Value.oneCell'])
theorem loadT_new14 (W : World) (c p m : Int) (g : Bool) : (Bn_.LoadT ⟨W.heap.size, 0, none⟩).run Tryd.prog (W.alloc (.cells #[.int .i64 c, .int .i64 p, .bool g, .int .u64 m] 24)) = .ok (.agg #[.int .i64 c, .int .i64 p, .bool g, .int .u64 m]) (W.alloc (.cells #[.int .i64 c, .int .i64 p, .bool g, .int .u64 m] 24)) :=
  Bn_.loadT_of (by simp) (by simp) (by simp) (by simp)
attribute [local go_sem] storeT_new14 loadT_new14

set_option maxRecDepth 100000 in
set_option maxHeartbeats 2000000 in
theorem bnEl0 (b : Bn) (s : ByteArray) (pb : Nat) (w : World) (h : Bn_.Box w pb b) :
    Calls Tryd.prog 50 #[.pointer (some ⟨pb, 0, none⟩), .agg #[.int .i64 0, .string s]] w fun e w' => ElPost b ⟨0, s⟩ pb w e w' := by
  have S1 := Lib.hid (Rst.new h 0 s)
  clear h
  go_enter Tryd.func50, Tryd.ntmps50
  go_wp2_with (first
    | (go_at_call 43; refine (new_any _ _).mono ?_; rintro e w' ⟨rfl, rfl⟩)
    | (go_at_call 45; refine S1.out.rest.mono ?_; rintro e w2 ⟨rfl, s2⟩; have fz := s2.box.frozen 2; have e2 := s2.box.all 2; have S2 := Lib.hid s2; have S3 := Lib.hid (s2.put (s2.box.set2 s) (But.set1 pb 2 _ _)); clear s2)
    | (go_at_call 74; refine S3.out.fin.mono ?_; rintro e w3 ⟨rfl, rfl⟩))
  go_ret
  exact elPost_of S3.out rfl rfl (fun _ => rfl)

theorem one_bn {s : ByteArray} {k : Nat} : enE (rN k (0, s.data.toList)).2 = Go.Bn.sz1 s k := by
  have := enE_rds s [k] k (by simp)
  exact this
theorem one_num {s : ByteArray} {k : Nat} (h : Go.Bn.sz1 s k = 0) : (rN k (0, s.data.toList)).1 = num s 0 k := by
  have := rN_num (s := s) (i := 0) (k := k) (by have := sz1_zero h; omega)
  rw [List.drop_zero] at this
  rw [this]

set_option maxRecDepth 100000 in
set_option maxHeartbeats 2000000 in
theorem bnEl3 (b : Bn) (s : ByteArray) (pb : Nat) (w : World) (h : Bn_.Box w pb b) :
    Calls Tryd.prog 50 #[.pointer (some ⟨pb, 0, none⟩), .agg #[.int .i64 3, .string s]] w fun e w' => ElPost b ⟨3, s⟩ pb w e w' := by
  have S1 := Lib.hid (Rst.new h 3 s)
  have HZ := Lib.hid (one_bn (s := s) (k := 1))
  have HN := Lib.hid (one_num (s := s) (k := 1))
  have C1 : Hid (∀ w2, Rst w pb (w.heap.size + 1) b (0, s.data.toList) w2 → Calls Tryd.prog 44 #[.pointer (some ⟨w.heap.size + 1, 0, none⟩), .int .i64 1] w2 fun e w' => e = .returned (.int .i64 (rN 1 (0, s.data.toList)).1) ∧ Rst w pb (w.heap.size + 1) b (rN 1 (0, s.data.toList)).2 w') := fun w2 h => h.num1
  generalize rN 1 (0, s.data.toList) = q at *
  obtain ⟨z, τ⟩ := q
  simp only at C1 HN HZ
  clear h
  go_enter Tryd.func50, Tryd.ntmps50
  go_wp2_with (first
    | (go_at_call 43; refine (new_any _ _).mono ?_; rintro e w' ⟨rfl, rfl⟩)
    | (go_at_call 44; refine (C1.out _ S1.out).mono ?_; rintro e w2 ⟨rfl, s2⟩; have fz := s2.box.frozen 3; have e2 := s2.box.all 3; have S3 := Lib.hid (s2.put (s2.box.set3 z) (But.set1 pb 3 _ _)); clear s2)
    | (go_at_call 74; refine S3.out.fin.mono ?_; rintro e w3 ⟨rfl, rfl⟩))
  go_ret
  exact elPost_of S3.out rfl HZ.out.symm (fun h0 => by rw [show z = num s 0 1 from HN.out h0]; rfl)

set_option maxRecDepth 100000 in
set_option maxHeartbeats 2000000 in
theorem bnEl11 (b : Bn) (s : ByteArray) (pb : Nat) (w : World) (h : Bn_.Box w pb b) :
    Calls Tryd.prog 50 #[.pointer (some ⟨pb, 0, none⟩), .agg #[.int .i64 11, .string s]] w fun e w' => ElPost b ⟨11, s⟩ pb w e w' := by
  have S1 := Lib.hid (Rst.new h 11 s)
  have HZ := Lib.hid (one_bn (s := s) (k := 2))
  have HN := Lib.hid (one_num (s := s) (k := 2))
  have C1 : Hid (∀ w2, Rst w pb (w.heap.size + 1) b (0, s.data.toList) w2 → Calls Tryd.prog 44 #[.pointer (some ⟨w.heap.size + 1, 0, none⟩), .int .i64 2] w2 fun e w' => e = .returned (.int .i64 (rN 2 (0, s.data.toList)).1) ∧ Rst w pb (w.heap.size + 1) b (rN 2 (0, s.data.toList)).2 w') := fun w2 h => h.num2
  generalize rN 2 (0, s.data.toList) = q at *
  obtain ⟨z, τ⟩ := q
  simp only at C1 HN HZ
  clear h
  go_enter Tryd.func50, Tryd.ntmps50
  go_wp2_with (first
    | (go_at_call 43; refine (new_any _ _).mono ?_; rintro e w' ⟨rfl, rfl⟩)
    | (go_at_call 44; refine (C1.out _ S1.out).mono ?_; rintro e w2 ⟨rfl, s2⟩; have fz := s2.box.frozen 4; have e2 := s2.box.all 4; have S3 := Lib.hid (s2.put (s2.box.set4 z) (But.set1 pb 4 _ _)); clear s2)
    | (go_at_call 74; refine S3.out.fin.mono ?_; rintro e w3 ⟨rfl, rfl⟩))
  go_ret
  exact elPost_of S3.out rfl HZ.out.symm (fun h0 => by rw [show z = num s 0 2 from HN.out h0]; rfl)

set_option maxRecDepth 100000 in
set_option maxHeartbeats 2000000 in
theorem bnEl5 (b : Bn) (s : ByteArray) (pb : Nat) (w : World) (h : Bn_.Box w pb b) (hs : s.size ≤ 100000) :
    Calls Tryd.prog 50 #[.pointer (some ⟨pb, 0, none⟩), .agg #[.int .i64 5, .string s]] w fun e w' => ElPost b ⟨5, s⟩ pb w e w' := by
  have S1 := Lib.hid (Rst.new h 5 s)
  have CD : Hid (∀ w, Calls Tryd.prog 72 #[.string s] w fun e w' => e = .returned (.tuple #[.agg #[.int .i64 (Go.Tm.dec s).1.c, .int .i64 (Go.Tm.dec s).1.p, .bool (Go.Tm.dec s).1.g, .int .u64 (Go.Tm.dec s).1.m], .int .i64 (Go.Tm.dec s).2]) ∧ Below w.heap.size w w') := fun w => tmDecode_any s w (by omega)
  have HE : Hid (elE ⟨5, s⟩ = (Go.Tm.dec s).2) := rfl
  have HB : Hid (elB b ⟨5, s⟩ = { b with tm := (Go.Tm.dec s).1 }) := rfl
  generalize Go.Tm.dec s = q at *
  obtain ⟨t, r⟩ := q
  simp only at CD HE HB
  have HF : Hid (enE (rF r (0, [])) = r) := by
    unfold Hid enE rF
    simp only [if_true, List.length_nil, Nat.lt_irrefl, if_false]
    split
    · rename_i h0; exact h0.symm
    · rfl
  clear h hs
  go_enter Tryd.func50, Tryd.ntmps50
  go_wp2_with (first
    | (go_at_call 43; refine (new_any _ _).mono ?_; rintro e w' ⟨rfl, rfl⟩)
    | (go_at_call 45; refine S1.out.rest.mono ?_; rintro e w2 ⟨rfl, s2⟩; have S2 := Lib.hid s2; clear s2)
    | (go_at_call 72; refine (CD.out _).mono ?_; rintro e w3 ⟨rfl, hb⟩; have s3 := (S2.out.keep hb).keep ((Below.refl _ _).alloc (Nat.le_refl _) (.cells #[.int .i64 t.c, .int .i64 t.p, .bool t.g, .int .u64 t.m] 24)); have sf := s3.box.storeT t; have S4 := Lib.hid (s3.put (s3.box.setT t) (Bn_.but_setT _ pb t)); clear s3 hb)
    | (go_at_call 73; refine (S4.out.fail r).mono ?_; rintro e w4 ⟨rfl, s5⟩; have S5 := Lib.hid s5; clear s5)
    | (go_at_call 74; refine S5.out.fin.mono ?_; rintro e w5 ⟨rfl, rfl⟩))
  go_ret
  exact elPost_of S5.out rfl (HE.out.trans HF.out.symm) (fun _ => HB.out.symm)

theorem two_num {s : ByteArray} (h : Go.Bn.sz1 s 2 = 0) : (rN 1 (0, s.data.toList)).1 = num s 0 1 ∧ (rN 1 (rN 1 (0, s.data.toList)).2).1 = num s 1 1 := by
  have e0 := rN_num (s := s) (i := 0) (k := 1) (by have := sz1_zero h; omega)
  have e1 := rN_num (s := s) (i := 1) (k := 1) (by have := sz1_zero h; omega)
  rw [List.drop_zero] at e0
  rw [e0, e1]
  exact ⟨rfl, rfl⟩
set_option maxRecDepth 100000 in
set_option maxHeartbeats 2000000 in
theorem bnEl37 (b : Bn) (s : ByteArray) (pb : Nat) (w : World) (h : Bn_.Box w pb b) :
    Calls Tryd.prog 50 #[.pointer (some ⟨pb, 0, none⟩), .agg #[.int .i64 37, .string s]] w fun e w' => ElPost b ⟨37, s⟩ pb w e w' := by
  have S1 := Lib.hid (Rst.new h 37 s)
  have HZ : Hid (enE (rN 1 (rN 1 (0, s.data.toList)).2).2 = Go.Bn.sz1 s 2) := enE_rds s [1, 1] 2 rfl
  have HN := Lib.hid (two_num (s := s))
  have C1 : Hid (∀ w2, Rst w pb (w.heap.size + 1) b (0, s.data.toList) w2 → Calls Tryd.prog 44 #[.pointer (some ⟨w.heap.size + 1, 0, none⟩), .int .i64 1] w2 fun e w' => e = .returned (.int .i64 (rN 1 (0, s.data.toList)).1) ∧ Rst w pb (w.heap.size + 1) b (rN 1 (0, s.data.toList)).2 w') := fun w2 h => h.num1
  have C2 : Hid (∀ w2, Rst w pb (w.heap.size + 1) b (rN 1 (0, s.data.toList)).2 w2 → Calls Tryd.prog 44 #[.pointer (some ⟨w.heap.size + 1, 0, none⟩), .int .i64 1] w2 fun e w' => e = .returned (.int .i64 (rN 1 (rN 1 (0, s.data.toList)).2).1) ∧ Rst w pb (w.heap.size + 1) b (rN 1 (rN 1 (0, s.data.toList)).2).2 w') := fun w2 h => h.num1
  generalize rN 1 (rN 1 (0, s.data.toList)).2 = q2 at *
  generalize rN 1 (0, s.data.toList) = q at *
  obtain ⟨z, τ⟩ := q
  obtain ⟨y, τ2⟩ := q2
  simp only at C1 C2 HN HZ
  clear h
  go_enter Tryd.func50, Tryd.ntmps50
  go_wp2_with (first
    | (go_at_call 43; refine (new_any _ _).mono ?_; rintro e w' ⟨rfl, rfl⟩)
    | (go_at_call 44; refine (C2.out _ S2.out).mono ?_; rintro e w3 ⟨rfl, s3⟩; have sf := s3.box.storeS z y; have S3 := Lib.hid (s3.put (s3.box.setS z y) (Bn_.but_setS _ pb z y)); clear s3)
    | (go_at_call 44; refine (C1.out _ S1.out).mono ?_; rintro e w2 ⟨rfl, s2⟩; have S2 := Lib.hid s2; clear s2)
    | (go_at_call 74; refine S3.out.fin.mono ?_; rintro e w4 ⟨rfl, rfl⟩))
  go_ret
  exact elPost_of S3.out rfl HZ.out.symm (fun h0 => by rw [show z = num s 0 1 from (HN.out h0).1, show y = num s 1 1 from (HN.out h0).2]; rfl)

theorem rP_eq (σ : Sg) : rP σ = ⟨(rN 1 σ).1, (rN 1 (rN 1 σ).2).1, (rN 1 (rN 1 (rN 1 σ).2).2).1, (rN 2 (rN 1 (rN 1 (rN 1 σ).2).2).2).1⟩ := rfl
theorem rPS_eq (σ : Sg) : rPS σ = (rN 2 (rN 1 (rN 1 (rN 1 σ).2).2).2).2 := rfl
set_option maxRecDepth 100000 in
set_option maxHeartbeats 4000000 in
theorem bnEl12 (b : Bn) (s : ByteArray) (pb : Nat) (w : World) (h : Bn_.Box w pb b) :
    Calls Tryd.prog 50 #[.pointer (some ⟨pb, 0, none⟩), .agg #[.int .i64 12, .string s]] w fun e w' => ElPost b ⟨12, s⟩ pb w e w' := by
  have S1 := Lib.hid (Rst.new h 12 s)
  have HZ : Hid (enE (stp b (0, s.data.toList) 4).2 = Go.Bn.sz1 s 20) := by
    unfold Hid; rw [stp_snd]; exact enE_rds s _ 20 rfl
  have HN : Hid (Go.Bn.sz1 s 20 = 0 → (stp b (0, s.data.toList) 4).1 = { b with p0 := prAt s 0, p1 := prAt s 5, p2 := prAt s 10, p3 := prAt s 15 }) := fun h => stp_ok (sz1_zero h)
  have H0 : Hid (stp b (0, s.data.toList) 0 = (b, (0, s.data.toList))) := rfl
  have HS : Hid (∀ k, stp b (0, s.data.toList) (k + 1) = ((stp b (0, s.data.toList) k).1.setPr k (rP (stp b (0, s.data.toList) k).2), rPS (stp b (0, s.data.toList) k).2)) := fun _ => rfl
  generalize stp b (0, s.data.toList) = T at *
  clear h
  go_enter Tryd.func50, Tryd.ntmps50
  go_wp2_with (first
    | (go_at_call 43; refine (new_any _ _).mono ?_; rintro e w' ⟨rfl, rfl⟩))
  go_loopw [8, 52] (fun _ i wr => ∃ k : Nat, k ≤ 4 ∧ i = .int .i64 k ∧ Rst w pb (w.heap.size + 1) (T k).1 (T k).2 wr) (fun _ i _ => 4 - (intOf i).toNat)
  case atStart => exact ⟨0, by omega, rfl, by rw [H0.out]; exact S1.out⟩
  case round =>
    rename_i wr
    obtain ⟨k, hk, rfl, hst⟩ := hrel
    have HST := Lib.hid hst
    clear hst
    by_cases h4 : k < 4
    · have HT := Lib.hid (HS.out k)
      have HST' := Lib.hid HST.out.drew
      generalize (T k).1 = y at *
      generalize (T k).2 = σ at *
      rw [rP_eq, rPS_eq] at HT
      have C1 : Hid (∀ w2, Rst w pb (w.heap.size + 1) y σ w2 → Calls Tryd.prog 44 #[.pointer (some ⟨w.heap.size + 1, 0, none⟩), .int .i64 1] w2 fun e w' => e = .returned (.int .i64 (rN 1 σ).1) ∧ Rst w pb (w.heap.size + 1) y (rN 1 σ).2 w') := fun w2 h => h.num1
      generalize rN 1 σ = q1 at *
      have C2 : Hid (∀ w2, Rst w pb (w.heap.size + 1) y q1.2 w2 → Calls Tryd.prog 44 #[.pointer (some ⟨w.heap.size + 1, 0, none⟩), .int .i64 1] w2 fun e w' => e = .returned (.int .i64 (rN 1 q1.2).1) ∧ Rst w pb (w.heap.size + 1) y (rN 1 q1.2).2 w') := fun w2 h => h.num1
      generalize rN 1 q1.2 = q2 at *
      have C3 : Hid (∀ w2, Rst w pb (w.heap.size + 1) y q2.2 w2 → Calls Tryd.prog 44 #[.pointer (some ⟨w.heap.size + 1, 0, none⟩), .int .i64 1] w2 fun e w' => e = .returned (.int .i64 (rN 1 q2.2).1) ∧ Rst w pb (w.heap.size + 1) y (rN 1 q2.2).2 w') := fun w2 h => h.num1
      generalize rN 1 q2.2 = q3 at *
      have C4 : Hid (∀ w2, Rst w pb (w.heap.size + 1) y q3.2 w2 → Calls Tryd.prog 44 #[.pointer (some ⟨w.heap.size + 1, 0, none⟩), .int .i64 2] w2 fun e w' => e = .returned (.int .i64 (rN 2 q3.2).1) ∧ Rst w pb (w.heap.size + 1) y (rN 2 q3.2).2 w') := fun w2 h => h.num2
      generalize rN 2 q3.2 = q4 at *
      obtain ⟨z1, τ1⟩ := q1
      obtain ⟨z2, τ2⟩ := q2
      obtain ⟨z3, τ3⟩ := q3
      obtain ⟨z4, τ4⟩ := q4
      simp only at C1 C2 C3 C4 HT
      have i0 : (0 : Int) ≤ (k : Int) := by omega
      have i1 : (k : Int) < 4 := by omega
      have g0 := HST'.out
      clear HZ HN H0 HS S1
      go_wp2
      go_region_held3 (fun w' => Rst w pb (w.heap.size + 1) y σ w' ∨ Rst w pb (w.heap.size + 1) y τ1 w' ∨ Rst w pb (w.heap.size + 1) y τ2 w' ∨ Rst w pb (w.heap.size + 1) y τ3 w' ∨ Rst w pb (w.heap.size + 1) y τ4 w' ∨ Rst w pb (w.heap.size + 1) (y.setPr k ⟨z1, z2, z3, z4⟩) τ4 w') (first | exact .inr (.inr (.inr (.inr (.inr (by assumption))))) | exact .inr (.inr (.inr (.inr (.inl (by assumption))))) | exact .inr (.inr (.inr (.inl (by assumption)))) | exact .inr (.inr (.inl (by assumption))) | exact .inr (.inl (by assumption)) | exact .inl (by assumption) | go_keep)
        (first
        | (go_at_call 44; refine (C4.out _ g3).mono ?_; rintro e w5 ⟨rfl, g4⟩; have sf := g4.box.storeP k h4 z1 z2 z3 z4; have g5 := g4.put (g4.box.setP k h4 ⟨z1, z2, z3, z4⟩) (Bn_.but_setP _ pb k ⟨z1, z2, z3, z4⟩))
        | (go_at_call 44; refine (C3.out _ g2).mono ?_; rintro e w4 ⟨rfl, g3⟩)
        | (go_at_call 44; refine (C2.out _ g1).mono ?_; rintro e w3 ⟨rfl, g2⟩)
        | (go_at_call 44; refine (C1.out _ g0).mono ?_; rintro e w2 ⟨rfl, g1⟩))
      go_wp2
      go_roundw
      case rel => exact ⟨k + 1, by omega, by go_num, by rw [HT.out]; exact g5⟩
      case measure => simp [intOf]; omega
    · obtain rfl : k = 4 := by omega
      clear H0 HS S1
      generalize T 4 = q at *
      obtain ⟨y, σ⟩ := q
      simp only at HZ HN HST
      go_wp2_with (first
        | (go_at_call 74; refine HST.out.fin.mono ?_; rintro e w4 ⟨rfl, rfl⟩))
      go_ret
      exact elPost_of HST.out rfl HZ.out.symm (fun h0 => HN.out h0)

theorem bnReadElement_any (b : Bn) (x : Go.Em.El) (pb : Nat) (w : World) (h : Bn_.Box w pb b) (hk : kn x.id = true) (hs : x.s.size ≤ 100000) :
    Calls Tryd.prog 50 #[.pointer (some ⟨pb, 0, none⟩), .agg #[.int .i64 x.id, .string x.s]] w fun e w' => ElPost b x pb w e w' := by
  obtain ⟨i, s⟩ := x
  rcases kn_iff.1 hk with e | e | e | e | e | e
  all_goals
    simp only at e hs
    subst e
  · exact bnEl0 b s pb w h
  · exact bnEl3 b s pb w h
  · exact bnEl5 b s pb w h hs
  · exact bnEl11 b s pb w h
  · exact bnEl12 b s pb w h
  · exact bnEl37 b s pb w h
end Go.Proofs.YtojiffpmmgjpjaaDoor
