/-
  WALKS of the landed package header (8c902e7): numbersFit.
-/
import Derived.Test.YtacbhbejchjbiaaDoorHdFits
namespace Go.Proofs.YtacbhbejchjbiaaDoor
open Go.RowKit Go.Hd
attribute [local go_sem ↓ high] Fr_.loadF Fr_.storeF Fr_.v_cells Fr_.v_match
attribute [local go_sem] Fr_.C0 Fr_.C1 Fr_.C2 Fr_.C3 Fr_.C4 Fr_.C5 Fr_.C6 Fr_.C7 Fr_.C8 Fr_.C9 Fr_.C10 Fr_.C11 Fr_.C12 Fr_.C13 Fr_.C14 Fr_.C15 Fr_.C16 Fr_.C17 Fr_.loadF_new

/-- The numbers that numbersFit goes through: the field, the value, the greatest. -/
def nfC : Nat → Int | 0 => 1024 | 1 => 2048 | 2 => 4096 | 3 => 192 | _ => 8192
def nfV (f : Fr) : Nat → Int | 0 => f.sq | 1 => f.fg | 2 => f.ct | 3 => f.po | 4 => f.ky | _ => f.cn
def nfM : Nat → Int | 0 => 4095 | 1 => 15 | 2 => 3 | 3 => 2 | 4 => 65535 | _ => 1099511627775
theorem ixN (a b c d e g : Int) (f : Fr) (h0 : f.sq = a) (h1 : f.fg = b) (h2 : f.ct = c) (h3 : f.po = d) (h4 : f.ky = e) (h5 : f.cn = g) (k : Nat) (hk : k < 6) (w : World) :
    (Instr.index 89 (.agg #[.int .i64 1024, .int .i64 a, .int .i64 4095, .int .i64 2048, .int .i64 b, .int .i64 15, .int .i64 4096, .int .i64 c, .int .i64 3, .int .i64 192, .int .i64 d, .int .i64 2, .int .i64 8192, .int .i64 e, .int .i64 65535, .int .i64 8192, .int .i64 g, .int .i64 1099511627775]) (.int .i64 (k : Int))).run Tryd.prog w
      = .ok (.agg #[.int .i64 (nfC k), .int .i64 (nfV f k), .int .i64 (nfM k)]) w := by
  subst h0 h1 h2 h3 h4 h5
  have c : k = 0 ∨ k = 1 ∨ k = 2 ∨ k = 3 ∨ k = 4 ∨ k = 5 := by omega
  rcases c with rfl | rfl | rfl | rfl | rfl | rfl <;> (show _ = _; kernel_rfl)

/-- The k-th number fits. -/
def nfok (f : Fr) (u : Int) (k : Nat) : Prop := hs u (nfC k) = true → 0 ≤ nfV f k ∧ nfV f k ≤ nfM k
instance (f : Fr) (u : Int) (k : Nat) : Decidable (nfok f u k) := by unfold nfok; infer_instance
/-- The numbers fit. -/
def nuf (f : Fr) : Prop := rng f.du 0 32767 ∧ (nb f.kd → rng f.sq 0 4095) ∧ (pl f.kd → rng f.po 0 2 ∧ rng f.ct 0 3) ∧ (f.kd = 18 → rng f.fg 0 15 ∧ rng f.ky 0 65535 ∧ rng f.cn 0 1099511627775)
instance (f : Fr) : Decidable (nuf f) := by unfold nuf; infer_instance
theorem nuf_iff {f : Fr} (hk : isK f.kd) : nuf f ↔ rng f.du 0 32767 ∧ ∀ k, k < 6 → nfok f (us f.kd) k := by
  have h0 : nfok f (us f.kd) 0 ↔ (nb f.kd → rng f.sq 0 4095) := by show (hs (us f.kd) 1024 = true → 0 ≤ f.sq ∧ f.sq ≤ 4095) ↔ _; rw [hs_seq hk, decide_eq_true_eq]; rfl
  have h1 : nfok f (us f.kd) 1 ↔ (f.kd = 18 → rng f.fg 0 15) := by show (hs (us f.kd) 2048 = true → 0 ≤ f.fg ∧ f.fg ≤ 15) ↔ _; rw [hs_frag hk, decide_eq_true_eq]; rfl
  have h2 : nfok f (us f.kd) 2 ↔ (pl f.kd → rng f.ct 0 3) := by show (hs (us f.kd) 4096 = true → 0 ≤ f.ct ∧ f.ct ≤ 3) ↔ _; rw [hs_cat hk, decide_eq_true_eq]; rfl
  have h3 : nfok f (us f.kd) 3 ↔ (pl f.kd → rng f.po 0 2) := by show (hs (us f.kd) 192 = true → 0 ≤ f.po ∧ f.po ≤ 2) ↔ _; rw [hs_policy hk, decide_eq_true_eq]; rfl
  have h4 : nfok f (us f.kd) 4 ↔ (f.kd = 18 → rng f.ky 0 65535) := by show (hs (us f.kd) 8192 = true → 0 ≤ f.ky ∧ f.ky ≤ 65535) ↔ _; rw [hs_key hk, decide_eq_true_eq]; rfl
  have h5 : nfok f (us f.kd) 5 ↔ (f.kd = 18 → rng f.cn 0 1099511627775) := by show (hs (us f.kd) 8192 = true → 0 ≤ f.cn ∧ f.cn ≤ 1099511627775) ↔ _; rw [hs_key hk, decide_eq_true_eq]; rfl
  unfold nuf
  constructor
  · rintro ⟨d, a, b, c⟩
    refine ⟨d, fun k hk => ?_⟩
    match k, hk with
    | 0, _ => exact h0.2 a
    | 1, _ => exact h1.2 fun h => (c h).1
    | 2, _ => exact h2.2 fun h => (b h).2
    | 3, _ => exact h3.2 fun h => (b h).1
    | 4, _ => exact h4.2 fun h => (c h).2.1
    | 5, _ => exact h5.2 fun h => (c h).2.2
  · rintro ⟨d, h⟩
    exact ⟨d, h0.1 (h 0 (by decide)), fun hp => ⟨h3.1 (h 3 (by decide)) hp, h2.1 (h 2 (by decide)) hp⟩, fun hp => ⟨h1.1 (h 1 (by decide)) hp, h4.1 (h 4 (by decide)) hp, h5.1 (h 5 (by decide)) hp⟩⟩

set_option maxRecDepth 100000 in
set_option maxHeartbeats 4000000 in
theorem numbersFit_any (f : Fr) (w : World) (hk : isK f.kd) :
    Calls Tryd.prog 28 #[Fr_.v f, .int .i64 (us f.kd)] w fun e w' => e = .returned (.bool (decide (nuf f))) ∧ Below w.heap.size w w' := by
  have CH := Lib.hid (has_any (us f.kd))
  have HI := Lib.hid (nuf_iff hk)
  have B1 : Hid (Below w.heap.size w (w.alloc (.cells (Fr_.C f) 34))) := (Below.refl _ _).alloc (Nat.le_refl _) _
  clear hk
  generalize us f.kd = u at *
  by_cases hd : rng f.du 0 32767
  case neg =>
    rw [decide_eq_false (fun h => hd (HI.out.1 h).1)]
    unfold rng at hd
    go_enter Tryd.func28, Tryd.ntmps28
    go_wp2
    all_goals
      go_returns
      exact ⟨rfl, B1.out⟩
  obtain ⟨d0, d1⟩ := hd
  have HD : Hid (rng f.du 0 32767) := ⟨d0, d1⟩
  go_enter Tryd.func28, Tryd.ntmps28
  go_wp2
  clear d0 d1
  have HIX := Lib.hid (ixN _ _ _ _ _ _ f rfl rfl rfl rfl rfl rfl)
  generalize w.alloc (.cells (Fr_.C f) 34) = w1 at *
  go_loopw [4, 6, 34, 36, 37, 38, 39, 40, 41, 42, 43, 44, 45, 46, 47, 48, 49, 50, 51, 52, 53] (fun z0 z1 i z2 z3 z4 z5 z6 z7 z8 z9 z10 z11 z12 z13 z14 z15 z16 z17 z18 z19 wr => z0 = .bool false ∧ ∃ k : Nat, k ≤ 6 ∧ i = .int .i64 k ∧ (∀ j : Nat, j < k → nfok f u j) ∧ Below w.heap.size w wr) (fun z0 z1 i z2 z3 z4 z5 z6 z7 z8 z9 z10 z11 z12 z13 z14 z15 z16 z17 z18 z19 _ => 6 - (intOf i).toNat)
  case atStart => exact ⟨rfl, 0, Nat.zero_le _, rfl, fun j hj => absurd hj (Nat.not_lt_zero j), B1.out⟩
  case round =>
    obtain ⟨rfl, k, hk, rfl, hno, hbel⟩ := hrel
    by_cases hlt : k < 6
    · have hix := HIX.out k hlt
      have HO : Hid (nfok f u k ↔ (hs u (nfC k) = true → 0 ≤ nfV f k ∧ nfV f k ≤ nfM k)) := Iff.rfl
      have HN : Hid (nfok f u k → ∀ j : Nat, j < k + 1 → nfok f u j) := fun h0 j hj => by
        by_cases e : j = k
        · subst e; exact h0
        · exact hno j (by omega)
      have HX : Hid (¬ nfok f u k → decide (nuf f) = false) := fun h => decide_eq_false fun hh => h ((HI.out.1 hh).2 k hlt)
      have HB := Lib.hid hbel
      clear hno hbel HIX
      generalize nfok f u k = P at *
      generalize nfC k = c at *
      generalize nfV f k = v at *
      generalize nfM k = m at *
      by_cases hc : hs u c = true
      · by_cases h0 : v < 0
        · have HR := Lib.hid (HX.out fun h => by have := (HO.out.1 h hc).1; omega)
          clear HX HN
          go_wp2_with (go_at_call 29; refine (CH.out _ _).mono ?_; rintro e w' ⟨rfl, rfl⟩)
          go_returns
          exact ⟨by rw [HR.out]; rfl, HB.out.alloc HB.out.size _⟩
        · by_cases h1 : m < v
          · have HR := Lib.hid (HX.out fun h => by have := (HO.out.1 h hc).2; omega)
            clear HX HN
            go_wp2_with (go_at_call 29; refine (CH.out _ _).mono ?_; rintro e w' ⟨rfl, rfl⟩)
            go_returns
            exact ⟨by rw [HR.out]; rfl, HB.out.alloc HB.out.size _⟩
          · have HR := Lib.hid (HN.out (HO.out.2 fun _ => ⟨by omega, by omega⟩))
            clear HX HN
            go_wp2_with (go_at_call 29; refine (CH.out _ _).mono ?_; rintro e w' ⟨rfl, rfl⟩)
            go_roundw
            case rel => exact ⟨rfl, k + 1, by omega, by go_num, HR.out, HB.out.alloc HB.out.size _⟩
            case measure => simp [intOf]; omega
      · have HR := Lib.hid (HN.out (HO.out.2 fun h => absurd h hc))
        have hc' : hs u c = false := by simpa using hc
        clear HX HN hc
        go_wp2_with (go_at_call 29; refine (CH.out _ _).mono ?_; rintro e w' ⟨rfl, rfl⟩)
        go_roundw
        case rel => exact ⟨rfl, k + 1, by omega, by go_num, HR.out, HB.out.alloc HB.out.size _⟩
        case measure => simp [intOf]; omega
    · obtain rfl : k = 6 := by omega
      have HR : Hid (decide (nuf f) = true) := decide_eq_true (HI.out.2 ⟨HD.out, hno⟩)
      have HB := Lib.hid hbel
      clear hno hbel HIX
      go_wp2
      go_returns
      exact ⟨by rw [HR.out]; rfl, HB.out⟩

end Go.Proofs.YtacbhbejchjbiaaDoor
