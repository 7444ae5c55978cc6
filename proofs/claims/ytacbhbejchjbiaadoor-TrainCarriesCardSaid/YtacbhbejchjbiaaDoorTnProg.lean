/-
  WALKS of package train: up, possible, measure, Length, Fill; the table of the checksum of 8 bits.
-/
import Derived.Test.YtacbhbejchjbiaaDoorTnAs
import Derived.Test.YtacbhbejchjbiaaDoorTnAt
import Derived.Test.YtacbhbejchjbiaaDoorWrAll
import Derived.Test.YtacbhbejchjbiaaDoorCkSum8
import Derived.Test.YtacbhbejchjbiaaDoorQuietOf
import Derived.Test.YtacbhbejchjbiaaDoorLexFast
namespace Go.Proofs.YtacbhbejchjbiaaDoor
open Go.RowKit Go.Tn Go.Wr Go.Ck

/-- The table of the checksum of 8 bits lies in its variable. -/
structure TnTab (w : World) : Prop where
  t8 : ∀ i, i < 16 → w.cell? ⟨1, i, none⟩ = some (.int .u8 (tab8 i : Int))
  lt : 1 < w.heap.size
theorem TnTab.below {w w' : World} {B : Nat} (h : TnTab w) (hb : Below B w w') (hB : 1 < B) : TnTab w' :=
  ⟨fun i hi => (hb.cell (p := ⟨1, i, none⟩) hB).trans (h.t8 i hi), Nat.lt_of_lt_of_le h.lt hb.size⟩
theorem TnTab.bel {w w' : World} (h : TnTab w) (hb : Below w.heap.size w w') : TnTab w' := h.below hb h.lt
theorem TnTab.drew {w : World} (h : TnTab w) : TnTab w.drew := ⟨h.t8, h.lt⟩

theorem up_walk (n : Nat) : ((n : Int) + 3) / 4 * 4 = ((Tn.up n : Nat) : Int) := by unfold Tn.up; omega
set_option maxHeartbeats 400000 in
theorem tnUp_any (n : Nat) (w : World) (hn : n ≤ 1152921504606846976) :
    Calls Tryd.prog 18 #[.int .i64 (n : Int)] w fun e w' => e = .returned (.int .i64 (Tn.up n : Nat)) ∧ w = w' := by
  have h4 : IntKind.i64.wrap ((n : Int) + 4) = n + 4 := IntWalk.i64_in _ (by omega)
  have hw4 : wrap64 ((n : Int) + 4) = n + 4 := IntWalk.wrap64_in _ (by omega)
  have h3 : IntKind.i64.wrap ((n : Int) + 4 - 1) = n + 3 := by rw [IntWalk.i64_in _ (by omega)]; omega
  have hw3 : wrap64 ((n : Int) + 4 - 1) = n + 3 := by rw [IntWalk.wrap64_in _ (by omega)]; omega
  have hd : ((n : Int) + 3).tdiv 4 = (n + 3) / 4 := Int.tdiv_eq_ediv_of_nonneg (by omega)
  have hq : wrap64 (((n : Int) + 3) / 4) = ((n : Int) + 3) / 4 := IntWalk.wrap64_in _ (by omega)
  have hm : wrap64 (((n : Int) + 3) / 4 * 4) = ((Tn.up n : Nat) : Int) := by rw [IntWalk.wrap64_in _ (by omega)]; exact up_walk n
  have hm2 : IntKind.i64.wrap (((n : Int) + 3) / 4 * 4) = ((Tn.up n : Nat) : Int) := by rw [IntWalk.i64_in _ (by omega)]; exact up_walk n
  clear hn
  go_enter Tryd.func18, Tryd.ntmps18
  go_wp2
  go_returns
  exact ⟨rfl, rfl⟩

set_option maxHeartbeats 400000 in
theorem tnPos_any (n : Int) (w : World) :
    Calls Tryd.prog 38 #[.int .i64 n] w fun e w' => e = .returned (.bool (pos n)) ∧ w = w' := by
  have key : ∀ b1 b2 : Bool, b1 = decide (1 ≤ n) → b2 = decide (n ≤ 2300) → pos n = (b1 && b2) := by
    rintro b1 b2 rfl rfl
    unfold pos
    rw [Bool.eq_iff_iff]; simp
  have HK := Lib.hid key
  clear key
  by_cases h1 : (1 : Int) ≤ n
  · by_cases h2 : n ≤ 2300
    · have HP := Lib.hid (HK.out _ _ rfl rfl)
      rw [decide_eq_true h1, decide_eq_true h2] at HP
      go_enter Tryd.func38, Tryd.ntmps38
      go_wp2
      go_returns
      exact ⟨by rw [HP.out]; rfl, rfl⟩
    · have HP := Lib.hid (HK.out _ _ rfl rfl)
      rw [decide_eq_true h1, decide_eq_false h2] at HP
      go_enter Tryd.func38, Tryd.ntmps38
      go_wp2
      go_returns
      exact ⟨by rw [HP.out]; rfl, rfl⟩
  · have HP := Lib.hid (HK.out _ _ rfl rfl)
    rw [decide_eq_false h1] at HP
    go_enter Tryd.func38, Tryd.ntmps38
    go_wp2
    go_returns
    exact ⟨by rw [HP.out]; rfl, rfl⟩

/-- What measure hands back. -/
def MsPost (l : List Int) (w : World) (e : Ending) (w' : World) : Prop := e = .returned (.tuple #[.int .i64 (msO l), .int .i64 (mE l)]) ∧ w = w'
theorem msPost_err {l : List Int} {w : World} {e : Ending} {r : Int} (h : mE l = r) (h0 : ¬ r = 0) (he : e = .returned (.tuple #[.int .i64 0, .int .i64 r])) : MsPost l w e w :=
  ⟨by unfold msO; rw [h, if_neg h0, he], rfl⟩
theorem msPost_ok {l : List Int} {w : World} {e : Ending} {m : Int} (h : mE l = 0) (hm : m = (mL l : Nat)) (he : e = .returned (.tuple #[.int .i64 m, .int .i64 0])) : MsPost l w e w :=
  ⟨by unfold msO; rw [h, if_pos rfl, he, hm], rfl⟩

set_option maxRecDepth 100000 in
set_option maxHeartbeats 2000000 in
theorem tnMeasure_any (l : List Int) (sa : Option Addr) (c : Nat) (w : World) (h : Is_.At w sa l) (hl : l.length ≤ maxLen) :
    Calls Tryd.prog 15 #[.slice sa l.length c] w fun e w' => MsPost l w e w' := by
  have HA := Lib.hid h
  unfold maxLen at hl
  clear h
  by_cases h0 : l.length = 0
  · have HE := Lib.hid (mE_none h0)
    have h0' : ((l.length : Int) == 0) = true := by simp; exact List.length_eq_zero_iff.1 h0
    clear h0
    go_enter Tryd.func15, Tryd.ntmps15
    go_wp2
    go_returns
    exact msPost_err HE.out (by decide) rfl
  have h0' : ((l.length : Int) == 0) = false := by rw [beq_eq_false_iff_ne]; omega
  by_cases h6 : 64 < l.length
  · have HE := Lib.hid (mE_full h6)
    have h6' : (64 : Int) < (l.length : Int) := by omega
    clear h0 h6
    go_enter Tryd.func15, Tryd.ntmps15
    go_wp2
    go_returns
    exact msPost_err HE.out (by decide) rfl
  have h6' : ¬ (64 : Int) < (l.length : Int) := by omega
  have H0 := Lib.hid h0
  have H6 := Lib.hid h6
  clear h0
  go_enter Tryd.func15, Tryd.ntmps15
  go_wp2
  go_loop [4, 17] (fun z i => ∃ k : Nat, k ≤ l.length ∧ i = .int .i64 k ∧ z = .int .i64 ((mL (l.take k) : Nat) : Int) ∧ ∀ j (hj : j < l.length), j < k → pos l[j] = true) (fun _ i => l.length - (intOf i).toNat)
  case atStart => exact ⟨0, Nat.zero_le _, rfl, rfl, fun j _ hj => absurd hj (Nat.not_lt_zero j)⟩
  case round =>
    obtain ⟨k, hk, rfl, rfl, hj⟩ := hrel
    have HJ := Lib.hid hj
    have hle := mL_le hj (by omega)
    clear hj
    by_cases hlt : k < l.length
    · obtain ⟨b, off, rfl, -, c0⟩ := HA.out k hlt
      have HLT := Lib.hid hlt
      have CP := Lib.hid fun w => tnPos_any l[k] w
      have CU := Lib.hid fun w => tnUp_any (mL (l.take k)) w (by omega)
      cases hp : pos l[k]
      · have HE := Lib.hid (mE_bad H0.out H6.out hlt hp)
        rw [hp] at CP
        generalize l[k] = n at *
        clear hp hle
        go_wp2_with (go_at_call 38; refine (CP.out _).mono ?_; rintro e w' ⟨rfl, rfl⟩)
        go_returns
        exact msPost_err HE.out (by decide) rfl
      · have HN := Lib.hid (mL_take hlt hp)
        have HG : Hid (∀ j (hj : j < l.length), j < k + 1 → pos l[j] = true) := fun j hj hjk => by
          by_cases e : j = k
          · subst e; exact hp
          · exact HJ.out j hj (by omega)
        obtain ⟨hp1, hp2⟩ := pos_iff.1 hp
        have hu := Tn.up_lt (mL (l.take k))
        rw [hp] at CP
        generalize l[k] = n at *
        generalize mL (l.take k) = m at *
        generalize Tn.up m = q at *
        have hw1 : wrap64 ((q : Int) + 4) = q + 4 := IntWalk.wrap64_in _ (by omega)
        have hw2 : wrap64 ((q : Int) + 4 + n) = q + 4 + n := IntWalk.wrap64_in _ (by omega)
        clear hp HJ
        go_wp2_with (first
          | (go_at_call 38; refine (CP.out _).mono ?_; rintro e w' ⟨rfl, rfl⟩)
          | (go_at_call 18; refine (CU.out _).mono ?_; rintro e w' ⟨rfl, rfl⟩))
        go_round
        case rel => exact ⟨k + 1, HLT.out, by go_num, by rw [HN.out]; try go_num, HG.out⟩
        case measure => have := HLT.out; simp [intOf]; omega
    · obtain rfl : k = l.length := by omega
      rw [List.take_length] at hle ⊢
      have HR : Hid (∀ j (hj : j < l.length), pos l[j] = true) := fun j hj => HJ.out j hj hj
      clear HJ
      by_cases h8 : 8192 < mL l
      · have HE := Lib.hid (mE_long H0.out H6.out HR.out h8)
        have h8' : (8192 : Int) < (mL l : Nat) := by omega
        clear h8
        go_wp2
        go_returns
        exact msPost_err HE.out (by decide) rfl
      · have HE := Lib.hid (mE_ok H0.out H6.out HR.out h8)
        have h8' : ¬ (8192 : Int) < (mL l : Nat) := by omega
        clear h8
        go_wp2
        go_returns
        exact msPost_ok HE.out rfl rfl

set_option maxRecDepth 100000 in
/-- The first elements of a slice of ints. -/
theorem is_slice (sa : Option Addr) (n c k : Nat) (hk : k ≤ c) (h0 : sa = none → c = 0) (W : World) : (Instr.slice 56 (.slice sa n c) none (some (.int .i64 (k : Int))) none).run Tryd.prog W = .ok (.slice sa k c) W := by
  have h1 : (sizeOf (Tryd.prog.elem 56)).run Tryd.prog W = .ok 1 W := by kernel_rfl
  rw [run_slice_h W 56 sa n c (by kernel_rfl) .i64 (k : Int) (by omega) (by omega), h1]
  simp only [Result.andThen, sliced, Int.toNat_natCast, Nat.zero_mul, Nat.sub_zero]
  cases sa with
  | none => have := h0 rfl; subst this; simp
  | some a =>
    have ea : a.add 0 = a := by unfold Addr.add; rfl
    simp [ea]

end Go.Proofs.YtacbhbejchjbiaaDoor
