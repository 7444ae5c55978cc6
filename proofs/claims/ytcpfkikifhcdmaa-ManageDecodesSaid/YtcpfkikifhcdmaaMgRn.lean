/-
  WALKS of package manage: readNumbers.
-/
import Derived.Test.YtcpfkikifhcdmaaMgNum
import Derived.Test.YtcpfkikifhcdmaaRdAd
import Derived.Deep.RegionHeld3
namespace Go.Mg
/-- A body with one number set, by its place. -/
def setN (b : Bd) (k : Nat) (u : Int) : Bd :=
  match k with
  | 0 => { b with pf := u } | 1 => { b with pp := u } | 2 => { b with pl := u } | 3 => { b with sp := u } | 4 => { b with ct := u } | 5 => { b with st := u } | 6 => { b with hn := u }
  | 7 => { b with ls := u } | 8 => { b with dv := u } | 9 => { b with ai := u } | 10 => { b with sr := u } | 11 => { b with sz := u } | 12 => { b with ch := u } | _ => { b with cn := u }
end Go.Mg
namespace Go.Proofs.Ytcpfkikifhcdmaa
open Go.RowKit Go.Mg Go.Wr
attribute [local go_sem ↓ high] Bd_.loadF Bd_.storeF Bd_.v_cells Bd_.v_match Bd_.loadP loadN

/-- Reading the first numbers that are in the set. -/
def rQ (s : Int) : Nat → Bd × Sg → Bd × Sg
  | 0, q => q
  | k + 1, q => if (bits .and .i64 s (fk k) != 0) = true then (setN (rQ s k q).1 k (rN (fz k) (rQ s k q).2).1, (rN (fz k) (rQ s k q).2).2) else rQ s k q
theorem set_at {W : World} {pb : Nat} {b : Bd} (h : Bd_.Box W pb b) (k : Nat) (hk : k < 14) (u : Int) : Bd_.Box (W.setCell ⟨pb, fo k, none⟩ (.int .i64 u)) pb (setN b k u) := by
  rcases (show k = 0 ∨ k = 1 ∨ k = 2 ∨ k = 3 ∨ k = 4 ∨ k = 5 ∨ k = 6 ∨ k = 7 ∨ k = 8 ∨ k = 9 ∨ k = 10 ∨ k = 11 ∨ k = 12 ∨ k = 13 by omega) with rfl | rfl | rfl | rfl | rfl | rfl | rfl | rfl | rfl | rfl | rfl | rfl | rfl | rfl
  · exact h.set14 u
  · exact h.set15 u
  · exact h.set16 u
  · exact h.set1 u
  · exact h.set9 u
  · exact h.set2 u
  · exact h.set3 u
  · exact h.set5 u
  · exact h.set6 u
  · exact h.set8 u
  · exact h.set10 u
  · exact h.set11 u
  · exact h.set12 u
  · exact h.set13 u

/-- The body at pb, the Reader at rb, all below B as it was. -/
structure Rst (w : World) (B pb rb : Nat) (b : Bd) (σ : Sg) (wi : World) : Prop where
  box : Bd_.Box wi pb b
  rd : Rs wi rb σ
  bel : Below B w wi
  hp : B ≤ pb
  hr : B ≤ rb
  ne : pb ≠ rb
theorem Rst.keep {w wi w' : World} {B pb rb : Nat} {b : Bd} {σ : Sg} (h : Rst w B pb rb b σ wi) (hb : Below wi.heap.size wi w') : Rst w B pb rb b σ w' :=
  ⟨h.box.below hb h.box.lt, h.rd.blk (hb.block _ h.rd.lt), h.bel.trans (hb.mono (Nat.le_trans h.hp (Nat.le_of_lt h.box.lt))), h.hp, h.hr, h.ne⟩
theorem Rst.read {w wi w' : World} {B pb rb : Nat} {b : Bd} {σ τ : Sg} (h : Rst w B pb rb b σ wi) (h1 : Rs w' rb τ) (h2 : But rb wi w') : Rst w B pb rb b τ w' :=
  ⟨(h2.block pb h.box.lt h.ne).trans h.box, h1, h.bel.trans (h2.below (Nat.le_trans h.hp (Nat.le_of_lt h.box.lt)) h.hr), h.hp, h.hr, h.ne⟩
theorem Rst.put {w wi w' : World} {B pb rb : Nat} {b y : Bd} {σ : Sg} (h : Rst w B pb rb b σ wi) (h1 : Bd_.Box w' pb y) (h2 : But pb wi w') : Rst w B pb rb y σ w' :=
  ⟨h1, h.rd.blk (h2.block rb h.rd.lt (Ne.symm h.ne)), h.bel.trans (h2.below (Nat.le_trans h.hp (Nat.le_of_lt h.box.lt)) h.hp), h.hp, h.hr, h.ne⟩
/-- The row of numbers beside them. -/
structure Rro (w : World) (B pb rb nr : Nat) (b : Bd) (σ : Sg) (wi : World) : Prop where
  st : Rst w B pb rb b σ wi
  row : Blk wi nr 89 (NC pb)
  n1 : nr ≠ pb
  n2 : nr ≠ rb
theorem Rro.keep {w wi w' : World} {B pb rb nr : Nat} {b : Bd} {σ : Sg} (h : Rro w B pb rb nr b σ wi) (hb : Below wi.heap.size wi w') : Rro w B pb rb nr b σ w' :=
  ⟨h.st.keep hb, h.row.of_block (hb.block _ h.row.lt), h.n1, h.n2⟩
/-- In a round: the number's copy too. -/
structure Rrd (w : World) (B pb rb nr : Nat) (b : Bd) (σ : Sg) (nb k : Nat) (wi : World) : Prop where
  ro : Rro w B pb rb nr b σ wi
  num : Blk wi nb 89 [.int .i64 (fk k), .pointer (some ⟨pb, fo k, none⟩), .int .i64 (fz k : Int)]
  m1 : nb ≠ pb
  m2 : nb ≠ rb
theorem Rrd.keep {w wi w' : World} {B pb rb nr : Nat} {b : Bd} {σ : Sg} {nb k : Nat} (h : Rrd w B pb rb nr b σ nb k wi) (hb : Below wi.heap.size wi w') : Rrd w B pb rb nr b σ nb k w' :=
  ⟨h.ro.keep hb, h.num.of_block (hb.block _ h.num.lt), h.m1, h.m2⟩
theorem Rrd.read {w wi w' : World} {B pb rb nr : Nat} {b : Bd} {σ τ : Sg} {nb k : Nat} (h : Rrd w B pb rb nr b σ nb k wi) (h1 : Rs w' rb τ) (h2 : But rb wi w') : Rrd w B pb rb nr b τ nb k w' :=
  ⟨⟨h.ro.st.read h1 h2, h2.blk h.ro.row h.ro.n2, h.ro.n1, h.ro.n2⟩, h2.blk h.num h.m2, h.m1, h.m2⟩
theorem Rrd.put {w wi w' : World} {B pb rb nr : Nat} {b y : Bd} {σ : Sg} {nb k : Nat} (h : Rrd w B pb rb nr b σ nb k wi) (h1 : Bd_.Box w' pb y) (h2 : But pb wi w') : Rrd w B pb rb nr y σ nb k w' :=
  ⟨⟨h.ro.st.put h1 h2, h2.blk h.ro.row h.ro.n1, h.ro.n1, h.ro.n2⟩, h2.blk h.num h.m1, h.m1, h.m2⟩
theorem Rrd.new {w wi : World} {B pb rb nr : Nat} {b : Bd} {σ : Sg} (h : Rro w B pb rb nr b σ wi) (k : Nat) :
    Rrd w B pb rb nr b σ wi.heap.size k (wi.alloc (.cells #[.int .i64 (fk k), .pointer (some ⟨pb, fo k, none⟩), .int .i64 (fz k : Int)] 89)) :=
  ⟨h.keep ((Below.refl _ _).alloc (Nat.le_refl _) _), Blk.new wi _ _ _ rfl, fun e => by have := h.st.box.lt; omega, fun e => by have := h.st.rd.lt; omega⟩

set_option maxRecDepth 100000 in
set_option maxHeartbeats 4000000 in
theorem mgReadN_any (s : Int) (b : Bd) (σ : Sg) (B pb rb : Nat) (w0 w : World) (h : Rst w0 B pb rb b σ w) :
    Calls Try.prog 57 #[.pointer (some ⟨rb, 0, none⟩), .pointer (some ⟨pb, 0, none⟩), .int .i64 s] w fun e w' => e = .returned (.tuple #[]) ∧ Rst w0 B pb rb (rQ s 14 (b, σ)).1 (rQ s 14 (b, σ)).2 w' := by
  have CN : Hid (Calls Try.prog 63 #[.pointer (some ⟨pb, 0, none⟩)] w fun e w' => e = .returned (.slice (some ⟨w.heap.size, 0, none⟩) 14 14) ∧ Rro w0 B pb rb w.heap.size (rQ s 0 (b, σ)).1 (rQ s 0 (b, σ)).2 w') :=
    (mgNumbers_any pb w).mono fun _ _ ⟨he, hr, hb⟩ => ⟨he, h.keep hb, hr, fun e => by have := h.box.lt; omega, fun e => by have := h.rd.lt; omega⟩
  have HS := Lib.hid (fun k => show rQ s (k + 1) (b, σ) = if (bits .and .i64 s (fk k) != 0) = true then (setN (rQ s k (b, σ)).1 k (rN (fz k) (rQ s k (b, σ)).2).1, (rN (fz k) (rQ s k (b, σ)).2).2) else rQ s k (b, σ) from rfl)
  have CH := Lib.hid fun f w => mgHas_any s f w
  clear h
  go_enter Try.func57, Try.ntmps57
  go_wp2_with (first
    | (go_at_call 63; refine CN.out.mono ?_; rintro e w2 ⟨rfl, h2⟩; have S2 := Lib.hid h2; clear h2))
  go_loopw [11] (fun i wr => ∃ k : Nat, k ≤ 14 ∧ i = .int .i64 k ∧ Rro w0 B pb rb w.heap.size (rQ s k (b, σ)).1 (rQ s k (b, σ)).2 wr) (fun i _ => 14 - (intOf i).toNat)
  case atStart => exact ⟨0, by omega, rfl, S2.out⟩
  case round =>
    rename_i wr
    obtain ⟨k, hk, rfl, hs⟩ := hrel
    by_cases h14 : k < 14
    · have ln := loadN_at hs.row k h14
      have R1 := Lib.hid (Rrd.new hs k)
      have c0 := R1.out.num.cell 0 _ rfl
      have hz := fz_in k h14
      have HSk := Lib.hid (HS.out k)
      have CHk := Lib.hid fun w => CH.out (fk k) w
      have HC := Lib.hid fun y => cell_at y k h14
      have HSet := Lib.hid fun (W : World) (y : Bd) (hy : Bd_.Box W pb y) u => set_at hy k h14 u
      generalize rQ s k (b, σ) = q at *
      obtain ⟨y, τ⟩ := q
      simp only at hs R1 HSk ln c0
      clear hs HS CH
      cases hb : (bits .and .i64 s (fk k) != 0) <;> rw [hb] at CHk HSk <;> clear hb
      · go_wp2_with (go_at_call 38; refine (CHk.out _).mono ?_; rintro e w3 ⟨rfl, rfl⟩)
        go_roundw
        case rel => exact ⟨k + 1, by omega, by go_num, by rw [HSk.out, if_neg (by decide)]; exact R1.out.ro⟩
        case measure => simp [intOf]; omega
      · rw [if_pos rfl] at HSk
        have CP : Hid (∀ w1, Rrd w0 B pb rb w.heap.size y τ wr.heap.size k w1 → Calls Try.prog 28 #[.pointer (some ⟨rb, 0, none⟩), .int .i64 (fz k : Int)] w1 fun e w' => e = .returned (.int .i64 (rN (fz k) τ).1) ∧ Rrd w0 B pb rb w.heap.size y (rN (fz k) τ).2 wr.heap.size k w') := fun w1 h1 =>
          (num_tot (fz k) rb τ w1 h1.ro.st.rd hz).mono fun _ _ q => ⟨q.1, h1.read q.2.1 q.2.2⟩
        have HR : Hid (∀ wi, Rrd w0 B pb rb w.heap.size (setN y k (rN (fz k) τ).1) (rN (fz k) τ).2 wr.heap.size k wi → Rro w0 B pb rb w.heap.size (rQ s (k + 1) (b, σ)).1 (rQ s (k + 1) (b, σ)).2 wi) := fun wi hh => by
          rw [HSk.out]; exact hh.ro
        have g0 := R1.out.keep (Below.refl _ _).drew
        generalize rN (fz k) τ = r at *
        obtain ⟨u, τ'⟩ := r
        simp only at CP HR
        clear HSk hz
        go_wp2_with (go_at_call 38; refine (CHk.out _).mono ?_; rintro e w3 ⟨rfl, rfl⟩)
        have i1 := g0.num.cell 1 _ rfl
        have i2 := g0.num.cell 2 _ rfl
        go_region_held3 (fun w' => w'.cell? ⟨wr.heap.size, 1, none⟩ = some (.pointer (some ⟨pb, fo k, none⟩)) ∧ w'.cell? ⟨wr.heap.size, 2, none⟩ = some (.int .i64 (fz k : Int)) ∧ (Rrd w0 B pb rb w.heap.size y τ wr.heap.size k w' ∨ Rrd w0 B pb rb w.heap.size y τ' wr.heap.size k w' ∨ Rrd w0 B pb rb w.heap.size (setN y k u) τ' wr.heap.size k w')) (first | exact ⟨by assumption, by assumption, .inr (.inr (by assumption))⟩ | exact ⟨by assumption, by assumption, .inr (.inl (by assumption))⟩ | exact ⟨by assumption, by assumption, .inl (by assumption)⟩ | go_keep)
          (first | (go_at_call 28; refine (CP.out _ g0).mono ?_; rintro e w5 ⟨rfl, g4⟩; have j1 := g4.num.cell 1 _ rfl; have j2 := g4.num.cell 2 _ rfl; have j3 := (g4.ro.st.box.all _).trans (HC.out y); have j4 := g4.ro.st.box.frozen (fo k); have g5 := g4.put (HSet.out _ _ g4.ro.st.box u) (But.set1 pb (fo k) w5 (.int .i64 u)); have k1 := g5.num.cell 1 _ rfl; have k2 := g5.num.cell 2 _ rfl))
        go_wp2
        go_roundw
        case rel => exact ⟨k + 1, by omega, by go_num, HR.out _ (by assumption)⟩
        case measure => simp [intOf]; omega
    · obtain rfl : k = 14 := by omega
      go_wp2
      go_returns
      exact ⟨rfl, hs.st⟩
end Go.Proofs.Ytcpfkikifhcdmaa
