/-
  THE WALK of package beacon's readElement.
-/
import Derived.Test.YtojiffpmmgjpjaaDoorBnProg
import Derived.Test.YtojiffpmmgjpjaaDoorTmDec
import Derived.Test.YtojiffpmmgjpjaaDoorElDoneC
import Derived.Deep.RegionHeld3
namespace Go.Proofs.YtojiffpmmgjpjaaDoor
open Go.RowKit Go.Bn Go.Wr

/-! Reading, as steps: the math. -/
theorem rN_ok {k : Nat} {l : List UInt8} (h : k ≤ l.length) : rN k (0, l) = (((val (l.take k) : Nat) : Int), (0, l.drop k)) := by unfold rN; simp only [if_true, if_pos h]
theorem rN_short {k : Nat} {l : List UInt8} (h : ¬ k ≤ l.length) : rN k (0, l) = (0, (1, l)) := by unfold rN; simp only [if_true, if_neg h]
theorem rN_bad {k : Nat} {σ : Sg} (h : ¬ σ.1 = 0) : rN k σ = (0, σ) := by unfold rN; rw [if_neg h]
/-- What End says of a state. -/
def enE (σ : Sg) : Int := if σ.1 = 0 then (if 0 < σ.2.length then 2 else 0) else σ.1
theorem end_bn (b : Nat) (σ : Sg) (w : World) (h : Rs w b σ) :
    Calls Tryd.prog 74 #[.pointer (some ⟨b, 0, none⟩)] w fun e w' => e = .returned (.int .i64 (enE σ)) ∧ w = w' := end_tot b σ w h
/-- The states behind reads of some sizes. -/
def rds (σ : Sg) (ks : List Nat) : Sg := ks.foldl (fun τ k => (rN k τ).2) σ
theorem rds_bad {σ : Sg} (h : ¬ σ.1 = 0) : ∀ ks, rds σ ks = σ
  | [] => rfl
  | k :: ks => by show rds (rN k σ).2 ks = σ; rw [rN_bad h]; exact rds_bad h ks
theorem rds_ok : ∀ (ks : List Nat) (l : List UInt8), ks.sum ≤ l.length → rds (0, l) ks = (0, l.drop ks.sum)
  | [], l, _ => by simp [rds]
  | k :: ks, l, h => by
    show rds (rN k (0, l)).2 ks = _
    rw [List.sum_cons] at h ⊢
    rw [rN_ok (by omega)]
    simp only
    rw [rds_ok ks (l.drop k) (by rw [List.length_drop]; omega), List.drop_drop]
theorem rds_short : ∀ (ks : List Nat) (l : List UInt8), l.length < ks.sum → (rds (0, l) ks).1 = 1
  | [], l, h => absurd h (Nat.not_lt_zero _)
  | k :: ks, l, h => by
    show (rds (rN k (0, l)).2 ks).1 = 1
    rw [List.sum_cons] at h
    by_cases hk : k ≤ l.length
    · rw [rN_ok hk]; simp only
      exact rds_short ks (l.drop k) (by rw [List.length_drop]; omega)
    · rw [rN_short hk]; simp only
      rw [rds_bad (by simp)]
theorem enE_rds (s : ByteArray) (ks : List Nat) (n : Nat) (h : ks.sum = n) : enE (rds (0, s.data.toList) ks) = Go.Bn.sz1 s n := by
  have hs : s.data.toList.length = s.size := Array.length_toList
  unfold Go.Bn.sz1
  by_cases h1 : s.size < n
  · rw [if_pos h1]; unfold enE
    have := rds_short ks s.data.toList (by omega)
    rw [this, if_neg (by decide)]
  · rw [if_neg h1, rds_ok ks _ (by omega)]
    unfold enE
    simp only [if_true, List.length_drop]
    by_cases h2 : n < s.size
    · rw [if_pos h2, if_pos (by omega)]
    · rw [if_neg h2, if_neg (by omega)]
theorem rN_num {s : ByteArray} {i k : Nat} (h : i + k ≤ s.size) : rN k (0, s.data.toList.drop i) = (num s i k, (0, s.data.toList.drop (i + k))) := by
  have hs : s.data.toList.length = s.size := Array.length_toList
  rw [rN_ok (by rw [List.length_drop]; omega), List.drop_drop]
  rfl
/-- Parameters, read. -/
def rP (σ : Sg) : Pr := ⟨(rN 1 σ).1, (rN 1 (rN 1 σ).2).1, (rN 1 (rN 1 (rN 1 σ).2).2).1, (rN 2 (rN 1 (rN 1 (rN 1 σ).2).2).2).1⟩
def rPS (σ : Sg) : Sg := rds σ [1, 1, 1, 2]
theorem rP_num {s : ByteArray} {i : Nat} (h : i + 5 ≤ s.size) : rP (0, s.data.toList.drop i) = prAt s i ∧ rPS (0, s.data.toList.drop i) = (0, s.data.toList.drop (i + 5)) := by
  unfold rP rPS rds
  simp only [List.foldl]
  rw [rN_num (by omega)]; simp only
  rw [rN_num (by omega)]; simp only
  rw [rN_num (by omega)]; simp only
  rw [rN_num (by omega)]
  exact ⟨rfl, rfl⟩
/-- Behind k categories. -/
def stp (b : Bn) (σ : Sg) : Nat → Bn × Sg
  | 0 => (b, σ)
  | k + 1 => ((stp b σ k).1.setPr k (rP (stp b σ k).2), rPS (stp b σ k).2)
theorem stp_snd (b : Bn) (σ : Sg) : (stp b σ 4).2 = rds σ [1, 1, 1, 2, 1, 1, 1, 2, 1, 1, 1, 2, 1, 1, 1, 2] := by
  simp only [stp, rPS, rds, List.foldl_cons, List.foldl_nil]
theorem stp_ok {b : Bn} {s : ByteArray} (h : s.size = 20) : (stp b (0, s.data.toList) 4).1 = { b with p0 := prAt s 0, p1 := prAt s 5, p2 := prAt s 10, p3 := prAt s 15 } := by
  have e0 := rP_num (s := s) (i := 0) (by omega)
  have e1 := rP_num (s := s) (i := 5) (by omega)
  have e2 := rP_num (s := s) (i := 10) (by omega)
  have e3 := rP_num (s := s) (i := 15) (by omega)
  rw [List.drop_zero] at e0
  simp only [stp]
  rw [e0.1, e0.2, e1.1, e1.2, e2.1, e2.2, e3.1]
  rfl

/-! The state of the walk. -/
/-- The beacon at pb, the Reader at rb, all else as it was. -/
structure Rst (w : World) (pb rb : Nat) (b : Bn) (σ : Sg) (wi : World) : Prop where
  box : Bn_.Box wi pb b
  rd : Rs wi rb σ
  bt : But pb w wi
  lt : pb < w.heap.size
  le : w.heap.size ≤ rb
theorem Rst.read {w wi w' : World} {pb rb : Nat} {b : Bn} {σ τ : Sg} (h : Rst w pb rb b σ wi) (h1 : Rs w' rb τ) (h2 : But rb wi w') : Rst w pb rb b τ w' := by
  have hlt := h.lt
  have hle := h.le
  exact ⟨(h2.block pb h.box.lt (by omega)).trans h.box, h1, ⟨h2.os.trans h.bt.os, h2.tape.trans h.bt.tape, h2.output.trans h.bt.output, Nat.le_trans h.bt.size h2.size, fun k hk hn => (h2.block k (Nat.lt_of_lt_of_le hk h.bt.size) (by omega)).trans (h.bt.block k hk hn)⟩, h.lt, h.le⟩
theorem Rst.put {w wi w' : World} {pb rb : Nat} {b y : Bn} {σ : Sg} (h : Rst w pb rb b σ wi) (h1 : Bn_.Box w' pb y) (h2 : But pb wi w') : Rst w pb rb y σ w' := by
  have hlt := h.lt
  have hle := h.le
  exact ⟨h1, h.rd.blk (h2.block rb h.rd.lt (by omega)), h.bt.trans h2, h.lt, h.le⟩
theorem Rst.keep {w wi w' : World} {pb rb : Nat} {b : Bn} {σ : Sg} (h : Rst w pb rb b σ wi) (hb : Below wi.heap.size wi w') : Rst w pb rb b σ w' :=
  ⟨h.box.below hb h.box.lt, h.rd.blk (hb.block _ h.rd.lt), h.bt.trans (But.of_below hb (Nat.le_refl _)), h.lt, h.le⟩
theorem Rst.drew {w wi : World} {pb rb : Nat} {b : Bn} {σ : Sg} (h : Rst w pb rb b σ wi) : Rst w pb rb b σ wi.drew := h.keep (Below.refl _ _).drew
theorem Rst.num {w wi : World} {pb rb : Nat} {b : Bn} {σ : Sg} (k : Nat) (h : Rst w pb rb b σ wi) (hk : 1 ≤ k ∧ k ≤ 6) :
    Calls Tryd.prog 44 #[.pointer (some ⟨rb, 0, none⟩), .int .i64 (k : Int)] wi fun e w' => e = .returned (.int .i64 (rN k σ).1) ∧ Rst w pb rb b (rN k σ).2 w' :=
  (num_tot k rb σ wi h.rd hk).mono fun _ _ q => ⟨q.1, h.read q.2.1 q.2.2⟩
theorem Rst.num1 {w wi : World} {pb rb : Nat} {b : Bn} {σ : Sg} (h : Rst w pb rb b σ wi) :
    Calls Tryd.prog 44 #[.pointer (some ⟨rb, 0, none⟩), .int .i64 1] wi fun e w' => e = .returned (.int .i64 (rN 1 σ).1) ∧ Rst w pb rb b (rN 1 σ).2 w' := h.num 1 (by decide)
theorem Rst.num2 {w wi : World} {pb rb : Nat} {b : Bn} {σ : Sg} (h : Rst w pb rb b σ wi) :
    Calls Tryd.prog 44 #[.pointer (some ⟨rb, 0, none⟩), .int .i64 2] wi fun e w' => e = .returned (.int .i64 (rN 2 σ).1) ∧ Rst w pb rb b (rN 2 σ).2 w' := h.num 2 (by decide)
theorem Rst.rest {w wi : World} {pb rb : Nat} {b : Bn} {s : ByteArray} (h : Rst w pb rb b (0, s.data.toList) wi) :
    Calls Tryd.prog 45 #[.pointer (some ⟨rb, 0, none⟩)] wi fun e w' => e = .returned (.string s) ∧ Rst w pb rb b (0, []) w' := by
  have hs : bz s.data.toList = s := by unfold bz; simp
  have hr : Rd wi rb 0 s := by have := h.rd; unfold Rs at this; simp only [hs] at this; exact this
  refine (rest_ok rb s wi hr).mono ?_
  rintro _ _ ⟨he, rfl⟩
  exact ⟨he, h.read (Rd.setS hr ⟨#[]⟩) (But.set1 _ _ _ _)⟩
theorem Rst.fail {w wi : World} {pb rb : Nat} {b : Bn} {σ : Sg} (x : Int) (h : Rst w pb rb b σ wi) :
    Calls Tryd.prog 73 #[.pointer (some ⟨rb, 0, none⟩), .int .i64 x] wi fun e w' => e = .returned (.tuple #[]) ∧ Rst w pb rb b (rF x σ) w' :=
  (fail_tot x rb σ wi h.rd).mono fun _ _ q => ⟨q.1, h.read q.2.1 q.2.2⟩
theorem Rst.fin {w wi : World} {pb rb : Nat} {b : Bn} {σ : Sg} (h : Rst w pb rb b σ wi) :
    Calls Tryd.prog 74 #[.pointer (some ⟨rb, 0, none⟩)] wi fun e w' => e = .returned (.int .i64 (enE σ)) ∧ wi = w' := end_bn rb σ wi h.rd
/-- The walk's first worlds. -/
theorem Rst.new {w : World} {pb : Nat} {b : Bn} (h : Bn_.Box w pb b) (id : Int) (s : ByteArray) :
    Rst w pb (w.heap.size + 1) b (0, s.data.toList) ((w.alloc (.cells #[.int .i64 id, .string s] 49)).alloc (.cells #[.int .i64 0, .string s] 108)) := by
  have h2 := rs_new (w.alloc (.cells #[.int .i64 id, .string s] 49)) s
  have e : (w.alloc (.cells #[.int .i64 id, .string s] 49)).heap.size = w.heap.size + 1 := by simp
  rw [e] at h2
  have hb : Below w.heap.size w ((w.alloc (.cells #[.int .i64 id, .string s] 49)).alloc (.cells #[.int .i64 0, .string s] 108)) := ((Below.refl _ _).alloc (Nat.le_refl _) _).alloc (by simp) _
  exact ⟨h.below hb h.lt, h2, But.of_below hb (Nat.le_refl _), h.lt, Nat.le_succ _⟩

/-- What readElement leaves behind. -/
def ElPost (b : Bn) (x : Go.Em.El) (pb : Nat) (w : World) (e : Ending) (w' : World) : Prop :=
  ∃ y, e = .returned (.int .i64 (elE x)) ∧ Bn_.Box w' pb y ∧ (elE x = 0 → y = elB b x) ∧ But pb w w'
theorem elPost_of {b y : Bn} {x : Go.Em.El} {pb rb : Nat} {σ : Sg} {w w' : World} {e : Ending} {r : Int} (h : Rst w pb rb y σ w') (he : e = .returned (.int .i64 r)) (hr : elE x = r) (hy : elE x = 0 → y = elB b x) : ElPost b x pb w e w' :=
  ⟨y, by rw [he, hr], h.box, hy, h.bt⟩
end Go.Proofs.YtojiffpmmgjpjaaDoor
