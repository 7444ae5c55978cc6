/-
  WALKS of the landed package header (8c902e7): flags, filled.
-/
import Derived.Test.YtacbhbejchjbiaaDoorHdFits
import Derived.Test.YtacbhbejchjbiaaDoorQuietOf
namespace Go.Proofs.YtacbhbejchjbiaaDoor
open Go.RowKit Go.Hd
attribute [local go_sem ↓ high] Fr_.loadF Fr_.storeF Fr_.v_cells Fr_.v_match
attribute [local go_sem] Fr_.C0 Fr_.C1 Fr_.C2 Fr_.C3 Fr_.C4 Fr_.C5 Fr_.C6 Fr_.C7 Fr_.C8 Fr_.C9 Fr_.C10 Fr_.C11 Fr_.C12 Fr_.C13 Fr_.C14 Fr_.C15 Fr_.C16 Fr_.C17 Fr_.loadF_new

/-- The field, or nothing (a word). -/
def wn (b : Bool) (c : Int) : Int := if b then c else 0
theorem when_wn (b : Bool) (c : Int) (w : World) : Calls Tryd.prog 49 #[.bool b, .int .i64 c] w fun e w' => e = .returned (.int .i64 (wn b c)) ∧ w = w' := when_any b c w
/-- The flags as the landed code puts them together. -/
def flv (a b c d e g : Bool) : Int := bits .or .i64 (bits .or .i64 (bits .or .i64 (bits .or .i64 (bits .or .i64 (wn a 1) (wn b 2)) (wn c 4)) (wn d 8)) (wn e 16)) (wn g 32)
theorem flv_set (f : Fr) : flv f.rt f.mo f.pw f.st f.la f.jo = setv f := by
  have h : ∀ a b c d e g : Bool, flv a b c d e g = (if a then 1 else 0) + (if b then 2 else 0) + (if c then 4 else 0) + (if d then 8 else 0) + (if e then 16 else 0) + (if g then 32 else 0) := by decide +kernel
  exact h _ _ _ _ _ _

/-- The frame lies in its block, and what was there is as it was. -/
structure Stf (w : World) (b : Nat) (f : Fr) (w' : World) : Prop where
  box : Fr_.Box w' b f
  bel : Below w.heap.size w w'
theorem Stf.keep {w : World} {b : Nat} {f : Fr} (w1 w2 : World) (h : Stf w b f w1) (hb : Below w1.heap.size w1 w2) : Stf w b f w2 := ⟨h.box.below hb h.box.lt, h.bel.trans (hb.mono h.bel.size)⟩
theorem Stf.new (w : World) (f : Fr) : Stf w w.heap.size f (w.alloc (.cells (Fr_.C f) 34)) := ⟨Fr_.Box.newC w f, (Below.refl _ _).alloc (Nat.le_refl _) _⟩
theorem Stf.drew {w w' : World} {b : Nat} {f : Fr} (h : Stf w b f w') : Stf w b f w'.drew := ⟨h.box.drew, h.bel.drew⟩

set_option maxRecDepth 100000 in
set_option maxHeartbeats 4000000 in
theorem flags_any (f : Fr) (w : World) :
    Calls Tryd.prog 33 #[Fr_.v f] w fun e w' => e = .returned (.int .i64 (setv f)) ∧ Below w.heap.size w w' := by
  have CW := Lib.hid when_wn
  rw [← flv_set]
  have HF : Hid (flv f.rt f.mo f.pw f.st f.la f.jo = bits .or .i64 (bits .or .i64 (bits .or .i64 (bits .or .i64 (bits .or .i64 (wn f.rt 1) (wn f.mo 2)) (wn f.pw 4)) (wn f.st 8)) (wn f.la 16)) (wn f.jo 32)) := rfl
  have S1 := Lib.hid (Stf.new w f)
  go_enter Tryd.func33, Tryd.ntmps33
  go_wp2
  have hc : ∀ (p : Of (Stf w w.heap.size f)) (j : Nat), p.w.cell? ⟨w.heap.size, j, none⟩ = (Fr_.C f)[j]? := fun p => p.ok.box.all
  have _ne : Nonempty (Of (Stf w w.heap.size f)) := ⟨⟨_, S1.out⟩⟩
  refine wp_region_of (Stf w w.heap.size f) (by kernel_rfl) (by kernel_rfl) S1.out.drew ?_
  repeat (quiet_step (first | (go_at_call 49; exact Calls.of_same (CW.out _ _ _))))
  refine wpQuiet_nil ?_
  rintro _ ⟨p, rfl⟩
  clear hc
  go_wp2
  go_returns
  exact ⟨by rw [HF.out]; rfl, p.ok.bel⟩

/-- The fields that are filled, as the landed code puts them together. -/
def fiv (fl po fa th sq fg ct kc bo : Int) : Int := bits .or .i64 (bits .or .i64 (bits .or .i64 (bits .or .i64 (bits .or .i64 (bits .or .i64 (bits .or .i64 (bits .or .i64 fl po) fa) th) sq) fg) ct) kc) bo
def fif (f : Fr) : Int := fiv (setv f) (wn (f.po != 0) 192) (wn (f.fa != 0) 256) (wn (f.th != 0) 512) (wn (f.sq != 0) 1024) (wn (f.fg != 0) 2048) (wn (f.ct != 0) 4096) (wn (f.ky != 0 || f.cn != 0) 8192) (wn (!f.bo.toList.isEmpty) 16384)

set_option maxRecDepth 100000 in
set_option maxHeartbeats 4000000 in
theorem filled_no (f : Fr) (w : World) (hky : (f.ky != 0) = false) :
    Calls Tryd.prog 30 #[Fr_.v f] w fun e w' => e = .returned (.int .i64 (fif f)) ∧ Below w.heap.size w w' := by
  have CW := Lib.hid when_wn
  have CF := Lib.hid (flags_any f)
  have HF : Hid (fif f = fiv (setv f) (wn (f.po != 0) 192) (wn (f.fa != 0) 256) (wn (f.th != 0) 512) (wn (f.sq != 0) 1024) (wn (f.fg != 0) 2048) (wn (f.ct != 0) 4096) (wn (f.cn != 0) 8192) (wn (!f.bo.toList.isEmpty) 16384)) := by unfold Hid fif; rw [hky, Bool.false_or]
  have S1 := Lib.hid (Stf.new w f)
  go_enter Tryd.func30, Tryd.ntmps30
  go_wp2
  have hc : ∀ (p : Of (Stf w w.heap.size f)) (j : Nat), p.w.cell? ⟨w.heap.size, j, none⟩ = (Fr_.C f)[j]? := fun p => p.ok.box.all
  have hl : ∀ (p : Of (Stf w w.heap.size f)), (Fr_.LoadF ⟨w.heap.size, 0, none⟩).run Tryd.prog p.w = .ok (Fr_.v f) p.w := fun p => p.ok.box.loadF
  have _ne : Nonempty (Of (Stf w w.heap.size f)) := ⟨⟨_, S1.out⟩⟩
  refine wp_region_of (Stf w w.heap.size f) (by kernel_rfl) (by kernel_rfl) S1.out.drew ?_
  repeat (quiet_step (first
    | (go_at_call 49; exact Calls.of_same (CW.out _ _ _))
    | (go_at_call 33; exact Calls.of_below Stf.keep (CF.out _))))
  refine wpQuiet_nil ?_
  rintro _ ⟨p, rfl⟩
  clear hc hl
  go_wp2
  go_returns
  exact ⟨by rw [HF.out]; rfl, p.ok.bel⟩

set_option maxRecDepth 100000 in
set_option maxHeartbeats 4000000 in
theorem filled_yes (f : Fr) (w : World) (hky : (f.ky != 0) = true) :
    Calls Tryd.prog 30 #[Fr_.v f] w fun e w' => e = .returned (.int .i64 (fif f)) ∧ Below w.heap.size w w' := by
  have CW := Lib.hid when_wn
  have CF := Lib.hid (flags_any f)
  have HF : Hid (fif f = fiv (setv f) (wn (f.po != 0) 192) (wn (f.fa != 0) 256) (wn (f.th != 0) 512) (wn (f.sq != 0) 1024) (wn (f.fg != 0) 2048) (wn (f.ct != 0) 4096) (wn true 8192) (wn (!f.bo.toList.isEmpty) 16384)) := by unfold Hid fif; rw [hky, Bool.true_or]
  have S1 := Lib.hid (Stf.new w f)
  go_enter Tryd.func30, Tryd.ntmps30
  go_wp2
  have hc : ∀ (p : Of (Stf w w.heap.size f)) (j : Nat), p.w.cell? ⟨w.heap.size, j, none⟩ = (Fr_.C f)[j]? := fun p => p.ok.box.all
  have hl : ∀ (p : Of (Stf w w.heap.size f)), (Fr_.LoadF ⟨w.heap.size, 0, none⟩).run Tryd.prog p.w = .ok (Fr_.v f) p.w := fun p => p.ok.box.loadF
  have _ne : Nonempty (Of (Stf w w.heap.size f)) := ⟨⟨_, S1.out⟩⟩
  refine wp_region_of (Stf w w.heap.size f) (by kernel_rfl) (by kernel_rfl) S1.out.drew ?_
  repeat (quiet_step (first
    | (go_at_call 49; exact Calls.of_same (CW.out _ _ _))
    | (go_at_call 33; exact Calls.of_below Stf.keep (CF.out _))))
  refine wpQuiet_nil ?_
  rintro _ ⟨p, rfl⟩
  clear hc hl
  go_wp2
  go_returns
  exact ⟨by rw [HF.out]; rfl, p.ok.bel⟩

theorem filled_any (f : Fr) (w : World) :
    Calls Tryd.prog 30 #[Fr_.v f] w fun e w' => e = .returned (.int .i64 (fif f)) ∧ Below w.heap.size w w' := by
  cases h : (f.ky != 0)
  · exact filled_no f w h
  · exact filled_yes f w h
end Go.Proofs.YtacbhbejchjbiaaDoor
