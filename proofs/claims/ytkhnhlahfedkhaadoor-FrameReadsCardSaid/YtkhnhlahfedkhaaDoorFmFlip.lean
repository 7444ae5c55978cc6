/-
  THE WALK of flipped: bits of a string changed where a pattern has a 1.
-/
import Derived.Test.YtkhnhlahfedkhaaDoorCkRef
namespace Go.Proofs.YtkhnhlahfedkhaaDoor
open Go.RowKit Go.Wr Go.Ck

/-- Block g begins with these octets, none of them frozen. -/
def Oct (W : World) (g : Nat) (l : List UInt8) : Prop := ∀ j, j < l.length → W.cell? ⟨g, j, none⟩ = some (.int .u8 ((l.getD j 0).toNat : Int)) ∧ W.frozen? ⟨g, j, none⟩ = false
theorem Oct.set {W : World} {g : Nat} {l : List UInt8} (h : Oct W g l) (i v : Nat) (hv : v < 256) : Oct (W.setCell ⟨g, i, none⟩ (.int .u8 (v : Int))) g (l.set i (UInt8.ofNat v)) := by
  intro j hj
  rw [List.length_set] at hj
  obtain ⟨h1, h2⟩ := h j hj
  refine ⟨?_, (World.frozen?_setCell _ _ _ _).trans h2⟩
  by_cases e : i = j
  · subst e
    rw [World.cell?_setCell_same _ _ _ h1]
    have : (l.set i (UInt8.ofNat v)).getD i 0 = UInt8.ofNat v := by simp [List.getD, hj]
    rw [this, UInt8.toNat_ofNat', Nat.mod_eq_of_lt hv]
  · rw [World.cell?_setCell_other _ _ _ _ (fun h => e (congrArg Addr.off h)), h1]
    have : (l.set i (UInt8.ofNat v)).getD j 0 = l.getD j 0 := by simp [List.getD, e]
    rw [this]
theorem Oct.conv {W : World} {g cap : Nat} {l : List UInt8} (h : Oct W g l) : (convert 63 9 (.slice (some ⟨g, 0, none⟩) l.length cap)).run Tryd.prog W = .ok (.string ⟨l.toArray⟩) W :=
  run_convert_bytes_back (P := Tryd.prog) W 63 9 5 ⟨g, 0, none⟩ cap l Tryd.underlying63 Tryd.underlying5 Tryd.underlying9 (fun j hj => by
    have e : (⟨g, 0, none⟩ : Addr).add j = ⟨g, j, none⟩ := by unfold Addr.add; split <;> simp_all
    rw [e, (h j hj).1]
    simp [List.getD, hj])
theorem Oct.new (w : World) (s : ByteArray) (cap : Nat) (t : TypeId) : Oct (w.alloc (.cells (bytesRow s cap) t ((bytesRow s cap).size, (bytesRow s cap).size + 1))) w.heap.size s.data.toList := by
  intro j hj
  have hj' : j < s.data.size := by rw [Array.length_toList] at hj; exact hj
  refine ⟨?_, ?_⟩
  · rw [World.cell?_alloc_mark, bytesRow_at s cap j hj']
    simp [List.getD, Array.getElem?_eq_getElem hj']
  · rw [World.frozen?_alloc_mark]
    have : s.data.size ≤ (bytesRow s cap).size := by unfold bytesRow; simp
    simp; omega

set_option maxRecDepth 100000 in
set_option maxHeartbeats 2000000 in
theorem flipped12_any (s : ByteArray) (n p : Nat) (w : World) (hs : s.size ≤ 100000) (hn : n < 8 * s.size) (hp : p < 4294967296) :
    Calls Tryd.prog 16 #[.string s, .int .i64 n, .int .u32 p] w fun e w' => e = .returned (.string ⟨(flps s.data.toList n p 32).toArray⟩) ∧ Below w.heap.size w w' := by
  have hcv := run_bytes_of_string (P := Tryd.prog) w 9 63 5 s Tryd.underlying9 Tryd.underlying63 Tryd.underlying5
  have HN := Lib.hid (Oct.new w.drew s (grownCap w s.size 0 5) 5)
  generalize grownCap w s.size 0 5 = cap at hcv HN
  have HB : Hid (Below w.heap.size w (w.drew.alloc (.cells (bytesRow s cap) 5 ((bytesRow s cap).size, (bytesRow s cap).size + 1)))) := (Below.refl _ _).drew.alloc (Nat.le_refl _) _
  generalize w.drew.alloc (.cells (bytesRow s cap) 5 ((bytesRow s cap).size, (bytesRow s cap).size + 1)) = W1 at hcv HN HB
  have hl : s.data.toList.length = s.size := Array.length_toList
  generalize hL : s.data.toList = L at *
  clear hL
  have HLS := Lib.hid hl
  clear hl
  go_enter Tryd.func16, Tryd.ntmps16
  go_wp2
  go_loopw [8] (fun i wr => ∃ k : Nat, k ≤ 32 ∧ i = .int .i64 k ∧ Oct wr w.heap.size (flps L n p k) ∧ Below w.heap.size w wr) (fun i _ => 32 - (intOf i).toNat)
  case atStart => exact ⟨0, by omega, rfl, HN.out, HB.out⟩
  case round =>
    clear HN HB
    obtain ⟨k, hk, rfl, ho, hb⟩ := hrel
    have HO := Lib.hid ho
    have HB := Lib.hid hb
    clear ho hb
    by_cases hlt : k < 32
    · have hw : IntKind.i64.wrap ((n : Int) + k) = n + k := IntWalk.i64_in _ (by omega)
      have hwl : IntKind.i64.wrap (8 * (s.size : Int)) = 8 * s.size := IntWalk.i64_in _ (by omega)
      have hwk : IntKind.u64.wrap (k : Int) = k := IntWalk.u64_in _ (by omega)
      by_cases hbit : p.testBit k = true
      · have hb : bits .and .u32 ((p : Int) / 2 ^ k) 1 = 1 := by rw [bit_u32 p k hp, if_pos hbit]
        by_cases hr : n + k < 8 * s.size
        · have hr' : (n : Int) + k < 8 * s.size := by omega
          have hfl : flps L n p (k + 1) = flp (flps L n p k) (n + k) := by rw [flps, if_pos ⟨hbit, by rw [HLS.out]; exact hr⟩]
          have HF := Lib.hid hfl
          obtain ⟨hc, hf⟩ := HO.out ((n + k) / 8) (by rw [flps_len, HLS.out]; omega)
          have hv := ((flps L n p k).getD ((n + k) / 8) 0).toNat_lt
          have HV : Hid (flp (flps L n p k) (n + k) = (flps L n p k).set ((n + k) / 8) (UInt8.ofNat (((flps L n p k).getD ((n + k) / 8) 0).toNat ^^^ 2 ^ ((n + k) % 8)))) := rfl
          generalize ((flps L n p k).getD ((n + k) / 8) 0).toNat = v at hc hv HV
          clear hbit hr hfl
          have HV2 := Lib.hid (flip_u8 hv (j := (n + k) % 8) (by omega))
          clear hv
          go_wp2
          go_roundw
          case rel =>
            refine ⟨k + 1, by omega, by go_num, ?_, HB.out.setCell (Nat.le_refl _) _⟩
            rw [HF.out, HV.out, HV2.out.1]
            exact HO.out.set _ _ HV2.out.2
          case measure => simp [intOf]; omega
        · have hr' : ¬ (n : Int) + k < 8 * s.size := by omega
          have HF : Hid (flps L n p (k + 1) = flps L n p k) := by show flps L n p (k + 1) = _; rw [flps, if_neg (fun hh => hr (by rw [← HLS.out]; exact hh.2))]
          clear hbit hr
          go_wp2
          go_roundw
          case rel => exact ⟨k + 1, by omega, by go_num, by rw [HF.out]; exact HO.out, HB.out⟩
          case measure => simp [intOf]; omega
      · have hb : bits .and .u32 ((p : Int) / 2 ^ k) 1 = 0 := by rw [bit_u32 p k hp, if_neg hbit]
        have HF : Hid (flps L n p (k + 1) = flps L n p k) := by show flps L n p (k + 1) = _; rw [flps, if_neg (fun hh => hbit hh.1)]
        clear hbit
        go_wp2
        go_roundw
        case rel => exact ⟨k + 1, by omega, by go_num, by rw [HF.out]; exact HO.out, HB.out⟩
        case measure => simp [intOf]; omega
    · obtain rfl : k = 32 := by omega
      have hc := HO.out.conv (cap := cap)
      rw [flps_len, HLS.out] at hc
      go_wp2
      go_returns
      exact ⟨rfl, HB.out⟩
end Go.Proofs.YtkhnhlahfedkhaaDoor
