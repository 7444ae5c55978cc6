/-
  THE WALK of flipped: bits of a string changed where a pattern has a 1.
-/
import Derived.Test.YtacbhbejchjbiaaDoorCkRef
namespace Go.Proofs.YtacbhbejchjbiaaDoor
open Go.RowKit Go.Wr Go.Ck

/-- Block g begins with these octets, none of them frozen. -/
def Oct (W : World) (g : Nat) (l : List UInt8) : Prop := ∀ j, j < l.length → W.cell? ⟨g, j, none⟩ = some (.int .u8 ((l.getD j 0).toNat : Int)) ∧ W.frozen? ⟨g, j, none⟩ = false
theorem Oct.set {W : World} {g : Nat} {l : List UInt8} (h : Oct W g l) (i v : Nat) (hv : v < 256) : Oct (W.setCell ⟨g, i, none⟩ (.int .u8 (v : Int))) g (l.set i (UInt8.ofNat v)) := by
  intro j hj
  rw [List.length_set] at hj
  obtain ⟨h1, h2⟩ := h j hj
  refine ⟨?_, (World.frozen?_setCell _ _ _ _).trans h2⟩
  by_cases e : i = j
  · subst e
    rw [World.cell?_setCell_same _ _ _ h1]
    have : (l.set i (UInt8.ofNat v)).getD i 0 = UInt8.ofNat v := by simp [List.getD, hj]
    rw [this, UInt8.toNat_ofNat', Nat.mod_eq_of_lt hv]
  · rw [World.cell?_setCell_other _ _ _ _ (fun h => e (congrArg Addr.off h)), h1]
    have : (l.set i (UInt8.ofNat v)).getD j 0 = l.getD j 0 := by simp [List.getD, e]
    rw [this]
theorem Oct.conv {W : World} {g cap : Nat} {l : List UInt8} (h : Oct W g l) : (convert 39 9 (.slice (some ⟨g, 0, none⟩) l.length cap)).run Tryd.prog W = .ok (.string ⟨l.toArray⟩) W :=
  run_convert_bytes_back (P := Tryd.prog) W 39 9 5 ⟨g, 0, none⟩ cap l Tryd.underlying39 Tryd.underlying5 Tryd.underlying9 (fun j hj => by
    have e : (⟨g, 0, none⟩ : Addr).add j = ⟨g, j, none⟩ := by unfold Addr.add; split <;> simp_all
    rw [e, (h j hj).1]
    simp [List.getD, hj])
theorem Oct.new (w : World) (s : ByteArray) (cap : Nat) (t : TypeId) : Oct (w.alloc (.cells (bytesRow s cap) t ((bytesRow s cap).size, (bytesRow s cap).size + 1))) w.heap.size s.data.toList := by
  intro j hj
  have hj' : j < s.data.size := by rw [Array.length_toList] at hj; exact hj
  refine ⟨?_, ?_⟩
  · rw [World.cell?_alloc_mark, bytesRow_at s cap j hj']
    simp [List.getD, Array.getElem?_eq_getElem hj']
  · rw [World.frozen?_alloc_mark]
    have : s.data.size ≤ (bytesRow s cap).size := by unfold bytesRow; simp
    simp; omega

end Go.Proofs.YtacbhbejchjbiaaDoor
