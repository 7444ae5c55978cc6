/-
  WALKS of Writer.Done: the octets of the pieces and of the tail, put together from the end.
-/
import Derived.Test.YthpilpcjnpnodaaDoorWrPut
import Derived.Deep.LoopGhost
import Derived.Lib.BufferWrite
namespace Go.Proofs.YthpilpcjnpnodaaDoor
open Go.RowKit Go.Wr Go.Lib

/-- Where a slice of an array of N octets begins that is cut at o. -/
def cutAt (g o N : Nat) : Addr := if N = o then ⟨g, 0, none⟩ else ⟨g, o, none⟩

theorem slice_from (g N o : Nat) (lo : Int) (h : lo = o) (ho : o ≤ N) (W : World) :
    (Instr.slice 73 (.slice (some ⟨g, 0, none⟩) N N) (some (.int .i64 lo)) none none).run Tryd.prog W = .ok (.slice (some (cutAt g o N)) (N - o) (N - o)) W := by
  subst h
  have h0 : (sizeOf (Tryd.prog.elem 73)).run Tryd.prog W = .ok 1 W := by kernel_rfl
  rw [run_slice_l W 73 (some ⟨g, 0, none⟩) N N (by kernel_rfl) .i64 o (by omega) (by omega), h0]
  simp only [Result.andThen, sliced, Int.toNat_natCast, Nat.mul_one, cutAt, Option.map_some]
  congr 3
  split
  · rfl
  · simp [Addr.add]; omega

theorem sizeByte : (Tryd.prog.info? 5).map (·.size) = some 1 := by kernel_rfl

theorem copy_at {W : World} {g o N : Nat} {C : List Value} (s : ByteArray) (h : Blk W g 5 C) (hC : C.length = N) (hfit : o + s.size ≤ N) :
    (Builtin.copy_ #[73, 9] 3 #[.slice (some (cutAt g o N)) (N - o) (N - o), .string s]).run Tryd.prog W
      = .ok (.int .i64 (s.size : Int)) (W.setRow g (C.take o ++ byteCells s.data.toList ++ C.drop (o + s.size)).toArray) := by
  unfold cutAt
  split
  · have h0 : s.size = 0 := by omega
    have hl : s.data.toList = [] := List.eq_nil_of_length_eq_zero (by rw [Array.length_toList]; exact h0)
    rw [run_copy_row_string W 73 9 3 5 g 0 (N - o) (N - o) s C.toArray 5 Tryd.underlying73 sizeByte h (by omega) (by simp; omega), h0, hl]
    simp [byteCells, goInt]
  · rw [run_copy_row_string W 73 9 3 5 g o (N - o) (N - o) s C.toArray 5 Tryd.underlying73 sizeByte h (by omega) (by simp; omega)]
    simp [goInt]

theorem blk_setRow {W : World} {g : Nat} {t : TypeId} {C D : List Value} (h : Blk W g t C) : Blk (W.setRow g D.toArray) g t D := setRow_heap W g C.toArray D.toArray t (0, 0) h
theorem below_setRow {B : Nat} {W0 W : World} {g : Nat} {D : Array Value} (h : Below B W0 W) (hg : B ≤ g) : Below B W0 (W.setRow g D) := by
  refine h.trans ⟨rfl, rfl, rfl, by simp [World.setRow], fun k hk => ?_⟩
  simp only [World.setRow, Array.getElem?_modify]
  rw [if_neg (by omega)]

set_option maxHeartbeats 400000 in
theorem done_nil (w : World) : Calls Tryd.prog 24 #[.pointer none] w fun e w' => e = .returned (.tuple #[.string ⟨#[]⟩, .int .i64 9]) ∧ w = w' := by
  go_enter Tryd.func24, Tryd.ntmps24
  go_wp2
  go_returns
  exact ⟨rfl, rfl⟩

set_option maxHeartbeats 400000 in
theorem done_bad (b : Nat) (e0 : Int) (w : World) (h0 : w.cell? ⟨b, 0, none⟩ = some (.int .i64 e0)) (he : (e0 == 0) = false) :
    Calls Tryd.prog 24 #[.pointer (some ⟨b, 0, none⟩)] w fun e w' => e = .returned (.tuple #[.string ⟨#[]⟩, .int .i64 e0]) ∧ Below w.heap.size w w' := by
  go_enter Tryd.func24, Tryd.ntmps24
  go_wp2_with (go_at_call 50; refine (sound_any _ _ _ h0).mono ?_; rintro e w' ⟨rfl, rfl⟩)
  go_region
  all_goals go_wp2
  all_goals go_returns
  all_goals exact ⟨rfl, (Below.refl _ _).drew⟩

theorem infoByte : (Tryd.prog.info? 5).map (fun i => (i.zero, i.size, i.bytes)) = some (some (.int .u8 0), 1, 1) := by kernel_rfl

set_option maxRecDepth 100000 in
set_option maxHeartbeats 2000000 in
theorem done_ok (b : Nat) (L : List UInt8) (w : World) (h : Wr w b L) (hL : L.length ≤ 140737488351232) :
    Calls Tryd.prog 24 #[.pointer (some ⟨b, 0, none⟩)] w fun e w' => e = .returned (.tuple #[.string ⟨L.toArray⟩, .int .i64 0]) ∧ Below w.heap.size w w' := by
  have h0 := h.c0
  obtain ⟨p, t, ps, hb, hch, rfl⟩ := h
  have hc1 : w.cell? ⟨b, 1, none⟩ = some (.pointer p) := Blk.cell hb 1 _ rfl
  have hc2 : w.cell? ⟨b, 2, none⟩ = some (.string t) := Blk.cell hb 2 _ rfl
  obtain ⟨N, hN⟩ : ∃ N, N = (flat ps ++ t.data.toList).length := ⟨_, rfl⟩
  rw [← hN] at hL
  have htl : t.data.toList.length = t.size := Array.length_toList
  have hN2 : N = (flat ps).length + t.size := by rw [hN, List.length_append, htl]
  have hmk := run_make_row' (P := Tryd.prog) 73 5 (.int .u8 0) 1 Tryd.underlying73 infoByte rfl .i64 .i64 N (by omega) (by omega)
  have HCH := Lib.hid hch
  have HB := Lib.hid hb
  have HN := Lib.hid hN2
  clear hch hb hN hN2 htl
  go_enter Tryd.func24, Tryd.ntmps24
  go_wp2_with (go_at_call 50; refine (sound_any _ _ _ h0).mono ?_; rintro e w' ⟨rfl, rfl⟩)
  go_loopg [4, 5] ps.length (fun k z q wr => w = wr ∧ ∃ a rs m, q = .pointer a ∧ Chain w b a rs ∧ k = rs.length ∧ z = .int .i64 (m : Nat) ∧ m + (flat rs).length = N)
  case atStart => exact ⟨rfl, p, ps, t.size, rfl, HCH.out, rfl, rfl, by have := HN.out; omega⟩
  case round =>
    obtain ⟨rfl, a, rs, m, rfl, hch, rfl, rfl, hm⟩ := hrel
    cases hch with
    | node g q s rs hg hk hch =>
      have d0 := Blk.cell hk 0 _ rfl
      have d1 := Blk.cell hk 1 _ rfl
      have hsz : s.data.toList.length = s.size := Array.length_toList
      rw [flat, List.length_append, hsz] at hm
      have hle : m + s.size ≤ N := by omega
      have HM := Lib.hid hm
      have HC := Lib.hid hch
      clear hm hch hk hsz
      go_wp2
      go_roundg rs.length
      case measure => simp
      case rel => exact ⟨rfl, q, rs, m + s.size, rfl, HC.out, rfl, by go_num, by have := HM.out; omega⟩
    | nil =>
      obtain rfl : m = N := by simpa [flat] using hm
      clear hm
      go_wp2
      have HB1 : Blk (w.alloc (.cells (madeCells #[.int .u8 0] m) 5)) w.heap.size 5 (madeCells #[.int .u8 0] m).toList := by
        have := Blk.new w _ 5 (madeCells #[.int .u8 0] m).toList rfl
        rwa [Array.toArray_toList] at this
      have hln : (madeCells #[Value.int .u8 0] m).toList.length = m := by rw [Array.length_toList, size_madeCells]
      have hbel : Below w.heap.size w (w.alloc (.cells (madeCells #[.int .u8 0] m) 5)) := (Below.refl _ _).alloc (Nat.le_refl _) _
      generalize w.alloc (.cells (madeCells #[.int .u8 0] m) 5) = W1 at *
      generalize (madeCells #[Value.int .u8 0] m).toList = C0 at HB1 hln
      have c1 : W1.cell? ⟨b, 1, none⟩ = some (.pointer p) := (hbel.cell (p := ⟨b, 1, none⟩) HB.out.lt).trans hc1
      have c2 : W1.cell? ⟨b, 2, none⟩ = some (.string t) := (hbel.cell (p := ⟨b, 2, none⟩) HB.out.lt).trans hc2
      have hN3 := HN.out
      have hsl := fun W => slice_from w.heap.size m (flat ps).length ((m : Int) - t.size) (by omega) (by omega) W
      have hcp := copy_at (W := W1.drew) (o := (flat ps).length) (N := m) t HB1.drew hln (by omega)
      have hle : t.size ≤ m := by omega
      clear hN3
      have HBL := Lib.hid hbel
      have HB2 := Lib.hid HB1
      have HLN := Lib.hid hln
      clear HB1 hln hbel hc1 hc2
      go_region
      have HB3 := blk_setRow (D := List.take (flat ps).length C0 ++ (byteCells t.data.toList ++ List.drop ((flat ps).length + t.size) C0)) HB2.out.drew
      have HW3 := below_setRow (D := (List.take (flat ps).length C0 ++ (byteCells t.data.toList ++ List.drop ((flat ps).length + t.size) C0)).toArray) HBL.out.drew (Nat.le_refl _)
      have hstart : (List.take (flat ps).length C0 ++ (byteCells t.data.toList ++ List.drop ((flat ps).length + t.size) C0)).length = m ∧
          (List.take (flat ps).length C0 ++ (byteCells t.data.toList ++ List.drop ((flat ps).length + t.size) C0)).drop (flat ps).length = byteCells t.data.toList := by
        have e1 := HN.out
        have e2 := HLN.out
        have e3 : (List.take (flat ps).length C0).length = (flat ps).length := by rw [List.length_take]; omega
        have e4 : List.drop ((flat ps).length + t.size) C0 = [] := List.drop_eq_nil_iff.2 (by omega)
        have e5 : (byteCells t.data.toList).length = t.size := by rw [byteCells_length, Array.length_toList]; rfl
        rw [e4, List.append_nil, List.length_append, e3, e5, List.drop_append_of_le_length (by omega), List.drop_eq_nil_of_le (by omega)]
        exact ⟨by omega, rfl⟩
      generalize List.take (flat ps).length C0 ++ (byteCells t.data.toList ++ List.drop ((flat ps).length + t.size) C0) = D0 at *
      generalize W1.drew.setRow w.heap.size D0.toArray = W2 at *
      clear hsl hcp c1 c2 HB2 HLN HBL
      have c1 : W2.cell? ⟨b, 1, none⟩ = some (.pointer p) := (HW3.cell (p := ⟨b, 1, none⟩) HB.out.lt).trans (Blk.cell HB.out 1 _ rfl)
      have HB4 := Lib.hid HB3
      have HW4 := Lib.hid HW3
      have HS := Lib.hid hstart
      clear HB3 HW3 hstart h0
      go_wp2
      go_loopg [4, 7] ps.length (fun k z q wr => ∃ a rs o C suf, q = .pointer a ∧ Chain w b a rs ∧ k = rs.length ∧ z = .int .i64 (o : Nat) ∧ o = (flat rs).length ∧ flat rs ++ suf = flat ps ++ t.data.toList ∧ Blk wr w.heap.size 5 C ∧ C.length = m ∧ C.drop o = byteCells suf ∧ Below w.heap.size w wr)
      case atStart => exact ⟨p, ps, (flat ps).length, D0, t.data.toList, rfl, HCH.out, rfl, by have := HN.out; congr 1; omega, rfl, rfl, HB4.out, HS.out.1, HS.out.2, HW4.out⟩
      case round =>
        obtain ⟨a, rs, o, C, suf, rfl, hch, rfl, rfl, ho, hsuf, hblk, hlen, hdrop, hbel⟩ := hrel
        cases hch with
        | node g q s rs hg hk hch =>
          have d0 := (hbel.cell (p := ⟨g, 0, none⟩) hk.lt).trans (Blk.cell hk 0 _ rfl)
          have d1 := (hbel.cell (p := ⟨g, 1, none⟩) hk.lt).trans (Blk.cell hk 1 _ rfl)
          have hsz : s.data.toList.length = s.size := Array.length_toList
          have hom : o ≤ m := by
            have := congrArg List.length hsuf
            rw [List.length_append, List.length_append, ← ho] at this
            have h2 := HN.out
            have h3 : t.data.toList.length = t.size := Array.length_toList
            omega
          rw [flat, List.length_append, hsz] at ho
          have hle : s.size ≤ o := by omega
          have hsl := fun W => slice_from w.heap.size m (flat rs).length ((o : Int) - s.size) (by omega) (by omega) W
          have hcp := copy_at (W := wr.drew) (o := (flat rs).length) (N := m) s hblk.drew hlen (by omega)
          have HO := Lib.hid ho
          have HSF := Lib.hid hsuf
          have HBK := Lib.hid hblk
          have HLN := Lib.hid hlen
          have HDR := Lib.hid hdrop
          have HBL := Lib.hid hbel
          have HK := Lib.hid hk
          have HCC := Lib.hid hch
          clear ho hsuf hblk hlen hdrop hbel hk hch hsz c1
          go_wp2
          go_region
          have HB3 := blk_setRow (D := List.take (flat rs).length C ++ (byteCells s.data.toList ++ List.drop ((flat rs).length + s.size) C)) HBK.out.drew
          have HW3 := below_setRow (D := (List.take (flat rs).length C ++ (byteCells s.data.toList ++ List.drop ((flat rs).length + s.size) C)).toArray) HBL.out.drew (Nat.le_refl _)
          have hnext : (List.take (flat rs).length C ++ (byteCells s.data.toList ++ List.drop ((flat rs).length + s.size) C)).length = m ∧
              (List.take (flat rs).length C ++ (byteCells s.data.toList ++ List.drop ((flat rs).length + s.size) C)).drop (flat rs).length = byteCells (s.data.toList ++ suf) := by
            have e1 := HO.out
            have e2 := HLN.out
            have e3 : (List.take (flat rs).length C).length = (flat rs).length := by rw [List.length_take]; omega
            have e5 : (byteCells s.data.toList).length = s.size := by rw [byteCells_length, Array.length_toList]; rfl
            have e6 : byteCells (s.data.toList ++ suf) = byteCells s.data.toList ++ byteCells suf := by unfold byteCells; rw [List.map_append]
            rw [← e1, HDR.out, e6]
            have e7 : (byteCells suf).length = m - o := by rw [← HDR.out, List.length_drop, e2]
            rw [List.length_append, List.length_append, e3, e5, e7, List.drop_append_of_le_length (by omega), List.drop_eq_nil_of_le (by omega)]
            exact ⟨by omega, rfl⟩
          generalize List.take (flat rs).length C ++ (byteCells s.data.toList ++ List.drop ((flat rs).length + s.size) C) = D1 at *
          generalize wr.drew.setRow w.heap.size D1.toArray = W3 at *
          clear hsl hcp d0 d1 HBK HLN HBL HDR
          have d0 : W3.cell? ⟨g, 0, none⟩ = some (.pointer q) := (HW3.cell (p := ⟨g, 0, none⟩) HK.out.lt).trans (Blk.cell HK.out 0 _ rfl)
          have HB5 := Lib.hid HB3
          have HW5 := Lib.hid HW3
          have HX := Lib.hid hnext
          clear HB3 HW3 hnext
          go_wp2
          go_roundg rs.length
          case measure => simp
          case rel => exact ⟨q, rs, (flat rs).length, D1, s.data.toList ++ suf, rfl, HCC.out, rfl, by have := HO.out; congr 1; omega, rfl, by have := HSF.out; rw [flat, List.append_assoc] at this; exact this, HB5.out, HX.out.1, HX.out.2, HW5.out⟩
        | nil =>
          obtain rfl : o = 0 := by simpa [flat] using ho
          rw [show flat [] = [] from rfl, List.nil_append] at hsuf
          rw [List.drop_zero] at hdrop
          have hc : (convert 73 9 (.slice (some ⟨w.heap.size, 0, none⟩) m m)).run Tryd.prog wr = .ok (.string ⟨suf.toArray⟩) wr := by
            have hl : suf.length = m := by rw [hdrop, byteCells_length] at hlen; exact hlen
            have := run_convert_bytes_back (P := Tryd.prog) wr 73 9 5 ⟨w.heap.size, 0, none⟩ m suf Tryd.underlying73 Tryd.underlying5 Tryd.underlying9 (fun j hj => by
              have e : (⟨w.heap.size, 0, none⟩ : Addr).add j = ⟨w.heap.size, j, none⟩ := by unfold Addr.add; split <;> simp_all
              rw [e]
              exact Blk.cell hblk j _ (by rw [hdrop, byteCells, List.getElem?_map, List.getElem?_eq_getElem hj]; rfl))
            rwa [hl] at this
          have HSF := Lib.hid hsuf
          have HBL := Lib.hid hbel
          clear hsuf hblk hlen hdrop hbel ho c1
          go_wp2
          go_returns
          exact ⟨congrArg (fun x : List UInt8 => Ending.returned (.tuple #[.string ⟨x.toArray⟩, .int .i64 0])) HSF.out, HBL.out⟩
end Go.Proofs.YthpilpcjnpnodaaDoor
