/-
  WALKS OF THE LANDED CODE OF LAYER 7: ascending: the spans that are not empty, sorted by their beginnings.
-/
import Derived.Shelf.SlSortCmp.WholeK
import Derived.Shelf.SlSortCmp.NoneTotal
import Derived.Test.YtjfhkheedcpimaaShelf
import Derived.Test.YtjfhkheedcpimaaSpDoneA
namespace Go.Proofs.Ytjfhkheedcpimaa
open Go.RowKit Go.Sp

instance : Inhabited Sp := ⟨⟨0, 0⟩⟩
def enc (x : Sp) : List Value := [.int .i64 x.f, .int .i64 x.t]
def byF (x y : Sp) : Int := Lib.compareInt x.f y.f

theorem byF_lt (x y : Sp) : ltOf byF x y = decide (x.f < y.f) := by
  unfold ltOf byF Lib.compareInt
  by_cases h1 : x.f < y.f
  · simp [h1]
  · by_cases h2 : y.f < x.f <;> simp [h1, h2]

theorem byF_swo : Go.Sort.SWO (ltOf byF) where
  irrefl x := by rw [byF_lt]; simp
  trans x y z h1 h2 := by rw [byF_lt] at *; simp at *; omega
  ntrans x y z h1 h2 := by rw [byF_lt] at *; simp at *; omega

set_option maxHeartbeats 1000000 in
theorem closure_any (x y : Sp) (W : World) : Calls Try.prog 32 #[.agg #[.int .i64 x.f, .int .i64 x.t], .agg #[.int .i64 y.f, .int .i64 y.t]] W fun e w' => e = .returned (.int .i64 (byF x y)) ∧ ∃ q os', w' = Go.Sort.grow (W.drewN q) os' := by
  have hcon := fun W' => Try.cmp_Compare_int x.f y.f W'
  have er : Lib.compareInt x.f y.f = byF x y := rfl
  rw [er] at hcon
  clear er
  generalize byF x y = r at hcon ⊢
  go_enter Try.func32, Try.ntmps32
  go_wp2_with (go_at_call 33; refine (hcon _).mono ?_; rintro e w' ⟨rfl, rfl⟩)
  go_ret
  exact ⟨rfl, 0, _, by rw [Go.Sort.alloc_eq_grow, Go.Sort.alloc_eq_grow, Go.Sort.grow_grow]; rfl⟩

/-- A row of one's own holds its spans, as the sort asks it. -/
theorem holds_own {W : World} {base g cap : Nat} {l : List Sp} (h : W.ownsRow base 23 2 (.slice (some ⟨g, 0, none⟩) l.length cap) l.length (flt l)) : Go.Sort.HoldsK enc 2 W g 0 l.toArray := by
  intro j hj
  rw [Go.Sort.size_flatK] at hj
  have hj2 : j / 2 < l.length := by simp at hj; omega
  have hf := flt_get l (j / 2) hj2
  rw [Go.Sort.get_flatK _ _ _ _ hj, Nat.zero_add]
  refine ⟨?_, h.frozenAt j⟩
  rw [h.cellAt j (by simp at hj; omega)]
  have e1 : l.toArray[j / 2]! = l[j / 2] := by simp [hj2]
  rw [e1]
  rcases Nat.mod_two_eq_zero_or_one j with h0 | h0
  · have e2 : j = 2 * (j / 2) := by omega
    rw [h0]
    rw [← e2] at hf
    rw [hf.1]
    rfl
  · have e2 : j = 2 * (j / 2) + 1 := by omega
    rw [h0]
    rw [← e2] at hf
    rw [hf.2]
    rfl

/-- Behind the sort: the spans of the row, and nothing below the row's block has turned. -/
theorem sorted_at {w : World} {g n : Nat} {d d' : Array Sp} {os : Array Obj} (hH : Go.Sort.HoldsK enc 2 w g 0 d) (hg : g < w.heap.size) (hs : d'.size = d.size) :
    SpAt (sortWorldK enc 2 w g 0 n d' os) (some ⟨g, 0, none⟩) d'.toList := by
  have h := holdsK_sortWorldK_c enc 2 w g 0 d d' n os hH hg hs
  intro i hi
  have hi' : i < d'.size := by simpa using hi
  have c0 := (h.cell (i := i) (c := 0) hi' (by omega)).1
  have c1 := (h.cell (i := i) (c := 1) hi' (by omega)).1
  have e : d'[i]! = d'.toList[i] := by simp [hi']
  rw [e] at c0 c1
  exact ⟨g, 0, rfl, Nat.lt_of_lt_of_le hg (size_sortWorldK_c enc 2 w g 0 n d' os), c0, c1⟩

theorem below_sort {w : World} {g n B : Nat} {d' : Array Sp} {os : Array Obj} (hB : B ≤ g) (hg : g < w.heap.size) : Below B w (sortWorldK enc 2 w g 0 n d' os) := by
  refine ⟨rfl, rfl, rfl, size_sortWorldK_c enc 2 w g 0 n d' os, fun k hk => ?_⟩
  unfold sortWorldK
  rw [Go.Sort.heap_grow_old _ _ (by rw [Go.Sort.size_putRowK]; exact Nat.lt_of_lt_of_le hk (by show B ≤ w.heap.size; omega))]
  show (w.heap.modify g _)[k]? = _
  rw [Array.getElem?_modify, if_neg (by omega)]

/-- In the order of their beginnings, without the empty ones. -/
structure Asc (l m : List Sp) : Prop where
  perm : m.Perm (l.filter fun s => decide (s.f < s.t))
  sorted : m.Pairwise fun a b => a.f ≤ b.f

theorem asc_of {l : List Sp} {d' : Array Sp} (hp : Go.Sort.PermIn 0 (l.filter fun s => decide (s.f < s.t)).toArray.size (l.filter fun s => decide (s.f < s.t)).toArray d') (hs : Go.Sort.SortedIn (ltOf byF) 0 (l.filter fun s => decide (s.f < s.t)).toArray.size d') : Asc l d'.toList := by
  obtain ⟨k, hk⟩ : ∃ k, k = l.filter fun s => decide (s.f < s.t) := ⟨_, rfl⟩
  rw [← hk] at hp hs
  obtain ⟨h1, -, h3⟩ := hp
  have e1 : (d'.extract 0 k.toArray.size).toList = d'.toList := by rw [← h1]; simp
  have e2 : (k.toArray.extract 0 k.toArray.size).toList = k := by simp
  rw [e1, e2] at h3
  have h4 : d'.toList.Pairwise fun a b => a.f ≤ b.f := by
    rw [List.pairwise_iff_getElem]
    intro i j hi hj hij
    have hj' : j < d'.size := by simpa using hj
    have := hs i j (Nat.zero_le _) hij (by omega)
    rw [byF_lt] at this
    have e3 : d'[i]! = d'.toList[i] := by simp [show i < d'.size by omega]
    have e4 : d'[j]! = d'.toList[j] := by simp [hj']
    rw [e3, e4] at this
    simp at this ⊢
    omega
  exact ⟨hk ▸ h3, h4⟩

set_option maxRecDepth 100000 in
set_option maxHeartbeats 2000000 in
theorem sort_any (m l : List Sp) (hm : m = l.filter fun s => decide (s.f < s.t)) (base cap : Nat) (v0 : Option Addr) (w : World) (hl : m.length ≤ 1000000)
    (h : w.ownsRow base 23 2 (.slice v0 m.length cap) m.length (flt m)) :
    Calls Try.prog 31 #[.slice v0 m.length cap, .func (.func 32) #[] #[]] w fun e w' => e = .returned (.tuple #[]) ∧ (∃ u, u.length = m.length ∧ Asc l u ∧ SpAt w' v0 u) ∧ Below base w w' := by
  by_cases h0 : m = []
  · have hcon := AnyF.slices_SortFunc_none Try.sortSpan v0 cap (.func (.func 32) #[] #[]) w
    change Calls Try.prog 31 _ _ _ at hcon
    rw [h0]
    refine hcon.mono ?_
    rintro e w' ⟨rfl, rfl⟩
    refine ⟨rfl, ⟨[], rfl, ⟨by rw [← hm, h0], .nil⟩, fun i hi => absurd hi (by simp)⟩, Below.refl _ _⟩
  · have hpos : 0 < m.length := List.length_pos_iff.2 h0
    obtain ⟨g, rfl⟩ : ∃ g, v0 = some ⟨g, 0, none⟩ := by
      rcases h.2 with ⟨-, h2⟩ | ⟨g, c, cur, h1, _⟩
      · omega
      · injection h1 with e1 e2 e3
        exact ⟨g, e1⟩
    have hlt := h.lt g rfl
    have hH := holds_own h
    have eg : ∀ args w, (callFunc 32 args).run Try.prog w = .ok (.enter 32 args) w := enters_of Try.func32 (by kernel_rfl) rfl
    have hcon := AnyQ.slices_SortFunc Try.sortSpan 2 Try.isAgg23 Try.sizeOf23 enc (fun _ => rfl) (fun x v hv => by simp [enc] at hv; rcases hv with rfl | rfl <;> rfl) byF byF_swo 32 #[] g 0 cap m.toArray w eg (fun _ _ _ _ x y => closure_any x y _) hH hlt.2 (by simp; omega)
    change Calls Try.prog 31 _ _ _ at hcon
    rw [List.size_toArray] at hcon
    refine hcon.mono ?_
    rintro e w' ⟨rfl, d', n, os, hp, hs, rfl⟩
    have hsz : d'.size = m.length := by simpa using hp.1
    subst hm
    refine ⟨rfl, ⟨d'.toList, by simpa using hsz, asc_of hp hs, sorted_at hH hlt.2 hp.1⟩, below_sort hlt.1 hlt.2⟩
end Go.Proofs.Ytjfhkheedcpimaa
