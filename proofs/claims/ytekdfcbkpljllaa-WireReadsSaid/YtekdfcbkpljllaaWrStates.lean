/-
  A Writer and a Reader as states (the error, the octets): what each call makes of them, the program's and the reference's.
-/
import Derived.Test.YtekdfcbkpljllaaWrGet
import Derived.Test.YtekdfcbkpljllaaWrDone
import Derived.Test.YtekdfcbkpljllaaWrRefR
namespace Go.Proofs.Ytekdfcbkpljllaa
open Go.RowKit Go.Wr

/-- Octets as a string. -/
def str (L : List UInt8) : ByteArray := ⟨L.toArray⟩
theorem str_list (s : ByteArray) : str s.data.toList = s := rfl
theorem str_size (L : List UInt8) : (str L).size = L.length := List.size_toArray ..
theorem list_str (L : List UInt8) : (str L).data.toList = L := rfl
theorem str_append (L : List UInt8) (s : ByteArray) : str L ++ s = str (L ++ s.data.toList) := by apply ByteArray.ext; simp [str]
theorem str_take (L : List UInt8) (n : Nat) : (str L).extract 0 n = str (L.take n) := by apply ByteArray.ext; simp [str]
theorem str_drop (L : List UInt8) (n : Nat) : (str L).extract n (str L).size = str (L.drop n) := by
  apply ByteArray.ext; rw [ByteArray.data_extract, str_size]; simp [str, List.take_of_length_le]

/-! ### The Writer -/
/-- The Writer at block b has this error, or these octets. -/
def WrS (w : World) (b : Nat) (e : Int) (L : List UInt8) : Prop := (e = 0 ∧ Wr w b L) ∨ (e ≠ 0 ∧ w.cell? ⟨b, 0, none⟩ = some (.int .i64 e) ∧ b < w.heap.size)
theorem WrS.lt {w : World} {b : Nat} {e : Int} {L : List UInt8} (h : WrS w b e L) : b < w.heap.size := by
  rcases h with ⟨_, h⟩ | ⟨_, _, h⟩
  · exact h.lt
  · exact h
theorem WrS.below {w w' : World} {b : Nat} {e : Int} {L : List UInt8} (h : WrS w b e L) (hb : Below w.heap.size w w') : WrS w' b e L := by
  rcases h with ⟨h0, h⟩ | ⟨h0, h1, h2⟩
  · exact .inl ⟨h0, h.below hb⟩
  · exact .inr ⟨h0, (hb.cell h2).trans h1, Nat.lt_of_lt_of_le h2 hb.size⟩

theorem Chain.setOther {w : World} {b g : Nat} {p : Option Addr} {ps : List ByteArray} {t : TypeId} {vs : List Value} (h : Chain w b p ps) (hg : Blk w g t vs) (ht : t ≠ 65) (i : Nat) (v : Value) : Chain (w.setCell ⟨g, i, none⟩ v) b p ps := by
  induction h with
  | nil => exact .nil
  | node g' q s ps hb hk _ ih =>
    refine .node g' q s ps hb (hk.setOther (fun e => ?_) v) ih
    have e : g' = g := e
    subst e
    have := Option.some.inj (hk.symm.trans hg)
    cases this
    exact ht rfl
theorem WrS.setOther {w : World} {b g : Nat} {e : Int} {L : List UInt8} {t : TypeId} {vs : List Value} (h : WrS w b e L) (hg : Blk w g t vs) (ht : t ≠ 65) (hgb : b ≠ g) (i : Nat) (v : Value) : WrS (w.setCell ⟨g, i, none⟩ v) b e L := by
  rcases h with ⟨h0, p, x, ps, h1, h2, h3⟩ | ⟨h0, h1, h2⟩
  · exact .inl ⟨h0, p, x, ps, h1.setOther hgb v, h2.setOther hg ht i v, h3⟩
  · exact .inr ⟨h0, (World.cell?_setCell_other _ _ _ _ (fun e => hgb (congrArg Addr.block e).symm)).trans h1, by simpa [World.setCell] using h2⟩

theorem WrS.drew {w : World} {b : Nat} {e : Int} {L : List UInt8} (h : WrS w b e L) : WrS w.drew b e L := h.below (Below.refl _ _).drew
/-- A cell of an old block, behind a call that wrote one newer block. -/
theorem oldCell {w wr w1 : World} {b o g : Nat} {v : Value} (hb : But g wr w1) (hbl : b < w.heap.size) (hg : w.heap.size ≤ g) (hs : w.heap.size ≤ wr.heap.size) (h : wr.cell? ⟨b, o, none⟩ = some v) : w1.cell? ⟨b, o, none⟩ = some v :=
  (hb.cell (p := ⟨b, o, none⟩) (Nat.lt_of_lt_of_le hbl hs) (by show b ≠ g; omega)).trans h

/-- A number that goes into so many octets. -/
def good (n k : Int) : Prop := 1 ≤ k ∧ k ≤ 6 ∧ 0 ≤ n ∧ n.toNat < pow k.toNat
open Classical in
/-- What Num makes of a Writer. -/
noncomputable def put (e : Int) (L : List UInt8) (n k : Int) : Int × List UInt8 :=
  if e ≠ 0 then (e, L) else if good n k then (0, L ++ le n.toNat k.toNat) else (4, L)
/-- What Text makes of it. -/
def txt (e : Int) (L : List UInt8) (s : ByteArray) : Int × List UInt8 := if e ≠ 0 then (e, L) else (0, L ++ s.data.toList)

theorem put_len (e : Int) (L : List UInt8) (n k : Int) : (put e L n k).2.length ≤ L.length + 6 := by
  unfold put
  split
  · simp
  · split
    · rename_i h; simp only [List.length_append, le_len]; have := h.2.1; omega
    · simp
theorem txt_len (e : Int) (L : List UInt8) (s : ByteArray) : (txt e L s).2.length ≤ L.length + s.size := by
  unfold txt
  split
  · simp
  · rw [List.length_append, Array.length_toList]; exact Nat.le_refl _

theorem put_st (b : Nat) (e : Int) (L : List UInt8) (n k : Int) (w : World) (h : WrS w b e L) (hL : L.length ≤ 140737488350000) :
    Calls Try.prog 10 #[.pointer (some ⟨b, 0, none⟩), .int .i64 n, .int .i64 k] w fun r w' => r = .returned (.tuple #[]) ∧ WrS w' b (put e L n k).1 (put e L n k).2 ∧ But b w w' := by
  rcases h with ⟨rfl, h⟩ | ⟨h0, h1, h2⟩
  · have hset : WrS (w.setCell ⟨b, 0, none⟩ (.int .i64 4)) b 4 L := .inr ⟨by decide, World.cell?_setCell_same _ _ _ h.c0, by simpa [World.setCell] using h.lt⟩
    unfold put
    rw [if_neg (by simp)]
    split
    · rename_i hg
      obtain ⟨h1, h6, h0, hlt⟩ := hg
      obtain ⟨n, rfl⟩ : ∃ m : Nat, n = m := ⟨n.toNat, by omega⟩
      obtain ⟨k, rfl⟩ : ∃ m : Nat, k = m := ⟨k.toNat, by omega⟩
      refine (put_ok b L n k w h (by omega) (by omega) hlt hL).mono fun r w' ⟨h1, h2, h3⟩ => ⟨h1, .inl ⟨rfl, h2⟩, h3⟩
    · rename_i hg
      by_cases hk : 1 ≤ k ∧ k ≤ 6
      · obtain ⟨k, rfl⟩ : ∃ m : Nat, k = m := ⟨k.toNat, by omega⟩
        by_cases hn : n < 0
        · refine (put_neg b n k w h.c0 (h.f 0) (by omega) (by omega) hn).mono fun r w' ⟨h1, h2⟩ => ⟨h1, ?_⟩
          subst h2; exact ⟨hset, But.set1 _ _ _ _⟩
        · obtain ⟨n, rfl⟩ : ∃ m : Nat, n = m := ⟨n.toNat, by omega⟩
          refine (put_big b n k w h.c0 (h.f 0) (by omega) (by omega) (fun hlt => hg ⟨by omega, by omega, by omega, hlt⟩)).mono fun r w' ⟨h1, h2⟩ => ⟨h1, ?_⟩
          subst h2; exact ⟨hset, But.set1 _ _ _ _⟩
      · refine (put_size b n k w h.c0 (h.f 0) hk).mono fun r w' ⟨h1, h2⟩ => ⟨h1, ?_⟩
        subst h2; exact ⟨hset, But.set1 _ _ _ _⟩
  · refine (put_bad b e n k w h1 (beq_eq_false_iff_ne.2 h0)).mono fun r w' ⟨h3, h4⟩ => ⟨h3, ?_⟩
    subst h4
    unfold put
    rw [if_pos h0]
    exact ⟨.inr ⟨h0, h1, h2⟩, But.refl _ _⟩

theorem text_st (b : Nat) (e : Int) (L : List UInt8) (s : ByteArray) (w : World) (h : WrS w b e L) (hL : L.length + s.size ≤ 140737488351232) :
    Calls Try.prog 11 #[.pointer (some ⟨b, 0, none⟩), .string s] w fun r w' => r = .returned (.tuple #[]) ∧ WrS w' b (txt e L s).1 (txt e L s).2 ∧ But b w w' := by
  rcases h with ⟨rfl, h⟩ | ⟨h0, h1, h2⟩
  · unfold txt
    rw [if_neg (by simp)]
    exact (text_ok b L s w h hL).mono fun r w' ⟨h1, h2, h3⟩ => ⟨h1, .inl ⟨rfl, h2⟩, h3⟩
  · refine (text_bad b e s w h1 (beq_eq_false_iff_ne.2 h0)).mono fun r w' ⟨h3, h4⟩ => ⟨h3, ?_⟩
    subst h4
    unfold txt
    rw [if_pos h0]
    exact ⟨.inr ⟨h0, h1, h2⟩, But.refl _ _⟩

/-- What Done answers. -/
def outS (e : Int) (L : List UInt8) : ByteArray := if e = 0 then str L else ⟨#[]⟩

theorem done_st (b : Nat) (e : Int) (L : List UInt8) (w : World) (h : WrS w b e L) (hL : L.length ≤ 140737488351232) :
    Calls Try.prog 12 #[.pointer (some ⟨b, 0, none⟩)] w fun r w' => r = .returned (.tuple #[.string (outS e L), .int .i64 e]) ∧ Below w.heap.size w w' := by
  rcases h with ⟨rfl, h⟩ | ⟨h0, h1, h2⟩
  · exact done_ok b L w h hL
  · unfold outS
    rw [if_neg h0]
    exact done_bad b e w h1 (beq_eq_false_iff_ne.2 h0)

theorem refNum_st (e : Int) (L : List UInt8) (n k : Int) (w : World) (hL : L.length ≤ 140737488351232) :
    Calls Try.prog 19 #[rv (str L) e, .int .i64 n, .int .i64 k] w fun r w' => r = .returned (rv (str (put e L n k).2) (put e L n k).1) ∧ Below w.heap.size w w' := by
  unfold put
  split
  · rename_i h; exact refNum_bad _ _ _ _ _ (bne_iff_ne.2 h)
  · rename_i h
    obtain rfl : e = 0 := Classical.not_not.1 h
    split
    · rename_i hg
      obtain ⟨h1, h6, h0, hlt⟩ := hg
      obtain ⟨n, rfl⟩ : ∃ m : Nat, n = m := ⟨n.toNat, by omega⟩
      obtain ⟨k, rfl⟩ : ∃ m : Nat, k = m := ⟨k.toNat, by omega⟩
      exact refNum_ok (str L) n k w (by omega) (by omega) hlt (by rw [str_size]; exact hL)
    · rename_i hg
      by_cases hk : 1 ≤ k ∧ k ≤ 6
      · obtain ⟨k, rfl⟩ : ∃ m : Nat, k = m := ⟨k.toNat, by omega⟩
        by_cases hn : n < 0
        · exact refNum_neg _ _ _ _ (by omega) (by omega) hn
        · obtain ⟨n, rfl⟩ : ∃ m : Nat, n = m := ⟨n.toNat, by omega⟩
          exact refNum_big _ _ _ _ (by omega) (by omega) (fun hlt => hg ⟨by omega, by omega, by omega, hlt⟩)
      · exact refNum_size _ _ _ _ hk

theorem refText_st (e : Int) (L : List UInt8) (s : ByteArray) (w : World) (hL : L.length + s.size ≤ 140737488351232) :
    Calls Try.prog 20 #[rv (str L) e, .string s] w fun r w' => r = .returned (rv (str (txt e L s).2) (txt e L s).1) ∧ Below w.heap.size w w' := by
  unfold txt
  split
  · rename_i h; exact refText_bad _ _ _ _ (bne_iff_ne.2 h)
  · rename_i h
    obtain rfl : e = 0 := Classical.not_not.1 h
    rw [← str_append]
    exact refText_ok _ _ _ (by rw [str_size]; omega)

theorem refDone_st (e : Int) (L : List UInt8) (w : World) :
    Calls Try.prog 21 #[rv (str L) e] w fun r w' => r = .returned (.tuple #[.string (outS e L), .int .i64 e]) ∧ Below w.heap.size w w' := refDone_any _ _ _

/-! ### The Reader -/
/-- The Reader at block b has this error, or these octets left. -/
def RdS (w : World) (b : Nat) (e : Int) (L : List UInt8) : Prop := ∃ s, Rd w b e s ∧ (e = 0 → s = str L)
theorem RdS.lt {w : World} {b : Nat} {e : Int} {L : List UInt8} (h : RdS w b e L) : b < w.heap.size := by obtain ⟨s, h, _⟩ := h; exact Blk.lt h
theorem RdS.blk {w w' : World} {b : Nat} {e : Int} {L : List UInt8} (h : RdS w b e L) (hb : w'.heap[b]? = w.heap[b]?) : RdS w' b e L := by
  obtain ⟨s, h, h1⟩ := h; exact ⟨s, Blk.of_block h hb, h1⟩
theorem RdS.ok {w : World} {b : Nat} {L : List UInt8} (h : RdS w b 0 L) : Rd w b 0 (str L) := by obtain ⟨s, h, h1⟩ := h; rw [← h1 rfl]; exact h
theorem RdS.c0 {w : World} {b : Nat} {e : Int} {L : List UInt8} (h : RdS w b e L) : w.cell? ⟨b, 0, none⟩ = some (.int .i64 e) := by obtain ⟨s, h, _⟩ := h; exact h.c0

/-- What Take makes of a Reader: the error, the octets left, the result. -/
def tk (e : Int) (L : List UInt8) (n : Int) : Int × List UInt8 × List UInt8 :=
  if e ≠ 0 then (e, L, []) else if n < 0 then (4, [], []) else if (L.length : Int) < n then (1, [], []) else (0, L.drop n.toNat, L.take n.toNat)
/-- What Num makes of it. -/
def gt (e : Int) (L : List UInt8) (k : Int) : Int × List UInt8 × Nat :=
  if e ≠ 0 then (e, L, 0) else if ¬ (1 ≤ k ∧ k ≤ 6) then (4, [], 0) else if (L.length : Int) < k then (1, [], 0) else (0, L.drop k.toNat, val (L.take k.toNat))
def lf (e : Int) (L : List UInt8) : Nat := if e = 0 then L.length else 0
def en (e : Int) (L : List UInt8) : Int := if e = 0 ∧ 0 < L.length then 2 else e
/-- What Fail makes of it. -/
def fl (e : Int) (L : List UInt8) (x : Int) : Int × List UInt8 := if e ≠ 0 ∨ x = 0 then (e, L) else (x, [])

theorem RdS.setE {w : World} {b : Nat} {L L' : List UInt8} (h : RdS w b 0 L) (x : Int) (hx : x ≠ 0) : RdS (w.setCell ⟨b, 0, none⟩ (.int .i64 x)) b x L' := ⟨_, h.ok.setE x, fun e => absurd e hx⟩
theorem RdS.setS {w : World} {b : Nat} {L L' : List UInt8} (h : RdS w b 0 L) : RdS (w.setCell ⟨b, 1, none⟩ (.string (str L'))) b 0 L' := ⟨_, h.ok.setS _, fun _ => rfl⟩

theorem take_st (b : Nat) (e : Int) (L : List UInt8) (n : Int) (w : World) (h : RdS w b e L) :
    Calls Try.prog 15 #[.pointer (some ⟨b, 0, none⟩), .int .i64 n] w fun r w' => r = .returned (.string (str (tk e L n).2.2)) ∧ RdS w' b (tk e L n).1 (tk e L n).2.1 ∧ But b w w' := by
  unfold tk
  split
  · rename_i h0
    refine (take_bad b e n w h.c0 (beq_eq_false_iff_ne.2 h0)).mono fun r w' ⟨h1, h2⟩ => ⟨h1, ?_⟩
    subst h2; exact ⟨h, But.refl _ _⟩
  · rename_i h0
    obtain rfl : e = 0 := Classical.not_not.1 h0
    split
    · rename_i hn
      refine (take_neg b _ n w h.ok hn).mono fun r w' ⟨h1, h2⟩ => ⟨h1, ?_⟩
      subst h2; exact ⟨h.setE 4 (by decide), But.set1 _ _ _ _⟩
    · split
      · rename_i hn
        refine (take_short b _ n w h.ok (by rw [str_size]; exact hn)).mono fun r w' ⟨h1, h2⟩ => ⟨h1, ?_⟩
        subst h2; exact ⟨h.setE 1 (by decide), But.set1 _ _ _ _⟩
      · obtain ⟨n, rfl⟩ : ∃ m : Nat, n = m := ⟨n.toNat, by omega⟩
        refine (take_ok b _ n w h.ok (by rw [str_size]; omega)).mono fun r w' ⟨h1, h2⟩ => ?_
        rw [str_take] at h1
        rw [str_drop] at h2
        subst h2; exact ⟨h1, h.setS, But.set1 _ _ _ _⟩

theorem num_st (b : Nat) (e : Int) (L : List UInt8) (k : Int) (w : World) (h : RdS w b e L) :
    Calls Try.prog 14 #[.pointer (some ⟨b, 0, none⟩), .int .i64 k] w fun r w' => r = .returned (.int .i64 (gt e L k).2.2) ∧ RdS w' b (gt e L k).1 (gt e L k).2.1 ∧ But b w w' := by
  unfold gt
  split
  · rename_i h0
    refine (num_bad b e k w h.c0 (beq_eq_false_iff_ne.2 h0)).mono fun r w' ⟨h1, h2⟩ => ⟨h1, ?_⟩
    subst h2; exact ⟨h, But.refl _ _⟩
  · rename_i h0
    obtain rfl : e = 0 := Classical.not_not.1 h0
    split
    · rename_i hn
      refine (num_range b _ k w h.ok hn).mono fun r w' ⟨h1, h2⟩ => ⟨h1, ?_⟩
      subst h2; exact ⟨h.setE 4 (by decide), But.set1 _ _ _ _⟩
    · rename_i hk
      have hk := Classical.not_not.1 hk
      split
      · rename_i hn
        refine (num_short b _ k w h.ok hk (by rw [str_size]; exact hn)).mono fun r w' ⟨h1, h2⟩ => ⟨h1, ?_⟩
        subst h2; exact ⟨h.setE 1 (by decide), But.set1 _ _ _ _⟩
      · obtain ⟨k, rfl⟩ : ∃ m : Nat, k = m := ⟨k.toNat, by omega⟩
        refine (num_ok b _ k w h.ok (by omega) (by omega) (by rw [str_size]; omega)).mono fun r w' ⟨h1, h2⟩ => ?_
        rw [str_take] at h1
        rw [str_drop] at h2
        subst h2; exact ⟨h1, h.setS, But.set1 _ _ _ _⟩

theorem rest_st (b : Nat) (e : Int) (L : List UInt8) (w : World) (h : RdS w b e L) :
    Calls Try.prog 26 #[.pointer (some ⟨b, 0, none⟩)] w fun r w' => r = .returned (.string (str (tk e L (lf e L)).2.2)) ∧ RdS w' b (tk e L (lf e L)).1 (tk e L (lf e L)).2.1 ∧ But b w w' := by
  unfold tk lf
  split
  · rename_i h0
    refine (rest_bad b e w h.c0 (beq_eq_false_iff_ne.2 h0)).mono fun r w' ⟨h1, h2⟩ => ⟨h1, ?_⟩
    subst h2; exact ⟨h, But.refl _ _⟩
  · rename_i h0
    obtain rfl : e = 0 := Classical.not_not.1 h0
    rw [if_pos rfl, if_neg (by omega), if_neg (by omega)]
    refine (rest_ok b _ w h.ok).mono fun r w' ⟨h1, h2⟩ => ?_
    subst h2
    rw [Int.toNat_natCast, List.take_length, List.drop_length]
    exact ⟨h1, h.setS, But.set1 _ _ _ _⟩

theorem left_st (b : Nat) (e : Int) (L : List UInt8) (w : World) (h : RdS w b e L) :
    Calls Try.prog 16 #[.pointer (some ⟨b, 0, none⟩)] w fun r w' => r = .returned (.int .i64 (lf e L)) ∧ w = w' := by
  unfold lf
  split
  · rename_i h0; subst h0
    have := left_ok b _ w h.ok
    rwa [str_size] at this
  · rename_i h0
    exact left_bad b e w h.c0 (beq_eq_false_iff_ne.2 h0)

theorem err_st (b : Nat) (e : Int) (L : List UInt8) (w : World) (h : RdS w b e L) :
    Calls Try.prog 17 #[.pointer (some ⟨b, 0, none⟩)] w fun r w' => r = .returned (.int .i64 e) ∧ w = w' := err_any b e w h.c0

theorem end_st (b : Nat) (e : Int) (L : List UInt8) (w : World) (h : RdS w b e L) :
    Calls Try.prog 18 #[.pointer (some ⟨b, 0, none⟩)] w fun r w' => r = .returned (.int .i64 (en e L)) ∧ w = w' := by
  unfold en
  by_cases h0 : e = 0
  · subst h0
    have := end_ok b _ w h.ok
    rw [str_size] at this
    simpa using this
  · rw [if_neg (fun hh => h0 hh.1)]
    exact end_bad b e w h.c0 (beq_eq_false_iff_ne.2 h0)

theorem fail_st (b : Nat) (e : Int) (L : List UInt8) (x : Int) (w : World) (h : RdS w b e L) :
    Calls Try.prog 25 #[.pointer (some ⟨b, 0, none⟩), .int .i64 x] w fun r w' => r = .returned (.tuple #[]) ∧ RdS w' b (fl e L x).1 (fl e L x).2 ∧ But b w w' := by
  unfold fl
  by_cases h0 : e = 0
  · subst h0
    refine (fail_ok b _ x w h.ok).mono fun r w' ⟨h1, h2⟩ => ⟨h1, ?_⟩
    subst h2
    by_cases hx : x = 0
    · subst hx; rw [if_pos (.inr rfl)]; exact ⟨⟨_, h.ok.setE 0, fun _ => rfl⟩, But.set1 _ _ _ _⟩
    · rw [if_neg (fun hh => hh.elim (fun h => h rfl) hx)]; exact ⟨h.setE x hx, But.set1 _ _ _ _⟩
  · rw [if_pos (.inl h0)]
    refine (fail_bad b e x w h.c0 (beq_eq_false_iff_ne.2 h0)).mono fun r w' ⟨h1, h2⟩ => ⟨h1, ?_⟩
    subst h2; exact ⟨h, But.refl _ _⟩

/-! the reference's -/
theorem refTake_st (e : Int) (L : List UInt8) (n : Int) (w : World) :
    Calls Try.prog 35 #[rv (str L) e, .int .i64 n] w fun r w' => r = .returned (.tuple #[rv (str (tk e L n).2.1) (tk e L n).1, .string (str (tk e L n).2.2)]) ∧ Below w.heap.size w w' := by
  unfold tk
  split
  · rename_i h0; exact refTake_bad _ _ _ _ (bne_iff_ne.2 h0)
  · rename_i h0
    obtain rfl : e = 0 := Classical.not_not.1 h0
    split
    · rename_i hn; exact refTake_fail _ _ 4 _ (.inl ⟨hn, rfl⟩)
    · rename_i hn
      split
      · rename_i hs; exact refTake_fail _ _ 1 _ (.inr ⟨hn, by rw [str_size]; exact hs, rfl⟩)
      · obtain ⟨n, rfl⟩ : ∃ m : Nat, n = m := ⟨n.toNat, by omega⟩
        have := refTake_ok (str L) n w (by rw [str_size]; omega)
        rw [str_take, str_drop] at this
        exact this

theorem refGet_st (e : Int) (L : List UInt8) (k : Int) (w : World) :
    Calls Try.prog 34 #[rv (str L) e, .int .i64 k] w fun r w' => r = .returned (.tuple #[rv (str (gt e L k).2.1) (gt e L k).1, .int .i64 (gt e L k).2.2]) ∧ Below w.heap.size w w' := by
  by_cases h0 : e = 0
  · subst h0
    by_cases hk : 1 ≤ k ∧ k ≤ 6
    · have e1 : gt 0 L k = ((tk 0 L k).1, (tk 0 L k).2.1, val (str (tk 0 L k).2.2).data.toList) := by
        have g1 : gt 0 L k = if (L.length : Int) < k then (1, [], 0) else (0, L.drop k.toNat, val (L.take k.toNat)) := by
          unfold gt; rw [if_neg (by simp), if_neg (fun h => h hk)]
        have g2 : tk 0 L k = if (L.length : Int) < k then (1, [], []) else (0, L.drop k.toNat, L.take k.toNat) := by
          unfold tk; rw [if_neg (by simp), if_neg (by omega)]
        rw [g1, g2]
        split <;> rfl
      rw [e1]
      refine refGet_via (str L) _ _ 0 _ k w ?_ (.inr ⟨rfl, by omega, by omega⟩) (fun W => refTake_st 0 L k W)
      unfold tk
      rw [if_neg (by simp), if_neg (by omega), str_size]
      split
      · simp
      · simp only [List.length_take]; omega
    · unfold gt
      rw [if_neg (by simp), if_pos hk]
      exact refGet_range _ _ _ (by omega)
  · have e1 : gt e L k = ((tk e L k).1, (tk e L k).2.1, val (str (tk e L k).2.2).data.toList) := by
      unfold gt tk
      rw [if_pos h0, if_pos h0]; rfl
    rw [e1]
    refine refGet_via (str L) _ _ e _ k w ?_ (.inl (beq_eq_false_iff_ne.2 h0)) (fun W => refTake_st e L k W)
    unfold tk
    rw [if_pos h0, str_size]; exact Nat.zero_le _

theorem refRest_st (e : Int) (L : List UInt8) (w : World) :
    Calls Try.prog 36 #[rv (str L) e] w fun r w' => r = .returned (.tuple #[rv (str (tk e L (lf e L)).2.1) (tk e L (lf e L)).1, .string (str (tk e L (lf e L)).2.2)]) ∧ Below w.heap.size w w' :=
  refRest_via (str L) _ _ e _ (lf e L) w (by unfold lf; rw [str_size]; split <;> simp) (fun W => refTake_st e L (lf e L) W)

theorem refLeft_st (e : Int) (L : List UInt8) (w : World) :
    Calls Try.prog 23 #[rv (str L) e] w fun r w' => r = .returned (.int .i64 (lf e L)) ∧ Below w.heap.size w w' := by
  have := refLeft_any (str L) e w
  unfold lf
  split at this <;> rename_i h
  · rw [if_pos h]; rwa [str_size] at this
  · rw [if_neg h]; exact this

theorem refEnd_st (e : Int) (L : List UInt8) (w : World) :
    Calls Try.prog 24 #[rv (str L) e] w fun r w' => r = .returned (.int .i64 (en e L)) ∧ Below w.heap.size w w' := by
  have := refEnd_any (str L) e w
  rwa [str_size] at this

theorem refFail_st (e : Int) (L : List UInt8) (x : Int) (w : World) :
    Calls Try.prog 37 #[rv (str L) e, .int .i64 x] w fun r w' => r = .returned (rv (str (fl e L x).2) (fl e L x).1) ∧ Below w.heap.size w w' := by
  unfold fl
  split
  · rename_i h
    refine refFail_keep _ _ _ _ ?_
    by_cases h0 : e = 0
    · subst h0; exact .inr ⟨rfl, beq_iff_eq.2 (h.resolve_left (by simp))⟩
    · exact .inl (bne_iff_ne.2 h0)
  · rename_i h
    obtain rfl : e = 0 := by by_cases h0 : e = 0; exact h0; exact absurd (.inl h0) h
    exact refFail_set _ _ _ (beq_eq_false_iff_ne.2 (fun hx => h (.inr hx)))
end Go.Proofs.Ytekdfcbkpljllaa
