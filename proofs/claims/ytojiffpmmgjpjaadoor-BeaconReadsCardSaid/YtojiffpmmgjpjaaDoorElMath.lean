/-
  LISTS OF ELEMENTS (of no program): layer 9.
-/
namespace Go.Em

structure El where
  id : Int
  s : ByteArray

def chkE (e : El) : Int := if e.id < 0 ∨ 255 < e.id then 4 else if 255 < e.s.size then 2 else 0
def chkL : List El → Int
  | [] => 0
  | e :: l => if chkE e = 0 then chkL l else chkE e
def chk (l : List El) : Int := if 32 < l.length then 6 else chkL l
def encE (e : El) : List UInt8 := UInt8.ofNat e.id.toNat :: UInt8.ofNat e.s.size :: e.s.data.toList
def encL (l : List El) : List UInt8 := l.flatMap encE
/-- The octets of a list, or none. -/
def enc (l : List El) : ByteArray := if chk l = 0 then ⟨(encL l).toArray⟩ else ⟨#[]⟩

theorem chkE_ok {e : El} : chkE e = 0 ↔ (0 ≤ e.id ∧ e.id ≤ 255) ∧ e.s.size ≤ 255 := by
  unfold chkE
  split
  · constructor
    · intro h; exact absurd h (by decide)
    · intro h; omega
  · split
    · constructor
      · intro h; exact absurd h (by decide)
      · intro h; omega
    · constructor
      · intro _; omega
      · intro _; rfl
theorem chkL_ok {l : List El} : chkL l = 0 ↔ ∀ e ∈ l, chkE e = 0 := by
  induction l with
  | nil => simp [chkL]
  | cons e l ih =>
    unfold chkL
    split
    · rename_i h; rw [ih]; simp [h]
    · rename_i h; constructor
      · intro h'; exact absurd h' h
      · intro h'; exact absurd (h' e List.mem_cons_self) h
theorem chkL_mem {l : List El} (h : ¬ chkL l = 0) : ∃ i, ∃ hi : i < l.length, (∀ j (hj : j < l.length), j < i → chkE l[j] = 0) ∧ chkE l[i] = chkL l ∧ ¬ chkE l[i] = 0 := by
  induction l with
  | nil => exact absurd rfl h
  | cons e l ih =>
    by_cases he : chkE e = 0
    · have hu : chkL (e :: l) = chkL l := by rw [chkL, if_pos he]
      rw [hu] at h
      obtain ⟨i, hi, h1, h2, h3⟩ := ih h
      refine ⟨i + 1, by simpa using hi, fun j hj hji => ?_, by rw [hu]; exact h2, h3⟩
      cases j with
      | zero => exact he
      | succ j => exact h1 j (by simpa using hj) (by omega)
    · exact ⟨0, by simp, fun j _ hj => absurd hj (Nat.not_lt_zero j), by rw [chkL, if_neg he]; rfl, he⟩
/-- The check of a list, by its first element that fails. -/
theorem chkL_at {l : List El} {i : Nat} (hi : i < l.length) (h : ∀ j (hj : j < l.length), j < i → chkE l[j] = 0) (hn : ¬ chkE l[i] = 0) : chkL l = chkE l[i] := by
  induction l generalizing i with
  | nil => cases hi
  | cons e l ih =>
    cases i with
    | zero =>
      have hn' : ¬ chkE e = 0 := hn
      rw [chkL, if_neg hn']; rfl
    | succ i =>
      have h0 : chkE e = 0 := h 0 (by simp) (by omega)
      rw [chkL, if_pos h0]
      exact ih (by simpa using hi) (fun j hj hji => h (j + 1) (by simpa using hj) (by omega)) hn
theorem chkL_all {l : List El} (h : ∀ j (hj : j < l.length), chkE l[j] = 0) : chkL l = 0 :=
  chkL_ok.2 fun e he => by obtain ⟨j, hj, rfl⟩ := List.getElem_of_mem he; exact h j hj
theorem chkE_cases (e : El) : chkE e = 0 ∨ chkE e = 2 ∨ chkE e = 4 := by
  unfold chkE
  split
  · exact .inr (.inr rfl)
  · split
    · exact .inr (.inl rfl)
    · exact .inl rfl

theorem encL_take_succ {l : List El} {k : Nat} (h : k < l.length) : encL (l.take (k + 1)) = encL (l.take k) ++ encE l[k] := by
  unfold encL
  rw [List.take_add_one, List.flatMap_append, List.getElem?_eq_getElem h]
  simp
theorem encE_len (e : El) : (encE e).length = 2 + e.s.size := by
  have : e.s.data.toList.length = e.s.size := Array.length_toList
  unfold encE; rw [List.length_cons, List.length_cons, this]; omega
theorem encL_len {l : List El} (h : chkL l = 0) : (encL l).length ≤ 257 * l.length := by
  have h' := chkL_ok.1 h
  clear h
  induction l with
  | nil => simp [encL]
  | cons e l ih =>
    have h1 := encE_len e
    have h2 := (chkE_ok.1 (h' e List.mem_cons_self)).2
    have h3 := ih fun x hx => h' x (List.mem_cons_of_mem _ hx)
    have e1 : encL (e :: l) = encE e ++ encL l := List.flatMap_cons ..
    rw [e1, List.length_append, List.length_cons, h1]
    omega
theorem enc_size (l : List El) : (enc l).size ≤ 10000 := by
  unfold enc
  split
  · rename_i h
    unfold chk at h
    split at h
    · exact absurd h (by decide)
    · have := encL_len h
      rw [show (⟨(encL l).toArray⟩ : ByteArray).size = (encL l).length from List.size_toArray]
      omega
  · exact Nat.zero_le _

/-! Decode. -/
def byt (s : ByteArray) (i : Nat) : Nat := (s.data.toList.getD i 0).toNat
theorem byt_get {s : ByteArray} {i : Nat} (h : i < s.size) : (s[i]'h).toNat = byt s i := by
  unfold byt
  have h' : i < s.data.toList.length := by rw [Array.length_toList]; exact h
  rw [List.getD_eq_getElem?_getD, List.getElem?_eq_getElem h']
  rfl
theorem byt_lt (s : ByteArray) (i : Nat) : byt s i < 256 := UInt8.toNat_lt _

def elAt (s : ByteArray) (p : Nat) : El := ⟨byt s p, s.extract (p + 2) (p + 2 + byt s (p + 1))⟩
def decF (s : ByteArray) : Nat → Nat → Nat → List El × Int
  | 0, _, _ => ([], 0)
  | f + 1, p, k =>
    if p < s.size then
      if k = 32 then ([], 6)
      else if s.size - p < 2 ∨ s.size - p - 2 < byt s (p + 1) then ([], 1)
      else
        let r := decF s f (p + 2 + byt s (p + 1)) (k + 1)
        if r.2 = 0 then (elAt s p :: r.1, 0) else ([], r.2)
    else ([], 0)
def dec (s : ByteArray) : List El × Int := decF s (s.size + 1) 0 0
/-- What is read, behind what was read. -/
def fin (L : List El) (r : List El × Int) : List El × Int := if r.2 = 0 then (L ++ r.1, 0) else ([], r.2)
theorem dec_fin (s : ByteArray) : dec s = fin [] (decF s (s.size + 1) 0 0) := by
  have key : ∀ f p k, ¬ (decF s f p k).2 = 0 → (decF s f p k).1 = [] := by
    intro f p k
    cases f with
    | zero => intro _; rfl
    | succ f =>
      rw [decF]
      split
      · split
        · intro _; rfl
        · split
          · intro _; rfl
          · simp only
            split
            · intro h; exact absurd rfl h
            · intro _; rfl
      · intro _; rfl
  unfold dec fin
  split
  · rename_i h
    rw [List.nil_append]
    exact Prod.ext rfl h
  · rename_i h
    exact Prod.ext (key _ _ _ h) rfl
theorem fin_end {s : ByteArray} {f p k : Nat} (L : List El) (h : ¬ p < s.size) : fin L (decF s (f + 1) p k) = (L, 0) := by
  rw [decF, if_neg h]; simp [fin]
theorem fin_full {s : ByteArray} {f p : Nat} (L : List El) (h : p < s.size) : fin L (decF s (f + 1) p 32) = ([], 6) := by
  rw [decF, if_pos h, if_pos rfl]; simp [fin]
theorem fin_short {s : ByteArray} {f p k : Nat} (L : List El) (h : p < s.size) (hk : ¬ k = 32) (hs : s.size - p < 2 ∨ s.size - p - 2 < byt s (p + 1)) : fin L (decF s (f + 1) p k) = ([], 1) := by
  rw [decF, if_pos h, if_neg hk, if_pos hs]; simp [fin]
theorem fin_step {s : ByteArray} {f p k : Nat} (L : List El) (h : p < s.size) (hk : ¬ k = 32) (hs : ¬ (s.size - p < 2 ∨ s.size - p - 2 < byt s (p + 1))) :
    fin L (decF s (f + 1) p k) = fin (L ++ [elAt s p]) (decF s f (p + 2 + byt s (p + 1)) (k + 1)) := by
  rw [decF, if_pos h, if_neg hk, if_neg hs]
  simp only
  generalize decF s f (p + 2 + byt s (p + 1)) (k + 1) = r
  obtain ⟨r1, r2⟩ := r
  unfold fin
  simp only
  by_cases h0 : r2 = 0
  · rw [if_pos h0, if_pos h0, if_pos rfl]; simp
  · rw [if_neg h0, if_neg h0, if_neg h0]

theorem ba_ext {a b : ByteArray} (h : a.data.toList = b.data.toList) : a = b := by
  obtain ⟨⟨x⟩⟩ := a; obtain ⟨⟨y⟩⟩ := b
  simp at h; rw [h]
theorem ex_list (s : ByteArray) (p n : Nat) : (s.extract p (p + n)).data.toList = (s.data.toList.drop p).take n := by
  rw [ByteArray.data_extract, Array.toList_extract, List.extract_eq_take_drop]
  congr 1; omega
theorem byt_drop (s : ByteArray) (p i : Nat) : byt s (p + i) = ((s.data.toList.drop p).getD i 0).toNat := by
  unfold byt
  rw [List.getD_eq_getElem?_getD, List.getD_eq_getElem?_getD, List.getElem?_drop]

/-- What was encoded is decoded. -/
theorem dec_of_enc (s : ByteArray) (m : List El) : ∀ (f p k : Nat), s.size - p < f → s.data.toList.drop p = encL m → k + m.length ≤ 32 → (∀ e ∈ m, chkE e = 0) → decF s f p k = (m, 0) := by
  induction m with
  | nil =>
    intro f p k hf hd hk hc
    have h0 : ¬ p < s.size := by
      have h1 := congrArg List.length hd
      rw [List.length_drop, Array.length_toList] at h1
      have h2 : s.data.size = s.size := rfl
      simp [encL] at h1
      omega
    cases f with
    | zero => rfl
    | succ f => rw [decF, if_neg h0]
  | cons e m ih =>
    intro f p k hf hd hk hc
    have hE : encL (e :: m) = encE e ++ encL m := List.flatMap_cons ..
    have hlen := congrArg List.length hd
    rw [hE, List.length_append, encE_len, List.length_drop, Array.length_toList] at hlen
    have h2 : s.data.size = s.size := rfl
    obtain ⟨⟨hi0, hi1⟩, hsz⟩ := chkE_ok.1 (hc e List.mem_cons_self)
    have hp : p < s.size := by omega
    cases f with
    | zero => omega
    | succ f =>
      have b0 : byt s p = e.id.toNat := by
        have := byt_drop s p 0
        rw [Nat.add_zero] at this
        rw [this, hd, hE]
        show (UInt8.ofNat e.id.toNat).toNat = _
        rw [UInt8.toNat_ofNat']; omega
      have b1 : byt s (p + 1) = e.s.size := by
        rw [byt_drop s p 1, hd, hE]
        show (UInt8.ofNat e.s.size).toNat = _
        rw [UInt8.toNat_ofNat']; omega
      have hnext : s.data.toList.drop (p + 2 + e.s.size) = encL m := by
        rw [show p + 2 + e.s.size = p + (2 + e.s.size) by omega, ← List.drop_drop, hd, hE, ← encE_len e, List.drop_left]
      have hel : elAt s p = e := by
        unfold elAt
        rw [b0, b1]
        have hx : s.extract (p + 2) (p + 2 + e.s.size) = e.s := by
          apply ba_ext
          rw [ex_list, ← List.drop_drop, hd, hE]
          show (e.s.data.toList ++ encL m).take e.s.size = _
          rw [show e.s.size = e.s.data.toList.length from Array.length_toList.symm, List.take_left]
        rw [hx]
        obtain ⟨i, t⟩ := e
        simp only at hi0 ⊢
        congr 1
        omega
      rw [decF, if_pos hp, if_neg (by simp at hk; omega), if_neg (by rw [b1]; omega), b1, hel]
      rw [ih f (p + 2 + e.s.size) (k + 1) (by omega) hnext (by simp at hk; omega) fun x hx => hc x (List.mem_cons_of_mem _ hx)]
      simp
theorem dec_enc {l : List El} (h : chk l = 0) : dec (enc l) = (l, 0) := by
  have h' := h
  unfold chk at h'
  split at h'
  · exact absurd h' (by decide)
  · rename_i hl
    have hE : enc l = ⟨(encL l).toArray⟩ := if_pos h
    rw [hE]
    exact dec_of_enc _ l _ 0 0 (by omega) (by simp) (by omega) (chkL_ok.1 h')

theorem size_ex (s : ByteArray) (p n : Nat) (h : p + n ≤ s.size) : (s.extract p (p + n)).size = n := by
  have h2 : s.data.size = s.size := rfl
  have h1 : (s.extract p (p + n)).data.toList.length = n := by
    rw [ex_list, List.length_take, List.length_drop, Array.length_toList]; omega
  rwa [Array.length_toList] at h1

/-- What is decoded is a list, and its octets are what was read. -/
theorem enc_of_dec (s : ByteArray) : ∀ (f p k : Nat) (n : List El), s.size - p < f → k ≤ 32 → decF s f p k = (n, 0) → (∀ e ∈ n, chkE e = 0) ∧ k + n.length ≤ 32 ∧ encL n = s.data.toList.drop p
  | 0, p, k, n, hf, _, _ => by omega
  | f + 1, p, k, n, hf, hk, h => by
    have h2 : s.data.size = s.size := rfl
    by_cases hp : p < s.size
    · rw [decF, if_pos hp] at h
      by_cases h32 : k = 32
      · rw [if_pos h32] at h; exact absurd (show (6 : Int) = 0 from congrArg Prod.snd h) (by decide)
      · rw [if_neg h32] at h
        by_cases hs : s.size - p < 2 ∨ s.size - p - 2 < byt s (p + 1)
        · rw [if_pos hs] at h; exact absurd (show (1 : Int) = 0 from congrArg Prod.snd h) (by decide)
        · rw [if_neg hs] at h
          simp only at h
          have ih := enc_of_dec s f (p + 2 + byt s (p + 1)) (k + 1) (decF s f (p + 2 + byt s (p + 1)) (k + 1)).1 (by omega) (by omega)
          generalize decF s f (p + 2 + byt s (p + 1)) (k + 1) = r at h ih
          obtain ⟨r1, r2⟩ := r
          simp only at h ih
          by_cases h0 : r2 = 0
          · subst h0
            rw [if_pos rfl] at h
            obtain rfl : elAt s p :: r1 = n := congrArg Prod.fst h
            obtain ⟨i1, i2, i3⟩ := ih rfl
            have hsz : (elAt s p).s.size = byt s (p + 1) := size_ex s (p + 2) _ (by omega)
            have hb := byt_lt s p
            have hb1 := byt_lt s (p + 1)
            refine ⟨fun e he => ?_, by simp; omega, ?_⟩
            · rcases List.mem_cons.1 he with rfl | he
              · refine chkE_ok.2 ⟨⟨?_, ?_⟩, by omega⟩
                · show 0 ≤ (byt s p : Int); omega
                · show (byt s p : Int) ≤ 255; omega
              · exact i1 e he
            · have hE : encL (elAt s p :: r1) = encE (elAt s p) ++ encL r1 := List.flatMap_cons ..
              rw [hE, i3]
              unfold encE
              rw [hsz]
              have e1 : (elAt s p).s.data.toList = (s.data.toList.drop (p + 2)).take (byt s (p + 1)) := ex_list s (p + 2) _
              rw [e1]
              have c0 : s.data.toList.drop p = s.data.toList.getD p 0 :: s.data.toList.getD (p + 1) 0 :: s.data.toList.drop (p + 2) := by
                have hl : s.data.toList.length = s.size := Array.length_toList
                rw [List.drop_eq_getElem_cons (by omega : p < s.data.toList.length), List.drop_eq_getElem_cons (by omega : p + 1 < s.data.toList.length)]
                rw [List.getD_eq_getElem?_getD, List.getD_eq_getElem?_getD, List.getElem?_eq_getElem (by omega : p < s.data.toList.length), List.getElem?_eq_getElem (by omega : p + 1 < s.data.toList.length)]
                rfl
              rw [c0]
              have u0 : UInt8.ofNat (elAt s p).id.toNat = s.data.toList.getD p 0 := by
                show UInt8.ofNat ((byt s p : Int).toNat) = _
                rw [Int.toNat_natCast]; unfold byt; exact UInt8.ofNat_toNat
              have u1 : UInt8.ofNat (byt s (p + 1)) = s.data.toList.getD (p + 1) 0 := by unfold byt; exact UInt8.ofNat_toNat
              rw [u0, u1]
              rw [List.cons_append, List.cons_append, show s.data.toList.drop (p + 2 + byt s (p + 1)) = (s.data.toList.drop (p + 2)).drop (byt s (p + 1)) from (List.drop_drop ..).symm, List.take_append_drop]
          · rw [if_neg h0] at h; exact absurd (congrArg Prod.snd h) h0
    · rw [decF, if_neg hp] at h
      obtain rfl : [] = n := congrArg Prod.fst h
      refine ⟨fun e he => absurd he List.not_mem_nil, by simpa using hk, ?_⟩
      rw [List.drop_eq_nil_of_le (by rw [Array.length_toList]; omega)]; rfl
theorem enc_dec {s : ByteArray} (h : (dec s).2 = 0) : chk (dec s).1 = 0 ∧ enc (dec s).1 = s := by
  obtain ⟨h1, h2, h3⟩ := enc_of_dec s (s.size + 1) 0 0 (dec s).1 (by omega) (by omega) (Prod.ext rfl h)
  have hc : chk (dec s).1 = 0 := by
    unfold chk
    rw [if_neg (by omega)]
    exact chkL_ok.2 h1
  refine ⟨hc, ?_⟩
  unfold enc
  rw [if_pos hc, h3]
  exact ba_ext (by simp)
theorem dec_err_nil {s : ByteArray} (h : ¬ (dec s).2 = 0) : (dec s).1 = [] := by
  rw [dec_fin] at h ⊢
  unfold fin at h ⊢
  split
  · rename_i h0; rw [if_pos h0] at h; exact absurd rfl h
  · rfl
theorem dec_len (s : ByteArray) : (dec s).1.length ≤ 32 := by
  by_cases h : (dec s).2 = 0
  · have := (enc_of_dec s (s.size + 1) 0 0 (dec s).1 (by omega) (by omega) (Prod.ext rfl h)).2.1; omega
  · rw [dec_err_nil h]; simp

/-- Lists as the laws meet them. -/
def sz (l : List El) : Prop := l.length ≤ 101 ∧ ∀ e ∈ l, e.s.size ≤ 20000
theorem dec_sz (s : ByteArray) : sz (dec s).1 := by
  refine ⟨by have := dec_len s; omega, fun e he => ?_⟩
  by_cases h : (dec s).2 = 0
  · have := (chkE_ok.1 ((enc_of_dec s (s.size + 1) 0 0 (dec s).1 (by omega) (by omega) (Prod.ext rfl h)).1 e he)).2; omega
  · rw [dec_err_nil h] at he; exact absurd he List.not_mem_nil

/-! Find and With. -/
def idx : List El → Int → Nat
  | [], _ => 0
  | e :: l, id => if e.id = id then 0 else idx l id + 1
theorem idx_le (l : List El) (id : Int) : idx l id ≤ l.length := by
  induction l with
  | nil => exact Nat.le_refl _
  | cons e l ih => unfold idx; split <;> simp <;> omega
theorem idx_at {l : List El} {id : Int} {i : Nat} (hi : i < l.length) (h : ∀ j (hj : j < l.length), j < i → ¬ l[j].id = id) (he : l[i].id = id) : idx l id = i := by
  induction l generalizing i with
  | nil => cases hi
  | cons e l ih =>
    unfold idx
    cases i with
    | zero =>
      have he' : e.id = id := he
      rw [if_pos he']
    | succ i =>
      have h0 : ¬ e.id = id := h 0 (by simp) (by omega)
      rw [if_neg h0]
      rw [ih (by simpa using hi) (fun j hj hji => h (j + 1) (by simpa using hj) (by omega)) he]
theorem idx_none {l : List El} {id : Int} (h : ∀ j (hj : j < l.length), ¬ l[j].id = id) : idx l id = l.length := by
  induction l with
  | nil => rfl
  | cons e l ih =>
    unfold idx
    have h0 : ¬ e.id = id := h 0 (by simp)
    rw [if_neg h0, ih (fun j hj => h (j + 1) (by simpa using hj))]; rfl
theorem idx_get {l : List El} {id : Int} (h : idx l id < l.length) : (l[idx l id]'h).id = id := by
  induction l with
  | nil => cases h
  | cons e l ih =>
    by_cases he : e.id = id
    · have h0 : idx (e :: l) id = 0 := by unfold idx; rw [if_pos he]
      simp only [h0]; exact he
    · have h0 : idx (e :: l) id = idx l id + 1 := by rw [idx, if_neg he]
      simp only [h0]
      exact ih (by rw [h0] at h; simpa using h)
def fnd (l : List El) (id : Int) : ByteArray × Bool := if h : idx l id < l.length then ((l[idx l id]'h).s, true) else (⟨#[]⟩, false)
def wth (l : List El) (e : El) : List El := if idx l e.id < l.length then l.set (idx l e.id) e else l ++ [e]
theorem fnd_yes {l : List El} {id : Int} {i : Nat} (hi : i < l.length) (e : idx l id = i) : fnd l id = (l[i].s, true) := by subst e; exact dif_pos hi
theorem fnd_no {l : List El} {id : Int} (e : idx l id = l.length) : fnd l id = (⟨#[]⟩, false) := dif_neg (by omega)
theorem idx_set {l : List El} {e : El} {id : Int} : ∀ {i : Nat}, idx l e.id = i → i < l.length → idx (l.set i e) id = idx l id := by
  induction l with
  | nil => intro i _ h; cases h
  | cons x l ih =>
    intro i hi h
    cases i with
    | zero =>
      have hx : x.id = e.id := by
        by_cases hx : x.id = e.id
        · exact hx
        · rw [idx, if_neg hx] at hi; omega
      show idx (e :: l) id = idx (x :: l) id
      rw [idx, idx, hx]
    | succ i =>
      have hx : ¬ x.id = e.id := by intro hx; rw [idx, if_pos hx] at hi; omega
      rw [idx, if_neg hx] at hi
      show idx (x :: l.set i e) id = idx (x :: l) id
      rw [idx, idx, ih (i := i) (by omega) (by simpa using h)]
theorem idx_snoc {l : List El} {e : El} {id : Int} : idx (l ++ [e]) id = if idx l id < l.length then idx l id else if e.id = id then l.length else l.length + 1 := by
  induction l with
  | nil => simp [idx]
  | cons x l ih =>
    rw [List.cons_append, idx, ih]
    by_cases hx : x.id = id
    · rw [if_pos hx, idx, if_pos hx]; simp
    · rw [if_neg hx, idx, if_neg hx]
      by_cases h1 : idx l id < l.length
      · rw [if_pos h1, if_pos (by simp; omega)]
      · rw [if_neg h1, if_neg (c := idx l id + 1 < (x :: l).length) (by simp; omega)]
        split <;> simp
theorem wth_len (l : List El) (e : El) : (wth l e).length = if (fnd l e.id).2 = true then l.length else l.length + 1 := by
  unfold wth
  by_cases h : idx l e.id < l.length
  · rw [if_pos h, fnd_yes h rfl]; simp
  · rw [if_neg h, fnd_no (by have := idx_le l e.id; omega)]; simp
theorem wth_self (l : List El) (e : El) : fnd (wth l e) e.id = (e.s, true) := by
  unfold wth
  by_cases h : idx l e.id < l.length
  · rw [if_pos h]
    have hi : idx (l.set (idx l e.id) e) e.id = idx l e.id := idx_set rfl h
    rw [fnd_yes (by rw [List.length_set]; exact h) hi]
    simp
  · rw [if_neg h]
    have hi := idx_snoc (l := l) (e := e) (id := e.id)
    rw [if_neg h, if_pos rfl] at hi
    rw [fnd_yes (by simp) hi]
    simp
theorem wth_other (l : List El) (e : El) (id : Int) (hne : ¬ id = e.id) : fnd (wth l e) id = fnd l id := by
  unfold wth
  by_cases h : idx l e.id < l.length
  · rw [if_pos h]
    have hi : idx (l.set (idx l e.id) e) id = idx l id := idx_set rfl h
    by_cases h2 : idx l id < l.length
    · rw [fnd_yes (by rw [List.length_set]; exact h2) hi, fnd_yes h2 rfl]
      have hx : ¬ idx l e.id = idx l id := by
        intro hx
        have a := idx_get h
        have b := idx_get h2
        simp only [hx] at a
        exact hne (b.symm.trans a)
      rw [List.getElem_set_ne hx]
    · have h3 : idx l id = l.length := by have := idx_le l id; omega
      rw [fnd_no h3, fnd_no (by rw [List.length_set, hi]; exact h3)]
  · rw [if_neg h]
    have hi := idx_snoc (l := l) (e := e) (id := id)
    rw [if_neg (c := e.id = id) (fun hx => hne hx.symm)] at hi
    by_cases h2 : idx l id < l.length
    · rw [if_pos h2] at hi
      rw [fnd_yes (by rw [List.length_append]; omega) hi, fnd_yes h2 rfl, List.getElem_append_left h2]
    · rw [if_neg h2] at hi
      rw [fnd_no (by rw [hi, List.length_append]; rfl), fnd_no (by have := idx_le l id; omega)]
theorem wth_sz {l : List El} {e : El} (h : sz l) (hl : l.length ≤ 100) (he : e.s.size ≤ 20000) : sz (wth l e) := by
  unfold wth
  split
  · refine ⟨by rw [List.length_set]; omega, fun x hx => ?_⟩
    rcases List.mem_or_eq_of_mem_set hx with hx | rfl
    · exact h.2 x hx
    · exact he
  · refine ⟨by rw [List.length_append]; simp; omega, fun x hx => ?_⟩
    rcases List.mem_append.1 hx with hx | hx
    · exact h.2 x hx
    · simp at hx; subst hx; exact he

/-! Small. -/
def cut (n : Nat) : Nat := if n < 20001 then n else 20001
def sumN (l : List El) : Nat → Nat
  | 0 => 0
  | k + 1 => sumN l k + cut ((l.getD k ⟨0, ⟨#[]⟩⟩).s.size)
def top (l : List El) : Nat := if l.length < 101 then l.length else 101
def sml (l : List El) : Bool := decide (l.length ≤ 100) && decide (sumN l (top l) ≤ 20000)
theorem cut_le (n : Nat) : cut n ≤ 20001 := by unfold cut; split <;> omega
theorem sumN_le (l : List El) : ∀ k, sumN l k ≤ 20001 * k
  | 0 => Nat.le_refl _
  | k + 1 => by have := sumN_le l k; have := cut_le ((l.getD k ⟨0, ⟨#[]⟩⟩).s.size); rw [sumN]; omega
theorem sumN_mem (l : List El) {i : Nat} : ∀ {k}, i < k → cut ((l.getD i ⟨0, ⟨#[]⟩⟩).s.size) ≤ sumN l k
  | 0, h => absurd h (Nat.not_lt_zero i)
  | k + 1, h => by
    rw [sumN]
    by_cases e : i = k
    · subst e; omega
    · have := sumN_mem l (i := i) (k := k) (by omega); omega
theorem sml_sz {l : List El} (h : sml l = true) : sz l ∧ l.length ≤ 100 := by
  unfold sml at h
  simp at h
  obtain ⟨h1, h2⟩ := h
  have ht : top l = l.length := by unfold top; rw [if_pos (by omega)]
  rw [ht] at h2
  refine ⟨⟨by omega, fun e he => ?_⟩, h1⟩
  obtain ⟨j, hj, rfl⟩ := List.getElem_of_mem he
  have := sumN_mem l (i := j) (k := l.length) hj
  rw [List.getD_eq_getElem?_getD, List.getElem?_eq_getElem hj] at this
  have hc : cut l[j].s.size ≤ 20000 := Nat.le_trans this h2
  unfold cut at hc
  split at hc <;> omega

/-! Same. -/
theorem el_eq {a b : El} : a = b ↔ a.id = b.id ∧ a.s = b.s := by
  cases a; cases b; simp
theorem same_of {a b : List El} (hl : a.length = b.length) (h : ∀ j (hj : j < a.length), a[j].id = (b[j]'(hl ▸ hj)).id ∧ a[j].s = (b[j]'(hl ▸ hj)).s) : a = b :=
  List.ext_getElem hl fun j hj _ => el_eq.2 (h j hj)
end Go.Em
