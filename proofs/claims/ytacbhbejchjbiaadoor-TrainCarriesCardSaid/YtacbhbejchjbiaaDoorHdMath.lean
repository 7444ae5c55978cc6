/-
  KINDS OF FRAMES (of no program): layer 10.
-/
namespace Go.Hd

def isK (k : Int) : Prop := 1 ≤ k ∧ k ≤ 19
instance (k : Int) : Decidable (isK k) := by unfold isK; infer_instance
def mg (k : Int) : Prop := 1 ≤ k ∧ k ≤ 11
instance (k : Int) : Decidable (mg k) := by unfold mg; infer_instance
def pl (k : Int) : Prop := k = 18 ∨ k = 19
instance (k : Int) : Decidable (pl k) := by unfold pl; infer_instance
def fro (k : Int) : Prop := ¬ k = 13 ∧ ¬ k = 14
instance (k : Int) : Decidable (fro k) := by unfold fro; infer_instance
def nb (k : Int) : Prop := mg k ∨ pl k
instance (k : Int) : Decidable (nb k) := by unfold nb; infer_instance
def bd (k : Int) : Prop := mg k ∨ k = 15 ∨ k = 16 ∨ k = 18
instance (k : Int) : Decidable (bd k) := by unfold bd; infer_instance
def flg (k : Int) : Int := if mg k then 5 else if k = 18 then 63 else if k = 19 then 29 else 0
def cls (k : Int) : Int := if k = 1 ∨ k = 2 ∨ k = 3 ∨ k = 4 ∨ k = 10 ∨ k = 12 ∨ k = 13 ∨ k = 14 then 1 else if k = 5 ∨ k = 6 ∨ k = 7 ∨ k = 8 ∨ k = 9 then 2 else if isK k then 3 else 0
def rsp (k : Int) : Int := if k = 1 ∨ k = 2 then 0 else if k = 12 then 13 else if k = 15 then 16 else if mg k ∨ pl k ∨ k = 17 then 14 else 0
def nms : List ByteArray := [⟨#[98, 101, 97, 99, 111, 110]⟩, ⟨#[112, 114, 111, 98, 101, 45, 114, 101, 113, 117, 101, 115, 116]⟩, ⟨#[112, 114, 111, 98, 101, 45, 114, 101, 115, 112, 111, 110, 115, 101]⟩, ⟨#[97, 117, 116, 104]⟩, ⟨#[97, 115, 115, 111, 99, 45, 114, 101, 113, 117, 101, 115, 116]⟩, ⟨#[97, 115, 115, 111, 99, 45, 114, 101, 115, 112, 111, 110, 115, 101]⟩, ⟨#[114, 101, 97, 115, 115, 111, 99, 45, 114, 101, 113, 117, 101, 115, 116]⟩, ⟨#[114, 101, 97, 115, 115, 111, 99, 45, 114, 101, 115, 112, 111, 110, 115, 101]⟩, ⟨#[100, 105, 115, 97, 115, 115, 111, 99]⟩, ⟨#[100, 101, 97, 117, 116, 104]⟩, ⟨#[97, 99, 116, 105, 111, 110]⟩, ⟨#[114, 116, 115]⟩, ⟨#[99, 116, 115]⟩, ⟨#[97, 99, 107]⟩, ⟨#[98, 108, 111, 99, 107, 45, 114, 101, 113, 117, 101, 115, 116]⟩, ⟨#[98, 108, 111, 99, 107, 45, 97, 99, 107]⟩, ⟨#[112, 111, 108, 108]⟩, ⟨#[100, 97, 116, 97]⟩, ⟨#[110, 117, 108, 108]⟩]
def nm (k : Int) : ByteArray := if isK k then nms.getD (k - 1).toNat ⟨#[]⟩ else ⟨#[]⟩
/-- The place of a name, or the list's length. -/
def nidx : List ByteArray → ByteArray → Nat
  | [], _ => 0
  | x :: l, s => if x.data.toList = s.data.toList then 0 else nidx l s + 1
def byN (s : ByteArray) : Int := if nidx nms s < 19 then nidx nms s + 1 else 0

theorem kinds {k : Int} (h : isK k) : k = 1 ∨ k = 2 ∨ k = 3 ∨ k = 4 ∨ k = 5 ∨ k = 6 ∨ k = 7 ∨ k = 8 ∨ k = 9 ∨ k = 10 ∨ k = 11 ∨ k = 12 ∨ k = 13 ∨ k = 14 ∨ k = 15 ∨ k = 16 ∨ k = 17 ∨ k = 18 ∨ k = 19 := by unfold isK at h; omega
theorem nms_len : nms.length = 19 := rfl
theorem nidx_le (l : List ByteArray) (s : ByteArray) : nidx l s ≤ l.length := by
  induction l with
  | nil => exact Nat.le_refl _
  | cons x l ih => unfold nidx; split <;> simp <;> omega
theorem nidx_at {l : List ByteArray} {s : ByteArray} {i : Nat} (hi : i < l.length) (h : ∀ j (hj : j < l.length), j < i → ¬ l[j].data.toList = s.data.toList) (he : l[i].data.toList = s.data.toList) : nidx l s = i := by
  induction l generalizing i with
  | nil => cases hi
  | cons x l ih =>
    unfold nidx
    cases i with
    | zero =>
      have h0 : x.data.toList = s.data.toList := he
      rw [if_pos h0]
    | succ i =>
      have h0 : ¬ x.data.toList = s.data.toList := h 0 (by simp) (by omega)
      rw [if_neg h0, ih (by simpa using hi) (fun j hj hji => h (j + 1) (by simpa using hj) (by omega)) he]
theorem nidx_none {l : List ByteArray} {s : ByteArray} (h : ∀ j (hj : j < l.length), ¬ l[j].data.toList = s.data.toList) : nidx l s = l.length := by
  induction l with
  | nil => rfl
  | cons x l ih =>
    unfold nidx
    have h0 : ¬ x.data.toList = s.data.toList := h 0 (by simp)
    rw [if_neg h0, ih (fun j hj => h (j + 1) (by simpa using hj))]; rfl
theorem byN_at {s : ByteArray} {i : Nat} (hi : i < 19) (h : ∀ j (hj : j < nms.length), j < i → ¬ nms[j].data.toList = s.data.toList) (he : (nms[i]'(by rw [nms_len]; exact hi)).data.toList = s.data.toList) : byN s = i + 1 := by
  unfold byN
  rw [nidx_at (by rw [nms_len]; exact hi) h he, if_pos hi]
theorem byN_none {s : ByteArray} (h : ∀ j (hj : j < nms.length), ¬ nms[j].data.toList = s.data.toList) : byN s = 0 := by
  unfold byN
  rw [nidx_none h, nms_len, if_neg (by decide)]
theorem byN_nm {k : Int} (h : isK k) : byN (nm k) = k := by
  rcases kinds h with rfl | rfl | rfl | rfl | rfl | rfl | rfl | rfl | rfl | rfl | rfl | rfl | rfl | rfl | rfl | rfl | rfl | rfl | rfl <;> decide
theorem byN_empty : byN ⟨#[]⟩ = 0 := by decide
theorem nm_ne {k : Int} (h : isK k) : ¬ (nm k).data.toList = [] := by
  rcases kinds h with rfl | rfl | rfl | rfl | rfl | rfl | rfl | rfl | rfl | rfl | rfl | rfl | rfl | rfl | rfl | rfl | rfl | rfl | rfl <;> decide
theorem nm_no {k : Int} (h : ¬ isK k) : nm k = ⟨#[]⟩ := if_neg h
theorem cls_yes {k : Int} (h : isK k) : 1 ≤ cls k ∧ cls k ≤ 3 := by
  rcases kinds h with rfl | rfl | rfl | rfl | rfl | rfl | rfl | rfl | rfl | rfl | rfl | rfl | rfl | rfl | rfl | rfl | rfl | rfl | rfl <;> decide
theorem cls_no {k : Int} (h : ¬ isK k) : cls k = 0 := by
  unfold isK at h
  unfold cls
  rw [if_neg (by omega), if_neg (by omega), if_neg (by unfold isK; omega)]
theorem rsp_no {k : Int} (h : ¬ isK k) : rsp k = 0 := by
  unfold isK at h
  unfold rsp mg pl
  rw [if_neg (by omega), if_neg (by omega), if_neg (by omega), if_neg (by omega)]
end Go.Hd
