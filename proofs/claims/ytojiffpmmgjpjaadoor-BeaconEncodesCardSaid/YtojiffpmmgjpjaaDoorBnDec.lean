/-
  WALKS of package beacon: read, Decode.
-/
import Derived.Test.YtojiffpmmgjpjaaDoorBnKn
import Derived.Test.YtojiffpmmgjpjaaDoorBnRd2
namespace Go.Bn
open Go.Wr
theorem rdB_tm {s : ByteArray} (h : rdE s = 0) : TmW (rdB s).tm := by
  unfold rdE at h
  split at h
  · exact absurd h (by decide)
  · split at h
    · split at h
      · rename_i ho; exact (els_back (b := hdB s) ho h ⟨rfl, rfl⟩).2
      · exact absurd h (by decide)
    · rename_i hd; exact absurd h hd
theorem rdE_short {s : ByteArray} (h : s.size < 6) : rdE s = 1 := if_pos h
theorem rdE_el {s : ByteArray} (h : ¬ s.size < 6) (hd : ¬ (Go.Em.dec (s.extract 6 s.size)).2 = 0) : rdE s = (Go.Em.dec (s.extract 6 s.size)).2 := by
  unfold rdE; rw [if_neg h, if_neg hd]
theorem rdE_ord {s : ByteArray} (h : ¬ s.size < 6) (hd : (Go.Em.dec (s.extract 6 s.size)).2 = 0) (ho : ord (knl (Go.Em.dec (s.extract 6 s.size)).1) = false) : rdE s = 3 := by
  unfold rdE; rw [if_neg h, if_pos hd, if_neg (by simp [ho])]
theorem rdE_in {s : ByteArray} (h : ¬ s.size < 6) (hd : (Go.Em.dec (s.extract 6 s.size)).2 = 0) (ho : ord (knl (Go.Em.dec (s.extract 6 s.size)).1) = true) : rdE s = swE (hdB s) (knl (Go.Em.dec (s.extract 6 s.size)).1) := by
  unfold rdE; rw [if_neg h, if_pos hd, if_pos ho]
theorem lsE_drop {l : List Go.Em.El} {k : Nat} (h : k < l.length) : lsE (l.drop k) = if elE l[k] = 0 then lsE (l.drop (k + 1)) else elE l[k] := by
  rw [List.drop_eq_getElem_cons h]; rfl
theorem lsB_take {b : Bn} {l : List Go.Em.El} {k : Nat} (h : k < l.length) : lsB b (l.take (k + 1)) = elB (lsB b (l.take k)) l[k] := by
  unfold lsB; rw [List.take_succ_eq_append_getElem h, List.foldl_append]; rfl
theorem knl_mem {l : List Go.Em.El} {x : Go.Em.El} (h : x ∈ knl l) : x ∈ l ∧ kn x.id = true := by
  unfold knl at h; exact List.mem_filter.1 h
theorem dec_sizes {s : ByteArray} (h : (Go.Em.dec s).2 = 0) : ∀ x ∈ (Go.Em.dec s).1, x.s.size ≤ 255 := fun x hx => by
  have hc := (Go.Em.enc_dec h).1
  unfold Go.Em.chk at hc
  split at hc
  · exact absurd hc (by decide)
  · exact (Go.Em.chkE_ok.1 (Go.Em.chkL_ok.1 hc x hx)).2
end Go.Bn

namespace Go.Proofs.YtojiffpmmgjpjaaDoor
open Go.RowKit Go.Bn Go.Wr
attribute [local go_sem ↓ high] Bn_.loadF Bn_.storeF Bn_.v_cells Bn_.v_match Bn_.loadS
attribute [local go_sem] Bn_.loadF_new Bn_.storeF_zero

/-- A beacon and a value, handed back out of a result's cell. -/
theorem ret_bn {fn : Func} {p q : Tmp} (hr : fn.results = #[.cell p 31, .tmp q]) {tmps : Array Value} {ds : _} {w : World} {g : Nat} {y : Bn} {vq : Value} {R : Ending → World → Prop} (hp : tmps.getD p undef = .pointer (some ⟨g, 0, none⟩)) (hq : tmps.getD q undef = vq) (hb : Bn_.Box w g y) (hd : ds = []) (hR : R (.returned (.tuple #[Bn_.v y, vq])) w) :
    bodyPost Tryd.prog fn R .ret ⟨tmps, ds⟩ w := by
  refine bodyPost_ret (v := .tuple #[Bn_.v y, vq]) ?_ hd hR
  have hp' : tmps[p]?.getD undef = .pointer (some ⟨g, 0, none⟩) := by simpa using hp
  have hq' : tmps[q]?.getD undef = vq := by simpa using hq
  have hl := run_loadVar_row w g 31 31 (Bn_.C y) (0, 0) _ hb Tryd.underlying31 rfl Bn_.sz
  simp [results, hr, hp', hq', asAddr, hl]
  rfl

/-- The result's cell, the Reader behind it, all else as it was. -/
structure Rdd (w : World) (σ : Sg) (wi : World) : Prop where
  res : Bn_.Box wi w.heap.size zb
  rd : Rs wi (w.heap.size + 1) σ
  bel : Below w.heap.size w wi
theorem Rdd.read {w wi w' : World} {σ τ : Sg} (h : Rdd w σ wi) (h1 : Rs w' (w.heap.size + 1) τ) (h2 : But (w.heap.size + 1) wi w') : Rdd w τ w' :=
  ⟨(h2.block _ h.res.lt (by omega)).trans h.res, h1, h.bel.trans (h2.below h.bel.size (by omega))⟩
theorem Rdd.num {w wi : World} {σ : Sg} (k : Nat) (h : Rdd w σ wi) (hk : 1 ≤ k ∧ k ≤ 6) :
    Calls Tryd.prog 44 #[.pointer (some ⟨w.heap.size + 1, 0, none⟩), .int .i64 (k : Int)] wi fun e w' => e = .returned (.int .i64 (rN k σ).1) ∧ Rdd w (rN k σ).2 w' :=
  (num_tot k _ σ wi h.rd hk).mono fun _ _ q => ⟨q.1, h.read q.2.1 q.2.2⟩
theorem Rdd.new (w : World) (s : ByteArray) : Rdd w (0, s.data.toList) ((w.alloc (.cells (Bn_.C zb) 31)).alloc (.cells #[.int .i64 0, .string s] 108)) := by
  have h2 := rs_new (w.alloc (.cells (Bn_.C zb) 31)) s
  have e : (w.alloc (.cells (Bn_.C zb) 31)).heap.size = w.heap.size + 1 := by simp
  rw [e] at h2
  exact ⟨(Bn_.Box.new w zb).allocC _, h2, ((Below.refl _ _).alloc (Nat.le_refl _) _).alloc (by simp) _⟩
/-- The same, and the beacon that is read. -/
structure Rde (w : World) (pb : Nat) (b : Bn) (σ : Sg) (wi : World) : Prop where
  d : Rdd w σ wi
  box : Bn_.Box wi pb b
  le : w.heap.size + 2 ≤ pb
theorem Rdd.lt {w wi : World} {σ : Sg} (h : Rdd w σ wi) : w.heap.size + 2 ≤ wi.heap.size := h.rd.lt
theorem Rdd.keep {w wi w' : World} {σ : Sg} (h : Rdd w σ wi) (hb : Below wi.heap.size wi w') : Rdd w σ w' := ⟨h.res.below hb h.res.lt, h.rd.blk (hb.block _ h.rd.lt), h.bel.trans (hb.mono h.bel.size)⟩
theorem Rde.new {w wi : World} {σ : Sg} (h : Rdd w σ wi) (b : Bn) : Rde w wi.heap.size b σ (wi.alloc (.cells (Bn_.C b) 31)) :=
  ⟨h.keep ((Below.refl _ _).alloc (Nat.le_refl _) _), Bn_.Box.new wi b, h.lt⟩
theorem Rde.keep {w wi w' : World} {pb : Nat} {b : Bn} {σ : Sg} (h : Rde w pb b σ wi) (hb : Below wi.heap.size wi w') : Rde w pb b σ w' := ⟨h.d.keep hb, h.box.below hb h.box.lt, h.le⟩
theorem Rde.read {w wi w' : World} {pb : Nat} {b : Bn} {σ τ : Sg} (h : Rde w pb b σ wi) (h1 : Rs w' (w.heap.size + 1) τ) (h2 : But (w.heap.size + 1) wi w') : Rde w pb b τ w' :=
  ⟨h.d.read h1 h2, (h2.block pb h.box.lt (by have := h.le; omega)).trans h.box, h.le⟩
theorem Rde.put {w wi w' : World} {pb : Nat} {b y : Bn} {σ : Sg} (h : Rde w pb b σ wi) (h1 : Bn_.Box w' pb y) (h2 : But pb wi w') : Rde w pb y σ w' := by
  have hle := h.le
  exact ⟨⟨(h2.block _ h.d.res.lt (by omega)).trans h.d.res, h.d.rd.blk (h2.block _ h.d.rd.lt (by omega)), h.d.bel.trans (h2.below h.d.bel.size (by omega))⟩, h1, h.le⟩
theorem Rde.rest {w wi : World} {pb : Nat} {b : Bn} {s : ByteArray} (h : Rde w pb b (0, s.data.toList) wi) :
    Calls Tryd.prog 45 #[.pointer (some ⟨w.heap.size + 1, 0, none⟩)] wi fun e w' => e = .returned (.string s) ∧ Rde w pb b (0, []) w' := by
  have hs : bz s.data.toList = s := by unfold bz; simp
  have hr : Rd wi (w.heap.size + 1) 0 s := by have := h.d.rd; unfold Rs at this; simp only [hs] at this; exact this
  refine (rest_ok _ s wi hr).mono ?_
  rintro _ _ ⟨he, rfl⟩
  exact ⟨he, h.read (Rd.setS hr ⟨#[]⟩) (But.set1 _ _ _ _)⟩
theorem Rde.fin {w wi : World} {pb : Nat} {b : Bn} {σ : Sg} (h : Rde w pb b σ wi) (y : Bn) : Bn_.Box (wi.setRow w.heap.size (Bn_.C y)) w.heap.size y ∧ Below w.heap.size w (wi.setRow w.heap.size (Bn_.C y)) :=
  ⟨h.d.res.setRow y, below_setRow h.d.bel (Nat.le_refl _)⟩

/-- What read hands back. -/
def RdPost (s : ByteArray) (w : World) (e : Ending) (w' : World) : Prop :=
  ∃ y, e = .returned (.tuple #[Bn_.v y, .int .i64 (rdE s)]) ∧ (rdE s = 0 → y = rdB s) ∧ Below w.heap.size w w'

set_option maxRecDepth 100000 in
set_option maxHeartbeats 8000000 in
theorem bnRead_short (s : ByteArray) (w : World) (h6 : s.size < 6) :
    Calls Tryd.prog 27 #[.string s] w fun e w' => RdPost s w e w' := by
  have HR := Lib.hid (rdE_short h6)
  have hs : s.data.toList.length = s.size := Array.length_toList
  have HE : Hid ((rN 2 (rN 4 (0, s.data.toList)).2).2.1 = 1) := by
    have := rds_short [4, 2] s.data.toList (by simp; omega)
    exact this
  have D1 := Lib.hid (Rdd.new w s)
  have C1 : Hid (∀ w2, Rdd w (0, s.data.toList) w2 → Calls Tryd.prog 44 #[.pointer (some ⟨w.heap.size + 1, 0, none⟩), .int .i64 4] w2 fun e w' => e = .returned (.int .i64 (rN 4 (0, s.data.toList)).1) ∧ Rdd w (rN 4 (0, s.data.toList)).2 w') := fun w2 h => h.num 4 (by decide)
  have C2 : Hid (∀ w2, Rdd w (rN 4 (0, s.data.toList)).2 w2 → Calls Tryd.prog 44 #[.pointer (some ⟨w.heap.size + 1, 0, none⟩), .int .i64 2] w2 fun e w' => e = .returned (.int .i64 (rN 2 (rN 4 (0, s.data.toList)).2).1) ∧ Rdd w (rN 2 (rN 4 (0, s.data.toList)).2).2 w') := fun w2 h => h.num 2 (by decide)
  generalize rN 2 (rN 4 (0, s.data.toList)).2 = q2 at *
  generalize rN 4 (0, s.data.toList) = q1 at *
  obtain ⟨z1, τ1⟩ := q1
  obtain ⟨z2, e2, l2⟩ := q2
  simp only at C1 C2 HE
  obtain rfl := HE.out
  have hf : (.agg #[.int .i64 z1, .int .i64 z2, .string ⟨#[]⟩, .int .i64 0, .int .i64 0, .int .i64 0, .int .i64 0, .bool false, .int .u64 0, .int .i64 0, .int .i64 0, .int .i64 0, .int .i64 0, .int .i64 0, .int .i64 0, .int .i64 0, .int .i64 0, .int .i64 0, .int .i64 0, .int .i64 0, .int .i64 0, .int .i64 0, .int .i64 0, .int .i64 0, .int .i64 0, .int .i64 0, .int .i64 0] : Value) = Bn_.v { zb with st := z1, iv := z2 } := rfl
  generalize ({ zb with st := z1, iv := z2 } : Bn) = y0 at *
  clear h6 hs HE
  go_enter Tryd.func27, Tryd.ntmps27
  go_wp2_with (first
    | (go_at_call 43; refine (new_any _ _).mono ?_; rintro e w' ⟨rfl, rfl⟩)
    | (go_at_call 44; refine (C2.out _ D2.out).mono ?_; rintro e w3 ⟨rfl, d3⟩; have E3 := Lib.hid (Rde.new d3 y0); clear d3)
    | (go_at_call 44; refine (C1.out _ D1.out).mono ?_; rintro e w2 ⟨rfl, d2⟩; have D2 := Lib.hid d2; clear d2)
    | (go_at_call 45; refine (rest_bad (w.heap.size + 1) 1 _ (Rd.c0 E3.out.d.rd) rfl).mono ?_; rintro e w4 ⟨rfl, rfl⟩)
    | (go_at_call 46; refine (err_tot _ _ _ E3.out.d.rd).mono ?_; rintro e w4 ⟨rfl, rfl⟩; have sf := E3.out.d.res.storeF y0))
  refine ret_bn Tryd.results27 rfl rfl (E3.out.fin y0).1 rfl ⟨y0, by rw [HR.out]; rfl, fun h => ?_, (E3.out.fin y0).2⟩
  rw [HR.out] at h; exact absurd h (by decide)

theorem rdPost_of {s : ByteArray} {w w' : World} {e : Ending} {y : Bn} {r : Int} (he : e = .returned (.tuple #[Bn_.v y, .int .i64 r])) (hr : rdE s = r) (hy : rdE s = 0 → y = rdB s) (hb : Below w.heap.size w w') : RdPost s w e w' := ⟨y, by rw [he, hr], hy, hb⟩

set_option maxRecDepth 100000 in
set_option maxHeartbeats 16000000 in
theorem bnRead_long (s : ByteArray) (w : World) (h6 : ¬ s.size < 6) (h4 : s.size ≤ 10006) (ht : KnTab w) :
    Calls Tryd.prog 27 #[.string s] w fun e w' => RdPost s w e w' := by
  have hs : s.data.toList.length = s.size := Array.length_toList
  have n0 := rN_num (s := s) (i := 0) (k := 4) (by omega)
  have n1 := rN_num (s := s) (i := 4) (k := 2) (by omega)
  rw [List.drop_zero] at n0
  have D1 := Lib.hid (Rdd.new w s)
  have C1 : Hid (∀ w2, Rdd w (0, s.data.toList) w2 → Calls Tryd.prog 44 #[.pointer (some ⟨w.heap.size + 1, 0, none⟩), .int .i64 4] w2 fun e w' => e = .returned (.int .i64 (num s 0 4)) ∧ Rdd w (0, s.data.toList.drop 4) w') := fun w2 h => by
    have := h.num 4 (by decide)
    rw [n0] at this
    exact this
  have C2 : Hid (∀ w2, Rdd w (0, s.data.toList.drop 4) w2 → Calls Tryd.prog 44 #[.pointer (some ⟨w.heap.size + 1, 0, none⟩), .int .i64 2] w2 fun e w' => e = .returned (.int .i64 (num s 4 2)) ∧ Rdd w (0, (s.extract 6 s.size).data.toList) w') := fun w2 h => by
    have := h.num 2 (by decide)
    rw [n1] at this
    rw [ex_list]
    exact this
  have hf : (.agg #[.int .i64 (num s 0 4), .int .i64 (num s 4 2), .string ⟨#[]⟩, .int .i64 0, .int .i64 0, .int .i64 0, .int .i64 0, .bool false, .int .u64 0, .int .i64 0, .int .i64 0, .int .i64 0, .int .i64 0, .int .i64 0, .int .i64 0, .int .i64 0, .int .i64 0, .int .i64 0, .int .i64 0, .int .i64 0, .int .i64 0, .int .i64 0, .int .i64 0, .int .i64 0, .int .i64 0, .int .i64 0, .int .i64 0] : Value) = Bn_.v (hdB s) := rfl
  have HEL := Lib.hid fun hd => rdE_el h6 hd
  have HOR := Lib.hid fun hd ho => rdE_ord h6 hd ho
  have HIN := Lib.hid fun hd ho => rdE_in h6 hd ho
  have HRB : Hid (rdB s = lsB (hdB s) (knl (Go.Em.dec (s.extract 6 s.size)).1)) := rfl
  have hts : (s.extract 6 s.size).size ≤ 10000 := by rw [ByteArray.size_extract]; omega
  have CD := Lib.hid fun w => decode_any (s.extract 6 s.size) w hts
  have HSZ := Lib.hid fun hd => dec_sizes (s := s.extract 6 s.size) hd
  have HDL := Lib.hid (Go.Em.dec_len (s.extract 6 s.size))
  unfold DecPost at CD
  have HT := Lib.hid ht
  generalize s.extract 6 s.size = t at *
  generalize Go.Em.dec t = q at *
  obtain ⟨L, r⟩ := q
  simp only at HEL HOR HIN HRB CD HSZ HDL
  generalize hdB s = y0 at *
  generalize num s 0 4 = z1 at *
  generalize num s 4 2 = z2 at *
  generalize s.data.toList.drop 4 = l4 at *
  clear h6 h4 hs n0 n1 hts ht
  by_cases hr : r = 0
  case neg =>
    have hr' : (r != 0) = true := by simp [hr]
    have HR := Lib.hid (HEL.out hr)
    have HN : Hid (rdE s = 0 → False) := fun h => hr (HR.out.symm.trans h)
    clear HOR HIN HSZ HEL hr
    go_enter Tryd.func27, Tryd.ntmps27
    go_wp2_with (first
      | (go_at_call 43; refine (new_any _ _).mono ?_; rintro e w' ⟨rfl, rfl⟩)
      | (go_at_call 47; refine (CD.out _).mono ?_; rintro e w5 ⟨v0, c, rfl, hsl, hb⟩; have E5 := Lib.hid (E4.out.keep hb); have lf := E5.out.box.loadF; have sf := E5.out.d.res.storeF y0; clear hb hsl)
      | (go_at_call 44; refine (C2.out _ D2.out).mono ?_; rintro e w3 ⟨rfl, d3⟩; have E3 := Lib.hid (Rde.new d3 y0); clear d3)
      | (go_at_call 44; refine (C1.out _ D1.out).mono ?_; rintro e w2 ⟨rfl, d2⟩; have D2 := Lib.hid d2; clear d2)
      | (go_at_call 45; refine E3.out.rest.mono ?_; rintro e w4 ⟨rfl, e4⟩; have E4 := Lib.hid e4; clear e4)
      | (go_at_call 46; refine (err_tot _ _ _ E4.out.d.rd).mono ?_; rintro e w4' ⟨rfl, rfl⟩))
    exact ret_bn Tryd.results27 rfl rfl (E5.out.fin y0).1 rfl (rdPost_of rfl HR.out (fun h => (HN.out h).elim) (E5.out.fin y0).2)
  subst hr
  have HSZ := Lib.hid (HSZ.out rfl)
  have CK := Lib.hid fun w sa c h ht => bnOnlyKnown_any L sa c w h (Nat.le_trans HDL.out (by decide)) ht
  unfold KnlPost at CK
  have HKM : Hid (∀ x ∈ knl L, kn x.id = true ∧ x.s.size ≤ 100000) := fun x hx => ⟨(knl_mem hx).2, by have := HSZ.out x (knl_mem hx).1; omega⟩
  have HKL : Hid ((knl L).length ≤ 1000) := Nat.le_trans (List.length_filter_le _ _) (Nat.le_trans HDL.out (by decide))
  generalize knl L = K at *
  have CO := Lib.hid fun w sa c h ht => bnInOrder_any K sa c w h HKL.out ht
  cases ho : ord K
  · have HR := Lib.hid (HOR.out rfl ho)
    have HN : Hid (rdE s = 0 → False) := fun h => by rw [HR.out] at h; exact absurd h (by decide)
    rw [ho] at CO
    clear HOR HIN HEL ho
    go_enter Tryd.func27, Tryd.ntmps27
    go_wp2_with (first
      | (go_at_call 43; refine (new_any _ _).mono ?_; rintro e w' ⟨rfl, rfl⟩)
      | (go_at_call 47; refine (CD.out _).mono ?_; rintro e w5 ⟨v0, c, rfl, hsl, hb⟩; have E5 := Lib.hid (E4.out.keep hb); have HSL := Lib.hid hsl.lies; clear hb hsl)
      | (go_at_call 48; refine (CK.out _ _ _ HSL.out (HT.out.below E5.out.d.bel HT.out.lt)).mono ?_; rintro e w6 ⟨v1, c1, rfl, hsl, hb, -⟩; have E6 := Lib.hid (E5.out.keep hb); have HSK := Lib.hid hsl.lies; clear hb hsl)
      | (go_at_call 49; refine (CO.out _ _ _ HSK.out (HT.out.below E6.out.d.bel HT.out.lt)).mono ?_; rintro e w7 ⟨rfl, hb⟩; have E7 := Lib.hid (E6.out.keep hb); have lf := E7.out.box.loadF; have sf := E7.out.d.res.storeF y0; clear hb)
      | (go_at_call 44; refine (C2.out _ D2.out).mono ?_; rintro e w3 ⟨rfl, d3⟩; have E3 := Lib.hid (Rde.new d3 y0); clear d3)
      | (go_at_call 44; refine (C1.out _ D1.out).mono ?_; rintro e w2 ⟨rfl, d2⟩; have D2 := Lib.hid d2; clear d2)
      | (go_at_call 45; refine E3.out.rest.mono ?_; rintro e w4 ⟨rfl, e4⟩; have E4 := Lib.hid e4; clear e4)
      | (go_at_call 46; refine (err_tot _ _ _ E4.out.d.rd).mono ?_; rintro e w4' ⟨rfl, rfl⟩))
    exact ret_bn Tryd.results27 rfl rfl (E7.out.fin y0).1 rfl (rdPost_of rfl HR.out (fun h => (HN.out h).elim) (E7.out.fin y0).2)
  · have HR := Lib.hid (HIN.out rfl ho)
    have HLEN := Lib.hid (ord_all.1 ho).1
    rw [ho] at CO
    clear HOR HIN HEL ho
    go_enter Tryd.func27, Tryd.ntmps27
    go_wp2_with (first
      | (go_at_call 43; refine (new_any _ _).mono ?_; rintro e w' ⟨rfl, rfl⟩)
      | (go_at_call 47; refine (CD.out _).mono ?_; rintro e w5 ⟨v0, c, rfl, hsl, hb⟩; have E5 := Lib.hid (E4.out.keep hb); have HSL := Lib.hid hsl.lies; clear hb hsl)
      | (go_at_call 48; refine (CK.out _ _ _ HSL.out (HT.out.below E5.out.d.bel HT.out.lt)).mono ?_; rintro e w6 ⟨v1, c1, rfl, hsl, hb, hg⟩; have E6 := Lib.hid (E5.out.keep hb); have HSK := Lib.hid hsl.lies; have HG := Lib.hid (fun g off e => Nat.ne_of_gt (Nat.lt_of_lt_of_le E5.out.box.lt (hg g off e))); clear hb hsl hg)
      | (go_at_call 49; refine (CO.out _ _ _ HSK.out (HT.out.below E6.out.d.bel HT.out.lt)).mono ?_; rintro e w7 ⟨rfl, hb⟩; have E7 := Lib.hid (E6.out.keep hb); have HS7 := Lib.hid (HSK.out.below hb); clear hb)
      | (go_at_call 44; refine (C2.out _ D2.out).mono ?_; rintro e w3 ⟨rfl, d3⟩; have E3 := Lib.hid (Rde.new d3 y0); clear d3)
      | (go_at_call 44; refine (C1.out _ D1.out).mono ?_; rintro e w2 ⟨rfl, d2⟩; have D2 := Lib.hid d2; clear d2)
      | (go_at_call 45; refine E3.out.rest.mono ?_; rintro e w4 ⟨rfl, e4⟩; have E4 := Lib.hid e4; clear e4)
      | (go_at_call 46; refine (err_tot _ _ _ E4.out.d.rd).mono ?_; rintro e w4' ⟨rfl, rfl⟩))
    have HSW : Hid (swE y0 K = if lsE K = 0 then (if K.length = 6 ∧ (lsB y0 K).sc = 0 then 3 else 0) else lsE K) := rfl
    obtain ⟨pb, hpb⟩ : ∃ pb, w3.heap.size = pb := ⟨_, rfl⟩
    rw [hpb] at HG E7 ⊢
    clear hpb E3 E4 E5 E6 HSK HSL D1 D2 C1 C2 CD CK CO hf
    go_loopw [13, 46] (fun _ i wr => ∃ (k : Nat) (y : Bn), k ≤ K.length ∧ i = .int .i64 k ∧ Rde w pb y (0, []) wr ∧ El_.At wr v1 K ∧ Aside (lsB y0 (K.take k) = y ∧ lsE K = lsE (K.drop k))) (fun _ i _ => K.length - (intOf i).toNat)
    case atStart => exact ⟨0, y0, Nat.zero_le _, rfl, E7.out, HS7.out, rfl, by rw [List.drop_zero]⟩
    case round =>
      rename_i wr
      obtain ⟨k, y, hk, rfl, he, hat, hy⟩ := hrel
      have HE := Lib.hid he
      have HA := Lib.hid hat
      have HY := Lib.hid hy.out
      clear he hat hy E7 HS7
      by_cases hlt : k < K.length
      · obtain ⟨b, off, rfl, -, q0, q1⟩ := HA.out k hlt
        have HLT := Lib.hid hlt
        have HW : Hid (wrap64 ((k : Int) + 1) = ((k + 1 : Nat) : Int)) := (IntWalk.wrap64_in _ (by have := HKL.out; omega)).trans (by omega)
        have hbp := HG.out b off rfl
        have hmem := HKM.out K[k] (List.getElem_mem hlt)
        have E1 := Lib.hid (HE.out.keep ((Below.refl _ _).alloc (Nat.le_refl _) (.cells #[.int .i64 K[k].id, .string K[k].s] 49)))
        have A1 := Lib.hid (HA.out.below ((Below.refl _ _).alloc (Nat.le_refl _) (.cells #[.int .i64 K[k].id, .string K[k].s] 49)))
        have CR := Lib.hid fun w h => bnReadElement_any y K[k] pb w h hmem.1 hmem.2
        unfold ElPost at CR
        have HD := Lib.hid (lsE_drop hlt)
        have HTk := Lib.hid (lsB_take (b := y0) hlt)
        rw [HY.out.1] at HTk
        rw [← HY.out.2] at HD
        have H2 : Hid (∀ w', But pb (wr.alloc (.cells #[.int .i64 K[k].id, .string K[k].s] 49)) w' → El_.At w' (some ⟨b, off, none⟩) K) := fun w' hw' => A1.out.block hw'.size fun b' off' e => by
          injection e with e; injection e with e1 e2
          subst e1
          exact hw'.block b (by obtain ⟨b2, off2, e3, hl, -⟩ := A1.out k hlt; injection e3 with e3; injection e3 with e4 e5; omega) hbp
        generalize elB y K[k] = y2 at *
        generalize elE K[k] = r at *
        generalize K[k] = x at *
        obtain ⟨xi, xs⟩ := x
        simp only at q0 q1 E1 CR H2
        clear hmem A1 HY HA HE HKM
        by_cases hr : r = 0
        · subst hr
          have HD' := Lib.hid (HD.out.trans (if_pos rfl))
          clear HD
          go_wp2_with (first
            | (go_at_call 50; refine (CR.out _ E1.out.box).mono ?_; rintro e w8 ⟨y3, rfl, hbx, hy3, hbt⟩; have E8 := Lib.hid (E1.out.put hbx hbt); have A8 := Lib.hid (H2.out _ hbt); have HY3 := Lib.hid (hy3 rfl); clear hbx hy3 hbt))
          go_roundw
          case rel => exact ⟨k + 1, y3, HLT.out, by rw [HW.out], E8.out, A8.out, by rw [HY3.out]; exact HTk.out, HD'.out⟩
          case measure => have := HLT.out; rw [HW.out]; simp only [intOf, Int.toNat_natCast]; omega
        · have hr' : (r != 0) = true := by simp [hr]
          have HQ : Hid (rdE s = r) := by
            have h1 := HD.out.trans (if_neg hr)
            show rdE s = r
            rw [HR.out, HSW.out, if_neg (by rw [h1]; exact hr), h1]
          have HN : Hid (rdE s = 0 → False) := fun h => hr (HQ.out.symm.trans h)
          clear HD hr
          go_wp2_with (first
            | (go_at_call 50; refine (CR.out _ E1.out.box).mono ?_; rintro e w8 ⟨y3, rfl, hbx, hy3, hbt⟩; have E8 := Lib.hid (E1.out.put hbx hbt); have lf := E8.out.box.loadF; have sf := E8.out.d.res.storeF y3; clear hbx hy3 hbt))
          exact ret_bn Tryd.results27 rfl rfl (E8.out.fin y3).1 rfl (rdPost_of rfl HQ.out (fun h => (HN.out h).elim) (E8.out.fin y3).2)
      · obtain rfl : k = K.length := by omega
        have HB : Hid (lsB y0 K = y) := by have := HY.out.1; rw [List.take_length] at this; exact this
        have HZ : Hid (lsE K = 0) := by have := HY.out.2; rw [List.drop_length] at this; exact this
        have HQ : Hid (rdE s = if K.length = 6 ∧ y.sc = 0 then 3 else 0) := by
          show rdE s = _
          rw [HR.out, HSW.out, if_pos HZ.out, HB.out]
        have HRY : Hid (y = rdB s) := HB.out.symm.trans HRB.out.symm
        have lf := HE.out.box.loadF
        have sf := HE.out.d.res.storeF y
        have ls := HE.out.box.loadS
        have CA := Lib.hid fun w => bnAnnounced_any y.sc y.sn w
        clear HB HZ HSW HRB HR HY HA HKM
        rcases HLEN.out with hn | hn
        · have h6 : ((K.length : Int) == 6) = false := by rw [hn]; rfl
          have HQ' : Hid (rdE s = 0) := HQ.out.trans (if_neg fun h => by omega)
          clear HQ HLEN hn CA
          go_wp2
          exact ret_bn Tryd.results27 rfl rfl (HE.out.fin y).1 rfl (rdPost_of rfl HQ'.out (fun _ => HRY.out) (HE.out.fin y).2)
        · have h6 : ((K.length : Int) == 6) = true := by rw [hn]; rfl
          by_cases hsc : y.sc = 0
          · have hq : (y.sc != 0) = false := by rw [hsc]; rfl
            have HQ' : Hid (rdE s = 3) := HQ.out.trans (if_pos ⟨hn, hsc⟩)
            have HN : Hid (rdE s = 0 → False) := fun h => by rw [HQ'.out] at h; exact absurd h (by decide)
            rw [hq] at CA
            clear HQ HLEN hn hsc
            go_wp2_with (go_at_call 38; refine (CA.out _).mono ?_; rintro e w8 ⟨rfl, hb⟩; have E8 := Lib.hid (HE.out.keep hb); have lf8 := E8.out.box.loadF; have sf8 := E8.out.d.res.storeF y; clear hb)
            exact ret_bn Tryd.results27 rfl rfl (E8.out.fin y).1 rfl (rdPost_of rfl HQ'.out (fun h => (HN.out h).elim) (E8.out.fin y).2)
          · have hq : (y.sc != 0) = true := by simp [hsc]
            have HQ' : Hid (rdE s = 0) := HQ.out.trans (if_neg fun h => hsc h.2)
            rw [hq] at CA
            clear HQ HLEN hn hsc
            go_wp2_with (go_at_call 38; refine (CA.out _).mono ?_; rintro e w8 ⟨rfl, hb⟩; have E8 := Lib.hid (HE.out.keep hb); have lf8 := E8.out.box.loadF; have sf8 := E8.out.d.res.storeF y; clear hb)
            exact ret_bn Tryd.results27 rfl rfl (E8.out.fin y).1 rfl (rdPost_of rfl HQ'.out (fun _ => HRY.out) (E8.out.fin y).2)

theorem bnRead_any (s : ByteArray) (w : World) (h4 : s.size ≤ 10006) (ht : KnTab w) :
    Calls Tryd.prog 27 #[.string s] w fun e w' => RdPost s w e w' := by
  by_cases h6 : s.size < 6
  · exact bnRead_short s w h6
  · exact bnRead_long s w h6 h4 ht

set_option maxRecDepth 100000 in
set_option maxHeartbeats 8000000 in
theorem bnDecode_any (s : ByteArray) (w : World) (h4 : s.size ≤ 10006) (ht : KnTab w) :
    Calls Tryd.prog 11 #[.string s] w fun e w' => e = .returned (.tuple #[Bn_.v (decB s), .int .i64 (decE s)]) ∧ Below w.heap.size w w' := by
  obtain ⟨w1, hw1⟩ : ∃ w1, w.alloc (.cells (Bn_.C zb) 31) = w1 := ⟨_, rfl⟩
  have hw1' : w.alloc (.cells #[.int .i64 0, .int .i64 0, .string ⟨#[]⟩, .int .i64 0, .int .i64 0, .int .i64 0, .int .i64 0, .bool false, .int .u64 0, .int .i64 0, .int .i64 0, .int .i64 0, .int .i64 0, .int .i64 0, .int .i64 0, .int .i64 0, .int .i64 0, .int .i64 0, .int .i64 0, .int .i64 0, .int .i64 0, .int .i64 0, .int .i64 0, .int .i64 0, .int .i64 0, .int .i64 0, .int .i64 0] 31) = w1 := hw1
  have S1 := Lib.hid (show Stb w zb w1 from hw1 ▸ Stb.new w zb)
  have CR := Lib.hid fun w ht => bnRead_any s w h4 ht
  unfold RdPost at CR
  have HT : Hid (KnTab w1) := ht.keep (hw1 ▸ (Below.refl _ _).alloc (Nat.le_refl _) _)
  have HZ : ∀ (wi : World), Bn_.Box wi w.heap.size zb → (Bn_.StoreF ⟨w.heap.size, 0, none⟩ (.agg #[.int .i64 0, .int .i64 0, .string ⟨#[]⟩, .int .i64 0, .int .i64 0, .int .i64 0, .int .i64 0, .bool false, .int .u64 0, .int .i64 0, .int .i64 0, .int .i64 0, .int .i64 0, .int .i64 0, .int .i64 0, .int .i64 0, .int .i64 0, .int .i64 0, .int .i64 0, .int .i64 0, .int .i64 0, .int .i64 0, .int .i64 0, .int .i64 0, .int .i64 0, .int .i64 0, .int .i64 0])).run Tryd.prog wi = .ok () (wi.setRow w.heap.size (Bn_.C zb)) := fun wi h => h.storeF zb
  have HZ := Lib.hid HZ
  by_cases hr : rdE s = 0
  · have CC := Lib.hid fun w => bnCheck_any (rdB s) w (rdB_tm hr)
    have HE : Hid (decE s = chk (rdB s)) := if_pos hr
    have HB0 : Hid (chk (rdB s) = 0 → decB s = rdB s) := fun h => if_pos (HE.out.trans h)
    have HB1 : Hid (¬ chk (rdB s) = 0 → decB s = zb) := fun h => if_neg (by rw [HE.out]; exact h)
    rw [hr] at CR
    generalize rdB s = y at *
    generalize chk y = r at *
    clear hr ht h4
    by_cases h0 : r = 0
    · subst h0
      have HB := Lib.hid (HB0.out rfl)
      clear HB0 HB1
      go_enter Tryd.func11, Tryd.ntmps11
      go_wp2_with (first
        | (go_at_call 27; refine (CR.out _ HT.out).mono ?_; rintro e w2 ⟨y2, rfl, hy2, hb⟩; have hyy := (hy2 rfl).symm; subst hyy; have S2 := Lib.hid (S1.out.keep hb); clear hb hy2)
        | (go_at_call 10; refine (CC.out _).mono ?_; rintro e w3 ⟨rfl, hb⟩; have S3 := Lib.hid ((S2.out.keep ((Below.refl _ _).alloc (Nat.le_refl _) _)).keep hb); have lf := ((Bn_.Box.new w2 y).below hb (by simp)).loadF; have sf := S3.out.box.storeF y; clear hb))
      exact ret_bn Tryd.results11 rfl rfl (S3.out.box.setRow y) rfl ⟨by rw [HE.out, HB.out]; rfl, below_setRow S3.out.bel (Nat.le_refl _)⟩
    · have HB := Lib.hid (HB1.out h0)
      have h0' : (r != 0) = true := by simp [h0]
      clear HB0 HB1 h0
      go_enter Tryd.func11, Tryd.ntmps11
      go_wp2_with (first
        | (go_at_call 27; refine (CR.out _ HT.out).mono ?_; rintro e w2 ⟨y2, rfl, hy2, hb⟩; have hyy := (hy2 rfl).symm; subst hyy; have S2 := Lib.hid (S1.out.keep hb); clear hb hy2)
        | (go_at_call 10; refine (CC.out _).mono ?_; rintro e w3 ⟨rfl, hb⟩; have S3 := Lib.hid ((S2.out.keep ((Below.refl _ _).alloc (Nat.le_refl _) _)).keep hb); have sf := HZ.out _ S3.out.box; clear hb))
      exact ret_bn Tryd.results11 rfl rfl (S3.out.box.setRow zb) rfl ⟨by rw [HE.out, HB.out]; rfl, below_setRow S3.out.bel (Nat.le_refl _)⟩
  · have HE : Hid (decE s = rdE s) := if_neg hr
    have HB : Hid (decB s = zb) := if_neg (by rw [HE.out]; exact hr)
    have hr' : (rdE s != 0) = true := by simp [hr]
    generalize rdE s = r at *
    clear hr ht h4
    go_enter Tryd.func11, Tryd.ntmps11
    go_wp2_with (first
      | (go_at_call 27; refine (CR.out _ HT.out).mono ?_; rintro e w2 ⟨y2, rfl, -, hb⟩; have S2 := Lib.hid ((S1.out.keep hb).keep ((Below.refl _ _).alloc (Nat.le_refl _) (.cells (Bn_.C y2) 31))); have sf := HZ.out _ S2.out.box; clear hb))
    exact ret_bn Tryd.results11 rfl rfl (S2.out.box.setRow zb) rfl ⟨by rw [HE.out, HB.out]; rfl, below_setRow S2.out.bel (Nat.le_refl _)⟩
end Go.Proofs.YtojiffpmmgjpjaaDoor
