/- What mix answers: a state behind all rounds, the package's table holding the chapter's numbers k. Entries as bytes. No walk. -/
import Derived.Test.YtbednfacipphhaaDoorAuaz
import Derived.Test.YtbednfacipphhaaDoorAuan
namespace Go.Proofs.YtbednfacipphhaaDoor
open Go.RowKit
set_option linter.unusedVariables false

/-- the package's table holds the numbers k -/
structure Tab (w : World) : Prop where
  pos : 0 < w.heap.size
  cell : ∀ i, i < 64 → w.cell? ⟨0, i, none⟩ = some (.int .u32 (keyL.getD i 0))
set_option maxRecDepth 100000 in
theorem Tab.below {w w' : World} (h : Tab w) (hb : Below w.heap.size w w') : Tab w' :=
  ⟨Nat.lt_of_lt_of_le h.pos hb.size, fun i hi => (hb.cell (p := ⟨0, i, none⟩) h.pos).trans (h.cell i hi)⟩
set_option maxRecDepth 100000 in
theorem Tab.drewN {w : World} (h : Tab w) (n : Nat) : Tab (w.drewN n) := ⟨h.pos, h.cell⟩

/-- what stays while mix goes on -/
structure MK (N : Nat) (s : St) (l : List Int) (w wr : World) : Prop where
  low : Below N w wr
  size : N + 3 ≤ wr.heap.size
  st : wr.heap[N]? = some (.cells s.cells 103 (0, 0))
  row : wr.heap[N + 1]? = some (.cells (uv l).toArray 138 (0, 0))
  res : ∃ cs : Array Value, cs.size = 8 ∧ wr.heap[N + 1 + 1]? = some (.cells cs 103 (0, 0))
  tab : Tab wr
set_option maxRecDepth 100000 in
theorem MK.drewN {N : Nat} {s : St} {l : List Int} {w wr : World} (h : MK N s l w wr) (n : Nat) : MK N s l w (wr.drewN n) := ⟨below_drewN h.low n, h.size, h.st, h.row, h.res, h.tab.drewN n⟩

set_option maxRecDepth 100000 in
set_option maxHeartbeats 1000000 in
theorem mix_any (s : St) (b : List Int) (w : World) (hs : StU s) (hb : Byt b) (htab : Tab w) :
    Calls Tryd.prog 107 #[.agg s.cells, .agg (uv (sch b 64)).toArray] w fun e w' => e = .returned (.agg (rnds b s 64).cells) ∧ Below w.heap.size w w' := by
  have HLn : Hid ((sch b 64).length = 64) := sch_length b 64
  have HLu : Hid (U32s (sch b 64)) := sch_u b 64 hb
  have HR : Hid (∀ j, rnds b s (j + 1) = rnd (keyL.getD j 0) ((sch b 64).getD j 0) (rnds b s j)) := fun j => rfl
  go_enter Tryd.func107, Tryd.ntmps107
  generalize sch b 64 = l at HLn HLu HR ⊢
  go_wp2
  obtain ⟨N, hN⟩ : ∃ N, N = w.heap.size := ⟨_, rfl⟩
  have hkept : MK N s l w (((w.alloc (.cells s.cells 103)).alloc (.cells (uv l).toArray 138)).alloc (.cells #[.int .u32 0, .int .u32 0, .int .u32 0, .int .u32 0, .int .u32 0, .int .u32 0, .int .u32 0, .int .u32 0] 103)) := by
    subst hN
    have hlow : Below w.heap.size w (((w.alloc (.cells s.cells 103)).alloc (.cells (uv l).toArray 138)).alloc (.cells #[.int .u32 0, .int .u32 0, .int .u32 0, .int .u32 0, .int .u32 0, .int .u32 0, .int .u32 0, .int .u32 0] 103)) := (((Below.refl _ _).alloc (Nat.le_refl _) _).alloc (by simp) _).alloc (by simp; omega) _
    refine ⟨hlow, by simp, ?_, ?_, ⟨#[.int .u32 0, .int .u32 0, .int .u32 0, .int .u32 0, .int .u32 0, .int .u32 0, .int .u32 0, .int .u32 0], rfl, ?_⟩, htab.below hlow⟩
    · rw [heap_alloc_old _ _ (by simp; omega), heap_alloc_old _ _ (by simp), heap_alloc_new]
    · rw [heap_alloc_old _ _ (by simp), show w.heap.size + 1 = (w.alloc (.cells s.cells 103)).heap.size from by simp, heap_alloc_new]
    · rw [show w.heap.size + 1 + 1 = ((w.alloc (.cells s.cells 103)).alloc (.cells (uv l).toArray 138)).heap.size from by simp, heap_alloc_new]
  generalize ((w.alloc (.cells s.cells 103)).alloc (.cells (uv l).toArray 138)).alloc (.cells #[.int .u32 0, .int .u32 0, .int .u32 0, .int .u32 0, .int .u32 0, .int .u32 0, .int .u32 0, .int .u32 0] 103) = W0 at hkept ⊢
  rw [← hN]
  have HN : Hid (N = w.heap.size) := hN
  clear hN htab
  obtain ⟨c0, c1, c2, c3, c4, c5, c6, c7⟩ := st_cell hkept.st
  go_quiet (fail)
  go_wp2
  replace hkept := hkept.drewN nq
  clear c0 c1 c2 c3 c4 c5 c6 c7
  generalize W0.drewN nq = wq at hkept ⊢
  go_loopw [5, 6, 7, 8, 9, 10, 11, 12, 32] (fun va vb vc vd ve vf vg vh i wr => ∃ (j : Nat) (t : St), j ≤ 64 ∧ i = .int .i64 j ∧ rnds b s j = t ∧ va = .int .u32 t.a ∧ vb = .int .u32 t.b ∧ vc = .int .u32 t.c ∧ vd = .int .u32 t.d ∧ ve = .int .u32 t.e ∧ vf = .int .u32 t.f ∧ vg = .int .u32 t.g ∧ vh = .int .u32 t.h ∧ MK N s l w wr) (fun _ _ _ _ _ _ _ _ i _ => 64 - (intOf i).toNat)
  case atStart => exact ⟨0, s, Nat.zero_le _, rfl, rfl, rfl, rfl, rfl, rfl, rfl, rfl, rfl, rfl, hkept⟩
  case round =>
    clear hkept
    obtain ⟨j, t, hj, rfl, hrt, rfl, rfl, rfl, rfl, rfl, rfl, rfl, rfl, hkp⟩ := hrel
    have htu : StU t := by rw [← hrt]; exact rnds_u b hs j
    by_cases hjl : j < 64
    ·
      have HRj : Hid (rnds b s (j + 1) = rnd (keyL.getD j 0) (l.getD j 0) t) := by show _ = _; rw [← hrt]; exact HR.out j
      clear hrt
      have hrow := uv_cell hkp.row j (by rw [HLn.out]; exact hjl)
      have htb := hkp.tab.cell j hjl
      have hru := HLu.out.getD j
      have hku := keyL_u.getD j
      obtain ⟨a, b', c, d, e, f, g', hh⟩ := t
      simp only []
      generalize l.getD j 0 = wj at hrow hru HRj
      generalize keyL.getD j 0 = kj at hku HRj htb
      have q1 := xr_eq (turn_u 6 htu.e) (turn_u 11 htu.e)
      have q2 := xr_eq (xr_u (turn_u 6 htu.e) (turn_u 11 htu.e)) (turn_u 25 htu.e)
      have a0 : bits .xor .u32 (if IntKind.u32.signed = true then -1 else IntKind.u32.max) e = nt e := not_eq htu.e
      have a1 := an_eq htu.e htu.f
      have a2 := an_eq (nt_u htu.e) htu.g
      have a3 := xr_eq (an_u htu.e htu.f) (an_u (nt_u htu.e) htu.g)
      have s1 : IntKind.u32.wrap (hh + xr (xr (turnV e 6) (turnV e 11)) (turnV e 25)) = ad hh (thr e 6 11 25) := IntKind.wrap_u32' _
      have s2 : IntKind.u32.wrap (ad hh (thr e 6 11 25) + xr (an e f) (an (nt e) g')) = ad (ad hh (thr e 6 11 25)) (xr (an e f) (an (nt e) g')) := IntKind.wrap_u32' _
      have s3 : IntKind.u32.wrap (ad (ad hh (thr e 6 11 25)) (xr (an e f) (an (nt e) g')) + kj) = ad (ad (ad hh (thr e 6 11 25)) (xr (an e f) (an (nt e) g'))) kj := IntKind.wrap_u32' _
      have s4 : IntKind.u32.wrap (ad (ad (ad hh (thr e 6 11 25)) (xr (an e f) (an (nt e) g'))) kj + wj) = ad (ad (ad (ad hh (thr e 6 11 25)) (xr (an e f) (an (nt e) g'))) kj) wj := IntKind.wrap_u32' _
      have hjk : (j : Int) < 64 := by omega
      have hj0 : (0 : Int) ≤ (j : Int) := by omega
      go_wp2
      go_quiet ((go_at_call 109; exact Calls.quiet_of_same (turn_q _ _ _ htu.e (by decide) (by decide))))
      replace hkp := hkp.drewN nq
      clear q1 q2 a0 a1 a2 a3 s1 s2 s3 s4 hrow htb
      generalize wr.drewN nq = wq at hkp ⊢
      have HT : Hid (ad (ad (ad (ad hh (thr e 6 11 25)) (xr (an e f) (an (nt e) g'))) kj) wj = rT kj wj ⟨a, b', c, d, e, f, g', hh⟩) := rfl
      have hTu : U32 (ad (ad (ad (ad hh (thr e 6 11 25)) (xr (an e f) (an (nt e) g'))) kj) wj) := ad_u _ _
      generalize ad (ad (ad (ad hh (thr e 6 11 25)) (xr (an e f) (an (nt e) g'))) kj) wj = T at HT hTu ⊢
      have p1 := an_eq htu.a htu.b
      have p2 := an_eq htu.a htu.c
      have p3 := xr_eq (an_u htu.a htu.b) (an_u htu.a htu.c)
      have p4 := an_eq htu.b htu.c
      have p5 := xr_eq (xr_u (an_u htu.a htu.b) (an_u htu.a htu.c)) (an_u htu.b htu.c)
      have q1 := xr_eq (turn_u 2 htu.a) (turn_u 13 htu.a)
      have q2 := xr_eq (xr_u (turn_u 2 htu.a) (turn_u 13 htu.a)) (turn_u 22 htu.a)
      go_wp2_with fail
      refine (turn_any _ _ _ htu.a.1 htu.a.2 (by decide) (by decide)).mono ?_
      rintro e1 w1 ⟨rfl, rfl⟩
      go_wp2_with fail
      refine (turn_any _ _ _ htu.a.1 htu.a.2 (by decide) (by decide)).mono ?_
      rintro e1 w1 ⟨rfl, rfl⟩
      go_wp2_with fail
      refine (turn_any _ _ _ htu.a.1 htu.a.2 (by decide) (by decide)).mono ?_
      rintro e1 w1 ⟨rfl, rfl⟩
      go_wp2
      go_roundw
      case rel => exact ⟨j + 1, rnd kj wj ⟨a, b', c, d, e, f, g', hh⟩, by omega, by go_num, HRj.out, by unfold rnd; rw [← HT.out]; rfl, rfl, rfl, rfl, by unfold rnd; rw [← HT.out]; rfl, rfl, rfl, rfl, hkp⟩
      case measure => simp [intOf]; omega
    · have HJ : Hid (j = 64) := by show j = 64; omega
      have HF : Bx (Ending.returned (.agg t.cells) = .returned (.agg (rnds b s 64).cells)) := ⟨by rw [← hrt, HJ.out]⟩
      clear hrt
      obtain ⟨cs, hcs, hres⟩ := hkp.res
      have ht := there_row hres
      rw [hcs] at ht
      have hbl : Below w.heap.size w wr := by rw [← HN.out]; exact hkp.low
      have hNs : w.heap.size ≤ N + 1 + 1 := by have := HN.out; omega
      have HST : Bx ((wr.setCells (N + 1 + 1) 0 t.cells.toList).heap[N + 1 + 1]? = some (.cells t.cells 103 (0, 0))) := ⟨heap_stored (vs := t.cells) hres (by rw [hcs]; rfl)⟩
      have HBS : Bx (Below w.heap.size w (wr.setCells (N + 1 + 1) 0 t.cells.toList)) := ⟨below_setCells hbl (N + 1 + 1) hNs t.cells.toList 0⟩
      have HTH : Bx (wr.there (N + 1 + 1) 0 8) := ⟨ht⟩
      clear hkp hres ht hbl hNs hcs
      go_wp2_with (refine wpList_store_mid rfl 103 (.tmp 4) (.tmp 103) rfl (N + 1 + 1) 0 t.cells rfl rfl HTH.out (cells_info _) (cells_one _) ?_)
      exact bodyPost_ret (v := .agg t.cells) (results_cell_row rfl _ _ (N + 1 + 1) 103 t.cells (0, 0) _ rfl HST.out Tryd.underlying103 rfl (cells_info _)) rfl ⟨HF.out, HBS.out⟩
end Go.Proofs.YtbednfacipphhaaDoor
namespace Go.Proofs.YtbednfacipphhaaDoor
open Go.RowKit
set_option linter.unusedVariables false

/-- an entry: the job, the time, two sums, the kind, the tries, the order -/
structure En where
  j : Int
  t : Int
  H : List Int
  S : List Int
  k : Int
  r : Int
  o : List Int
def dg0 : List Int := List.replicate 32 0
def en0 : En := ⟨0, 0, dg0, dg0, 0, 0, []⟩
/-- a number of the order is from 0 to 63 and did not stand there -/
def okO (o : List Int) (i : Nat) : Bool := decide (0 ≤ o.getD i 0) && decide (o.getD i 0 ≤ 63) && !(o.take i).contains (o.getD i 0)
def ordO (o : List Int) : Bool := (List.range o.length).all (okO o)
/-- its numbers can be -/
def numO (e : En) : Bool := decide (0 ≤ e.j ∧ e.j ≤ 63 ∧ 0 ≤ e.t ∧ e.t ≤ 1099511627776 ∧ 1 ≤ e.k ∧ e.k ≤ 4 ∧ 0 ≤ e.r ∧ e.r ≤ 1073741824)
/-- an entry can be -/
def canN (e : En) : Bool := numO e && (decide (e.k = 1) || e.o.isEmpty) && ordO e.o
def chkN (e : En) : Int := if canN e = true then 0 else 2
set_option maxRecDepth 100000 in
theorem numO_iff (e : En) : numO e = true ↔ 0 ≤ e.j ∧ e.j ≤ 63 ∧ 0 ≤ e.t ∧ e.t ≤ 1099511627776 ∧ 1 ≤ e.k ∧ e.k ≤ 4 ∧ 0 ≤ e.r ∧ e.r ≤ 1073741824 := by unfold numO; simp
set_option maxRecDepth 100000 in
theorem ordO_iff {o : List Int} : ordO o = true ↔ ∀ i, i < o.length → 0 ≤ o.getD i 0 ∧ o.getD i 0 ≤ 63 ∧ ¬ o.getD i 0 ∈ o.take i := by
  unfold ordO okO
  rw [List.all_eq_true]
  constructor
  · intro h i hi
    have := h i (List.mem_range.2 hi)
    simp only [Bool.and_eq_true, decide_eq_true_eq, Bool.not_eq_true', List.contains_eq_mem, decide_eq_false_iff_not] at this
    exact ⟨this.1.1, this.1.2, this.2⟩
  · intro h i hi
    obtain ⟨h1, h2, h3⟩ := h i (List.mem_range.1 hi)
    simp only [Bool.and_eq_true, decide_eq_true_eq, Bool.not_eq_true', List.contains_eq_mem, decide_eq_false_iff_not]
    exact ⟨⟨h1, h2⟩, h3⟩
set_option maxRecDepth 100000 in
theorem canN_iff (e : En) : canN e = true ↔ numO e = true ∧ (e.k = 1 ∨ e.o = []) ∧ ordO e.o = true := by
  unfold canN
  simp only [Bool.and_eq_true, Bool.or_eq_true, decide_eq_true_eq, List.isEmpty_iff]
  exact ⟨fun ⟨⟨a, b⟩, c⟩ => ⟨a, b, c⟩, fun ⟨a, b, c⟩ => ⟨⟨a, b⟩, c⟩⟩
set_option maxRecDepth 100000 in
theorem ordO_in {o : List Int} (h : ordO o = true) : ∀ x ∈ o, 0 ≤ x ∧ x ≤ 63 := fun x hx => by
  obtain ⟨i, hi, e⟩ := List.mem_iff_getElem.1 hx
  have := ordO_iff.1 h i hi
  rw [List.getD_eq_getElem?_getD, List.getElem?_eq_getElem hi, Option.getD_some, e] at this
  exact ⟨this.1, this.2.1⟩
set_option maxRecDepth 100000 in
theorem ordO_nodup : ∀ {o : List Int}, ordO o = true → o.Nodup := fun {o} h => by
  rw [List.nodup_iff_pairwise_ne, List.pairwise_iff_getElem]
  intro i j hi hj hij e
  have := (ordO_iff.1 h j hj).2.2
  rw [List.getD_eq_getElem?_getD, List.getElem?_eq_getElem hj, Option.getD_some] at this
  apply this
  rw [← e]
  have h2 : (o.take j)[i]? = some o[i] := by rw [List.getElem?_take, if_pos hij, List.getElem?_eq_getElem hi]
  exact List.mem_of_getElem? h2
set_option maxRecDepth 100000 in
/-- at most 64 -/
theorem nodup_len : ∀ (m : Nat) (o : List Int), o.Nodup → (∀ x ∈ o, 0 ≤ x ∧ x < (m : Int)) → o.length ≤ m
  | 0, o, _, h => by
    cases o with
    | nil => exact Nat.le_refl _
    | cons x t => have := h x List.mem_cons_self; omega
  | m + 1, o, hn, h => by
    by_cases hm : (m : Int) ∈ o
    · have h1 := nodup_len m (o.erase (m : Int)) (hn.erase _) (fun x hx => by
        have h2 := (List.Nodup.mem_erase_iff hn).1 hx
        have := h x h2.2
        have := h2.1
        omega)
      rw [List.length_erase_of_mem hm] at h1
      omega
    · have := nodup_len m o hn (fun x hx => by
        have h1 := h x hx
        have : x ≠ (m : Int) := fun e => hm (by rw [← e]; exact hx)
        omega)
      omega
set_option maxRecDepth 100000 in
theorem ordO_len {o : List Int} (h : ordO o = true) : o.length ≤ 64 := nodup_len 64 o (ordO_nodup h) (fun x hx => by have := ordO_in h x hx; omega)
/-- sums of 32 bytes -/
def Dig (l : List Int) : Prop := l.length = 32 ∧ Byt l
/-- an entry's text -/
def enL (e : En) : List Int := varL e.j ++ (varL e.t ++ (e.H ++ (e.S ++ ([e.k] ++ (varL e.r ++ ([(e.o.length : Int)] ++ e.o))))))
set_option maxRecDepth 100000 in
theorem enL_byt {e : En} (h : canN e = true) (hH : Dig e.H) (hS : Dig e.S) : Byt (enL e) := by
  obtain ⟨h1, _, h3⟩ := (canN_iff e).1 h
  have hn := (numO_iff e).1 h1
  have hl := ordO_len h3
  unfold enL
  refine (varL_byt _ (by omega) (by omega)).append ((varL_byt _ (by omega) (by omega)).append (hH.2.append (hS.2.append ((Byt.cons (by omega) Byt.nil).append ((varL_byt _ (by omega) (by omega)).append ((Byt.cons (by omega) Byt.nil).append (fun x hx => ?_)))))))
  have := ordO_in h3 x hx
  omega
set_option maxRecDepth 100000 in
theorem enL_len {e : En} (h : canN e = true) (hH : Dig e.H) (hS : Dig e.S) : (enL e).length ≤ 160 := by
  obtain ⟨_, _, h3⟩ := (canN_iff e).1 h
  have hl := ordO_len h3
  have v1 := (varL_length e.j).2
  have v2 := (varL_length e.t).2
  have v3 := (varL_length e.r).2
  unfold enL
  simp only [List.length_append, List.length_singleton, hH.1, hS.1]
  omega
/-- what bytes say, piece by piece; nothing, if a number ahead is none or something is missing -/
def rdN (b : List Int) : Option En :=
  if (rd b 0 0).2.2 ≠ 0 then none else
  let b1 := b.drop (rd b 0 0).2.1.toNat
  if (rd b1 0 0).2.2 ≠ 0 then none else
  let b2 := b1.drop (rd b1 0 0).2.1.toNat
  if b2.length < 65 then none else
  let b3 := b2.drop 65
  if (rd b3 0 0).2.2 ≠ 0 then none else
  let b4 := b3.drop (rd b3 0 0).2.1.toNat
  if b4.length < 1 then none else
  some ⟨(rd b 0 0).1, (rd b1 0 0).1, b2.take 32, (b2.drop 32).take 32, b2.getD 64 0, (rd b3 0 0).1, b4.drop 1⟩
/-- which entry bytes say -/
def decN (b : List Int) : En × Int := match rdN b with | some e => if canN e = true ∧ enL e = b then (e, 0) else (en0, 4) | none => (en0, 4)
set_option maxRecDepth 100000 in
theorem drop_len (a t : List Int) : (a ++ t).drop ((a.length : Int)).toNat = t := by rw [Int.toNat_natCast, List.drop_left]
set_option maxRecDepth 100000 in
theorem take_app (a t : List Int) (n : Nat) (h : a.length = n) : (a ++ t).take n = a := by rw [← h, List.take_left]
set_option maxRecDepth 100000 in
theorem drop_app (a t : List Int) (n : Nat) (h : a.length = n) : (a ++ t).drop n = t := by rw [← h, List.drop_left]
set_option maxRecDepth 100000 in
/-- there -/
theorem rdN_enL {e : En} (h : canN e = true) (hH : Dig e.H) (hS : Dig e.S) : rdN (enL e) = some e := by
  obtain ⟨h1, _, h3⟩ := (canN_iff e).1 h
  have hn := (numO_iff e).1 h1
  obtain ⟨j, t, H, S, k, r, o⟩ := e
  simp only at hn hH hS h3
  unfold enL
  simp only
  have e1 := rd_var j (by omega) (by omega) (varL t ++ (H ++ (S ++ ([k] ++ (varL r ++ ([(o.length : Int)] ++ o))))))
  have e2 := rd_var t (by omega) (by omega) (H ++ (S ++ ([k] ++ (varL r ++ ([(o.length : Int)] ++ o)))))
  have e3 := rd_var r (by omega) (by omega) ([(o.length : Int)] ++ o)
  have d1 := drop_len (varL j) (varL t ++ (H ++ (S ++ ([k] ++ (varL r ++ ([(o.length : Int)] ++ o))))))
  have d2 := drop_len (varL t) (H ++ (S ++ ([k] ++ (varL r ++ ([(o.length : Int)] ++ o)))))
  have d3 := drop_len (varL r) ([(o.length : Int)] ++ o)
  have g65 : (H ++ (S ++ ([k] ++ (varL r ++ ([(o.length : Int)] ++ o))))).drop 65 = varL r ++ ([(o.length : Int)] ++ o) := by
    rw [show (65 : Nat) = 32 + (32 + 1) from rfl, ← List.drop_drop, drop_app _ _ 32 hH.1, ← List.drop_drop, drop_app _ _ 32 hS.1]
    rfl
  have gl : ¬ (H ++ (S ++ ([k] ++ (varL r ++ ([(o.length : Int)] ++ o))))).length < 65 := by
    simp only [List.length_append, List.length_singleton, hH.1, hS.1]; omega
  have gH : (H ++ (S ++ ([k] ++ (varL r ++ ([(o.length : Int)] ++ o))))).take 32 = H := take_app _ _ 32 hH.1
  have gS : ((H ++ (S ++ ([k] ++ (varL r ++ ([(o.length : Int)] ++ o))))).drop 32).take 32 = S := by rw [drop_app _ _ 32 hH.1, take_app _ _ 32 hS.1]
  have gk : (H ++ (S ++ ([k] ++ (varL r ++ ([(o.length : Int)] ++ o))))).getD 64 0 = k := by
    rw [List.getD_eq_getElem?_getD, List.getElem?_append_right (by rw [hH.1]; omega), hH.1, List.getElem?_append_right (by rw [hS.1]; omega), hS.1]; rfl
  have g4 : ¬ ([(o.length : Int)] ++ o).length < 1 := by simp
  unfold rdN
  simp only [e1, e2, e3, d1, d2, d3, g65, gl, gH, gS, gk, g4, if_false, ne_eq, not_true_eq_false]
  rfl
set_option maxRecDepth 100000 in
/-- there and back -/
theorem decN_enL {e : En} (h : canN e = true) (hH : Dig e.H) (hS : Dig e.S) : decN (enL e) = (e, 0) := by
  unfold decN; rw [rdN_enL h hH hS]
  show (if canN e = true ∧ enL e = enL e then (e, 0) else (en0, 4)) = (e, 0)
  rw [if_pos ⟨h, rfl⟩]
set_option maxRecDepth 100000 in
/-- and back -/
theorem decN_some {b : List Int} {e : En} (h : rdN b = some e) : decN b = if canN e = true ∧ enL e = b then (e, 0) else (en0, 4) := by unfold decN; rw [h]
set_option maxRecDepth 100000 in
theorem decN_none {b : List Int} (h : rdN b = none) : decN b = (en0, 4) := by unfold decN; rw [h]
set_option maxRecDepth 100000 in
theorem decN_back {b : List Int} (h : (decN b).2 = 0) : canN (decN b).1 = true ∧ enL (decN b).1 = b ∧ rdN b = some (decN b).1 := by
  cases he : rdN b with
  | none => rw [decN_none he] at h; cases h
  | some e =>
    by_cases hc : canN e = true ∧ enL e = b
    · rw [decN_some he, if_pos hc]; exact ⟨hc.1, hc.2, rfl⟩
    · rw [decN_some he, if_neg hc] at h; cases h
set_option maxRecDepth 100000 in
theorem decN_err (b : List Int) : (decN b).2 = 0 ∨ decN b = (en0, 4) := by
  unfold decN
  split
  · split
    · exact .inl rfl
    · exact .inr rfl
  · exact .inr rfl
set_option maxRecDepth 100000 in
/-- what is read has sums of 32 bytes -/
theorem rdN_dig {b : List Int} (hb : Byt b) {e : En} (h : rdN b = some e) : Dig e.H ∧ Dig e.S := by
  unfold rdN at h
  simp only at h
  split at h
  · cases h
  split at h
  · cases h
  split at h
  · cases h
  rename_i hl
  split at h
  · cases h
  split at h
  · cases h
  cases h
  have hb2 : ∀ c, c ∈ (b.drop (rd b 0 0).2.1.toNat).drop (rd (b.drop (rd b 0 0).2.1.toNat) 0 0).2.1.toNat → 0 ≤ c ∧ c ≤ 255 := fun c hc => hb c (List.mem_of_mem_drop (List.mem_of_mem_drop hc))
  generalize (b.drop (rd b 0 0).2.1.toNat).drop (rd (b.drop (rd b 0 0).2.1.toNat) 0 0).2.1.toNat = b2 at hl hb2
  refine ⟨⟨by show (b2.take 32).length = 32; rw [List.length_take]; omega, fun c hc => hb2 c (List.mem_of_mem_take hc)⟩, ⟨by show ((b2.drop 32).take 32).length = 32; rw [List.length_take, List.length_drop]; omega, fun c hc => hb2 c (List.mem_of_mem_drop (List.mem_of_mem_take hc))⟩⟩
end Go.Proofs.YtbednfacipphhaaDoor
