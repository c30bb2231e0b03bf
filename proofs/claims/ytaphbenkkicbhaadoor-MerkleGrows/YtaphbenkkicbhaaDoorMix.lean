/- What mix answers: a state behind all rounds, the package's table holding the chapter's numbers k. -/
import Derived.Test.YtaphbenkkicbhaaDoorSched
namespace Go.Proofs.YtaphbenkkicbhaaDoor
open Go.RowKit
set_option linter.unusedVariables false

/-- the package's table holds the numbers k -/
structure Tab (w : World) : Prop where
  pos : 0 < w.heap.size
  cell : ∀ i, i < 64 → w.cell? ⟨0, i, none⟩ = some (.int .u32 (keyL.getD i 0))
theorem Tab.below {w w' : World} (h : Tab w) (hb : Below w.heap.size w w') : Tab w' :=
  ⟨Nat.lt_of_lt_of_le h.pos hb.size, fun i hi => (hb.cell (p := ⟨0, i, none⟩) h.pos).trans (h.cell i hi)⟩
theorem Tab.drewN {w : World} (h : Tab w) (n : Nat) : Tab (w.drewN n) := ⟨h.pos, h.cell⟩

/-- what stays while mix goes on -/
structure MK (N : Nat) (s : St) (l : List Int) (w wr : World) : Prop where
  low : Below N w wr
  size : N + 3 ≤ wr.heap.size
  st : wr.heap[N]? = some (.cells s.cells 68 (0, 0))
  row : wr.heap[N + 1]? = some (.cells (uv l).toArray 86 (0, 0))
  res : ∃ cs : Array Value, cs.size = 8 ∧ wr.heap[N + 1 + 1]? = some (.cells cs 68 (0, 0))
  tab : Tab wr
theorem MK.drewN {N : Nat} {s : St} {l : List Int} {w wr : World} (h : MK N s l w wr) (n : Nat) : MK N s l w (wr.drewN n) := ⟨below_drewN h.low n, h.size, h.st, h.row, h.res, h.tab.drewN n⟩

set_option maxRecDepth 100000 in
set_option maxHeartbeats 1000000 in
theorem mix_any (s : St) (b : List Int) (w : World) (hs : StU s) (hb : Byt b) (htab : Tab w) :
    Calls Tryd.prog 62 #[.agg s.cells, .agg (uv (sch b 64)).toArray] w fun e w' => e = .returned (.agg (rnds b s 64).cells) ∧ Below w.heap.size w w' := by
  have HLn : Hid ((sch b 64).length = 64) := sch_length b 64
  have HLu : Hid (U32s (sch b 64)) := sch_u b 64 hb
  have HR : Hid (∀ j, rnds b s (j + 1) = rnd (keyL.getD j 0) ((sch b 64).getD j 0) (rnds b s j)) := fun j => rfl
  go_enter Tryd.func62, Tryd.ntmps62
  generalize sch b 64 = l at HLn HLu HR ⊢
  go_wp2
  obtain ⟨N, hN⟩ : ∃ N, N = w.heap.size := ⟨_, rfl⟩
  have hkept : MK N s l w (((w.alloc (.cells s.cells 68)).alloc (.cells (uv l).toArray 86)).alloc (.cells #[.int .u32 0, .int .u32 0, .int .u32 0, .int .u32 0, .int .u32 0, .int .u32 0, .int .u32 0, .int .u32 0] 68)) := by
    subst hN
    have hlow : Below w.heap.size w (((w.alloc (.cells s.cells 68)).alloc (.cells (uv l).toArray 86)).alloc (.cells #[.int .u32 0, .int .u32 0, .int .u32 0, .int .u32 0, .int .u32 0, .int .u32 0, .int .u32 0, .int .u32 0] 68)) := (((Below.refl _ _).alloc (Nat.le_refl _) _).alloc (by simp) _).alloc (by simp; omega) _
    refine ⟨hlow, by simp, ?_, ?_, ⟨#[.int .u32 0, .int .u32 0, .int .u32 0, .int .u32 0, .int .u32 0, .int .u32 0, .int .u32 0, .int .u32 0], rfl, ?_⟩, htab.below hlow⟩
    · rw [heap_alloc_old _ _ (by simp; omega), heap_alloc_old _ _ (by simp), heap_alloc_new]
    · rw [heap_alloc_old _ _ (by simp), show w.heap.size + 1 = (w.alloc (.cells s.cells 68)).heap.size from by simp, heap_alloc_new]
    · rw [show w.heap.size + 1 + 1 = ((w.alloc (.cells s.cells 68)).alloc (.cells (uv l).toArray 86)).heap.size from by simp, heap_alloc_new]
  generalize ((w.alloc (.cells s.cells 68)).alloc (.cells (uv l).toArray 86)).alloc (.cells #[.int .u32 0, .int .u32 0, .int .u32 0, .int .u32 0, .int .u32 0, .int .u32 0, .int .u32 0, .int .u32 0] 68) = W0 at hkept ⊢
  rw [← hN]
  have HN : Hid (N = w.heap.size) := hN
  clear hN htab
  obtain ⟨c0, c1, c2, c3, c4, c5, c6, c7⟩ := st_cell hkept.st
  go_quiet (fail)
  go_wp2
  replace hkept := hkept.drewN nq
  clear c0 c1 c2 c3 c4 c5 c6 c7
  generalize W0.drewN nq = wq at hkept ⊢
  go_loopw [5, 6, 7, 8, 9, 10, 11, 12, 32] (fun va vb vc vd ve vf vg vh i wr => ∃ (j : Nat) (t : St), j ≤ 64 ∧ i = .int .i64 j ∧ rnds b s j = t ∧ va = .int .u32 t.a ∧ vb = .int .u32 t.b ∧ vc = .int .u32 t.c ∧ vd = .int .u32 t.d ∧ ve = .int .u32 t.e ∧ vf = .int .u32 t.f ∧ vg = .int .u32 t.g ∧ vh = .int .u32 t.h ∧ MK N s l w wr) (fun _ _ _ _ _ _ _ _ i _ => 64 - (intOf i).toNat)
  case atStart => exact ⟨0, s, Nat.zero_le _, rfl, rfl, rfl, rfl, rfl, rfl, rfl, rfl, rfl, rfl, hkept⟩
  case round =>
    clear hkept
    obtain ⟨j, t, hj, rfl, hrt, rfl, rfl, rfl, rfl, rfl, rfl, rfl, rfl, hkp⟩ := hrel
    have htu : StU t := by rw [← hrt]; exact rnds_u b hs j
    by_cases hjl : j < 64
    ·
      have HRj : Hid (rnds b s (j + 1) = rnd (keyL.getD j 0) (l.getD j 0) t) := by show _ = _; rw [← hrt]; exact HR.out j
      clear hrt
      have hrow := uv_cell hkp.row j (by rw [HLn.out]; exact hjl)
      have htb := hkp.tab.cell j hjl
      have hru := HLu.out.getD j
      have hku := keyL_u.getD j
      obtain ⟨a, b', c, d, e, f, g', hh⟩ := t
      simp only []
      generalize l.getD j 0 = wj at hrow hru HRj
      generalize keyL.getD j 0 = kj at hku HRj htb
      have q1 := xr_eq (turn_u 6 htu.e) (turn_u 11 htu.e)
      have q2 := xr_eq (xr_u (turn_u 6 htu.e) (turn_u 11 htu.e)) (turn_u 25 htu.e)
      have a0 : bits .xor .u32 (if IntKind.u32.signed = true then -1 else IntKind.u32.max) e = nt e := not_eq htu.e
      have a1 := an_eq htu.e htu.f
      have a2 := an_eq (nt_u htu.e) htu.g
      have a3 := xr_eq (an_u htu.e htu.f) (an_u (nt_u htu.e) htu.g)
      have s1 : IntKind.u32.wrap (hh + xr (xr (turnV e 6) (turnV e 11)) (turnV e 25)) = ad hh (thr e 6 11 25) := IntKind.wrap_u32' _
      have s2 : IntKind.u32.wrap (ad hh (thr e 6 11 25) + xr (an e f) (an (nt e) g')) = ad (ad hh (thr e 6 11 25)) (xr (an e f) (an (nt e) g')) := IntKind.wrap_u32' _
      have s3 : IntKind.u32.wrap (ad (ad hh (thr e 6 11 25)) (xr (an e f) (an (nt e) g')) + kj) = ad (ad (ad hh (thr e 6 11 25)) (xr (an e f) (an (nt e) g'))) kj := IntKind.wrap_u32' _
      have s4 : IntKind.u32.wrap (ad (ad (ad hh (thr e 6 11 25)) (xr (an e f) (an (nt e) g'))) kj + wj) = ad (ad (ad (ad hh (thr e 6 11 25)) (xr (an e f) (an (nt e) g'))) kj) wj := IntKind.wrap_u32' _
      have hjk : (j : Int) < 64 := by omega
      have hj0 : (0 : Int) ≤ (j : Int) := by omega
      go_wp2
      go_quiet ((go_at_call 64; exact Calls.quiet_of_same (turn_q _ _ _ htu.e (by decide) (by decide))))
      replace hkp := hkp.drewN nq
      clear q1 q2 a0 a1 a2 a3 s1 s2 s3 s4 hrow htb
      generalize wr.drewN nq = wq at hkp ⊢
      have HT : Hid (ad (ad (ad (ad hh (thr e 6 11 25)) (xr (an e f) (an (nt e) g'))) kj) wj = rT kj wj ⟨a, b', c, d, e, f, g', hh⟩) := rfl
      have hTu : U32 (ad (ad (ad (ad hh (thr e 6 11 25)) (xr (an e f) (an (nt e) g'))) kj) wj) := ad_u _ _
      generalize ad (ad (ad (ad hh (thr e 6 11 25)) (xr (an e f) (an (nt e) g'))) kj) wj = T at HT hTu ⊢
      have p1 := an_eq htu.a htu.b
      have p2 := an_eq htu.a htu.c
      have p3 := xr_eq (an_u htu.a htu.b) (an_u htu.a htu.c)
      have p4 := an_eq htu.b htu.c
      have p5 := xr_eq (xr_u (an_u htu.a htu.b) (an_u htu.a htu.c)) (an_u htu.b htu.c)
      have q1 := xr_eq (turn_u 2 htu.a) (turn_u 13 htu.a)
      have q2 := xr_eq (xr_u (turn_u 2 htu.a) (turn_u 13 htu.a)) (turn_u 22 htu.a)
      go_wp2_with fail
      refine (turn_any _ _ _ htu.a.1 htu.a.2 (by decide) (by decide)).mono ?_
      rintro e1 w1 ⟨rfl, rfl⟩
      go_wp2_with fail
      refine (turn_any _ _ _ htu.a.1 htu.a.2 (by decide) (by decide)).mono ?_
      rintro e1 w1 ⟨rfl, rfl⟩
      go_wp2_with fail
      refine (turn_any _ _ _ htu.a.1 htu.a.2 (by decide) (by decide)).mono ?_
      rintro e1 w1 ⟨rfl, rfl⟩
      go_wp2
      go_roundw
      case rel => exact ⟨j + 1, rnd kj wj ⟨a, b', c, d, e, f, g', hh⟩, by omega, by go_num, HRj.out, by unfold rnd; rw [← HT.out]; rfl, rfl, rfl, rfl, by unfold rnd; rw [← HT.out]; rfl, rfl, rfl, rfl, hkp⟩
      case measure => simp [intOf]; omega
    · have HJ : Hid (j = 64) := by show j = 64; omega
      have HF : Bx (Ending.returned (.agg t.cells) = .returned (.agg (rnds b s 64).cells)) := ⟨by rw [← hrt, HJ.out]⟩
      clear hrt
      obtain ⟨cs, hcs, hres⟩ := hkp.res
      have ht := there_row hres
      rw [hcs] at ht
      have hbl : Below w.heap.size w wr := by rw [← HN.out]; exact hkp.low
      have hNs : w.heap.size ≤ N + 1 + 1 := by have := HN.out; omega
      have HST : Bx ((wr.setCells (N + 1 + 1) 0 t.cells.toList).heap[N + 1 + 1]? = some (.cells t.cells 68 (0, 0))) := ⟨heap_stored (vs := t.cells) hres (by rw [hcs]; rfl)⟩
      have HBS : Bx (Below w.heap.size w (wr.setCells (N + 1 + 1) 0 t.cells.toList)) := ⟨below_setCells hbl (N + 1 + 1) hNs t.cells.toList 0⟩
      have HTH : Bx (wr.there (N + 1 + 1) 0 8) := ⟨ht⟩
      clear hkp hres ht hbl hNs hcs
      go_wp2_with (refine wpList_store_mid rfl 68 (.tmp 4) (.tmp 103) rfl (N + 1 + 1) 0 t.cells rfl rfl HTH.out (cells_info _) (cells_one _) ?_)
      exact bodyPost_ret (v := .agg t.cells) (results_cell_row rfl _ _ (N + 1 + 1) 68 t.cells (0, 0) _ rfl HST.out Tryd.underlying68 rfl (cells_info _)) rfl ⟨HF.out, HBS.out⟩
end Go.Proofs.YtaphbenkkicbhaaDoor
