/- A place is gone through, the document's own way. -/
import Derived.Test.YtbjeeefkbmdmfaaCGo
import Derived.Test.YtbjeeefkbmdmfaaRCTab2
namespace Go.Proofs.Ytbjeeefkbmdmfaa
open Go.RowKit
set_option linter.unusedVariables false

set_option maxHeartbeats 2000000 in
theorem goes_any {w0 : World} {g gd cd gg cg : Nat} {a : Option Addr} {len cap : Nat} {l : List Ic} {D : List Int} {G : List Bool} (p : Nat) (w : World) (hc : Ics w0 a len cap l) (hb : Below w0.heap.size w0 w) (h : Wk 123 w0.heap.size w g gd cd gg cg a len cap D G) (hp : p < len) (hl : len ≤ 1000000) (hx : canI len (l.getD p ic0) = true) (hd : 0 ≤ D.getD p (-1)) (hd8 : D.getD p (-1) ≤ 8) :
    Calls Try.prog 72 #[.pointer (some ⟨g, 0, none⟩), .int .i64 p] w fun e w' => e = .returned (.int .i64 (goS (l.getD p ic0) D p).2) ∧ Wk 123 w0.heap.size w' g gd cd gg cg a len cap (goS (l.getD p ic0) D p).1 (G.set p true) ∧ Below w0.heap.size w w' := by
  have HC := Bx.mk hc
  have HBLO0 : Bx (∀ b off, a = some ⟨b, off, none⟩ → b < w0.heap.size) := ⟨fun b off e => by obtain ⟨b', off', e', hlt, _⟩ := hc.spot (by omega); rw [e] at e'; cases e'; exact hlt⟩
  have HBW : Bx (Below w0.heap.size w0 (w.setCell ⟨gg, p, none⟩ (.bool true))) := ⟨hb.setCell (p := ⟨gg, p, none⟩) h.geg _⟩
  have HBL : Bx (Below w0.heap.size w (w.setCell ⟨gg, p, none⟩ (.bool true))) := ⟨(Below.refl _ _).setCell (p := ⟨gg, p, none⟩) h.geg _⟩
  have HW1 := Bx.mk (h.setG p true)
  obtain ⟨_, _, c2⟩ := h.cells
  obtain ⟨e0, e1⟩ := h.gcell p hp
  have hpI : (p : Int) < (len : Int) := by omega
  obtain ⟨r0, HR0⟩ : ∃ r0, Bx (goS (l.getD p ic0) D p = r0) := ⟨_, ⟨rfl⟩⟩
  rw [HR0.out]
  obtain ⟨x, HX⟩ : ∃ x, Bx (l.getD p ic0 = x) := ⟨_, ⟨rfl⟩⟩
  rw [HX.out] at hx HR0
  obtain ⟨o, n⟩ := x
  have his := canI_is hx
  obtain ⟨o, rfl, ho19⟩ := opNat his
  have HIS := Bx.mk his
  have hpl := canI_place hx
  simp only at his hpl
  have hbd := tbl_bd his
  have htn := th_place his
  obtain ⟨nk, HNK⟩ : ∃ nk, Bx (nkO (o : Int) = nk) := ⟨_, ⟨rfl⟩⟩
  obtain ⟨tk, HTK⟩ : ∃ tk, Bx (tkO (o : Int) = tk) := ⟨_, ⟨rfl⟩⟩
  obtain ⟨pt, HPT⟩ : ∃ pt, Bx (ptO (o : Int) = pt) := ⟨_, ⟨rfl⟩⟩
  obtain ⟨th, HTH⟩ : ∃ th, Bx (thO (o : Int) = th) := ⟨_, ⟨rfl⟩⟩
  obtain ⟨dd, HDD⟩ : ∃ dd, Bx (D.getD p (-1) = dd) := ⟨_, ⟨rfl⟩⟩
  rw [HTK.out, HPT.out, HTH.out] at hbd
  rw [HTH.out] at htn
  rw [HDD.out] at hd hd8
  have HGS : Bx (r0 = if dd < tk then (D, 3) else if 8 < dd - tk + pt then (D, 11) else if th = 0 then lead D (p + 1) (dd - tk + pt) else if th = 1 then lead D n.toNat (dd - tk + pt) else if th = 2 then (if (lead D (p + 1) (dd - tk + pt)).2 ≠ 0 then lead D (p + 1) (dd - tk + pt) else lead (lead D (p + 1) (dd - tk + pt)).1 n.toNat (dd - tk + pt)) else (D, 0)) := ⟨by
    rw [← HR0.out]; unfold goS; simp only; rw [HTK.out, HPT.out, HTH.out, HDD.out]⟩
  have HLP : Bx (nkO (o : Int) = 3 → ∃ t : Nat, n = (t : Int) ∧ t < len) := ⟨fun hk => by have := hpl hk; exact ⟨n.toNat, by omega, by omega⟩⟩
  have HTN := Bx.mk htn
  clear h hc hb
  go_enter Try.func72, Try.ntmps72
  go_upto_region 2 with fail
  generalize w.setCell ⟨gg, p, none⟩ (.bool true) = w1 at HBW HBL HW1 ⊢
  clear c2 e0 e1
  obtain ⟨c0, c1, _⟩ := HW1.out.cells
  obtain ⟨d0, _⟩ := HW1.out.dcell p hp
  obtain ⟨b, off, rfl, hbl, x0, x1⟩ := (HC.out.below HBW.out).ic p hp
  rw [HX.out] at x0 x1
  rw [HDD.out] at d0
  simp only at x0 x1
  have HBLO : Bx (b < w0.heap.size) := ⟨HBLO0.out b off rfl⟩
  have HCW : Bx (Ics w1 (some ⟨b, off, none⟩) len cap l) := ⟨HC.out.below HBW.out⟩
  clear hx his hpl htn HC
  go_wp2_with fail
  refine (table_any o w1 ho19).mono ?_
  rintro e wt ⟨rfl, hbt⟩
  rw [HNK.out, HTK.out, HPT.out, HTH.out]
  have HWT := Bx.mk (HW1.out.below hbt)
  have HBT : Bx (Below w0.heap.size w wt) := ⟨HBL.out.trans (hbt.mono HBW.out.size)⟩
  have HCT := Bx.mk (HCW.out.below hbt)
  have hb2 : Below wt.heap.size wt (wt.alloc (.cells #[.int .i64 nk, .int .i64 tk, .int .i64 pt, .int .i64 th] 144)) := (Below.refl _ _).alloc (Nat.le_refl _) _
  have HR3 : Bx ((wt.alloc (.cells #[.int .i64 nk, .int .i64 tk, .int .i64 pt, .int .i64 th] 144)).heap[wt.heap.size]? = some (.cells #[.int .i64 nk, .int .i64 tk, .int .i64 pt, .int .i64 th] 144 (0, 0))) := ⟨heap_alloc_new wt _⟩
  have HW3 := Bx.mk (HWT.out.below hb2)
  have HB3 : Bx (Below w0.heap.size w (wt.alloc (.cells #[.int .i64 nk, .int .i64 tk, .int .i64 pt, .int .i64 th] 144))) := ⟨HBT.out.trans (hb2.mono (Nat.le_trans HBW.out.size hbt.size))⟩
  have HC3 := Bx.mk (HCT.out.below hb2)
  obtain ⟨g5, HG5⟩ : ∃ g5, Bx (wt.heap.size = g5) := ⟨_, ⟨rfl⟩⟩
  have HNE : Bx (g5 ≠ gd) := ⟨by rw [← HG5.out]; have := (HWT.out.dep.lt gd rfl).2; omega⟩
  rw [HG5.out] at HR3
  clear hbt hb2 c0 c1 d0 x0 x1 hbl HW1 HBL HBW HCW HWT HBT HCT
  go_upto_region 3 with fail
  rw [HG5.out]
  generalize wt.alloc (.cells #[.int .i64 nk, .int .i64 tk, .int .i64 pt, .int .i64 th] 144) = w3 at HR3 HW3 HB3 HC3 ⊢
  obtain ⟨c0, c1, _⟩ := HW3.out.cells
  obtain ⟨d0, _⟩ := HW3.out.dcell p hp
  rw [HDD.out] at d0
  have y1 := cell_of_row _ _ 1 _ _ (0, 0) HR3.out
  have y2 := cell_of_row _ _ 2 _ _ (0, 0) HR3.out
  have y3 := cell_of_row _ _ 3 _ _ (0, 0) HR3.out
  by_cases h1 : dd < tk
  · have HF : Bx (r0 = (D, 3)) := ⟨by rw [HGS.out, if_pos h1]⟩
    go_wp2_with fail
    go_ret
    exact go_fin HF.out HW3.out HB3.out
  rw [if_neg h1] at HGS
  go_upto_region 7 with fail
  obtain ⟨r, HRR⟩ : ∃ r, Bx (dd - tk + pt = r) := ⟨_, ⟨rfl⟩⟩
  rw [HRR.out] at HGS ⊢
  have hr0 : 0 ≤ r ∧ r ≤ 20 := by rw [← HRR.out]; omega
  clear h1 hd hd8
  by_cases h8 : 8 < r
  · have HF : Bx (r0 = (D, 11)) := ⟨by rw [HGS.out, if_pos h8]⟩
    go_wp2_with fail
    go_ret
    exact go_fin HF.out HW3.out HB3.out
  rw [if_neg h8] at HGS
  by_cases t0 : th = 0
  · subst t0
    rw [if_pos rfl] at HGS
    go_wp2_with fail
    -- a place gets a depth, from the world w3 on
    refine (leads_any (p + 1) r w3 HW3.out (by omega) hl).mono ?_
    rintro e w4 ⟨rfl, hw4, hk4⟩
    have Hw4 := Bx.mk hw4
    have Bw4 : Bx (Below w0.heap.size w w4) := ⟨HB3.out.trans (hk4.low (fun k hk => by rw [hk]; exact HW3.out.ged) (Nat.le_trans HW3.out.bg (Nat.le_of_lt HW3.out.lt)))⟩
    have Rw4 : Bx (w4.heap[g5]? = some (.cells #[.int .i64 nk, .int .i64 tk, .int .i64 pt, .int .i64 0] 144 (0, 0))) := ⟨(hk4.block g5 (Array.getElem?_eq_some_iff.1 HR3.out).1 HNE.out).trans HR3.out⟩
    clear hw4 hk4
    clear y1 y2 y3 c0 c1 d0
    have y3 := cell_of_row _ _ 3 _ _ (0, 0) Rw4.out
    generalize lead D (p + 1) r = q at HGS Hw4 ⊢
    obtain ⟨E, er⟩ := q
    simp only at Hw4 ⊢
    by_cases he : er = 0
    · subst he
      go_wp2_with fail
      go_ret
      exact go_fin HGS.out Hw4.out Bw4.out
    · have hq : (er != 0) = true := by simpa using he
      clear he
      go_wp2_with fail
      go_ret
      exact go_fin HGS.out Hw4.out Bw4.out
  rw [if_neg t0] at HGS
  by_cases t1 : th = 1
  · subst t1
    rw [if_pos rfl] at HGS
    obtain ⟨t, rfl, htl⟩ := HLP.out (HTN.out.1 (.inl rfl))
    rw [Int.toNat_natCast] at HGS
    obtain ⟨_, _, e, _, z0, z1⟩ := HC3.out.ic p hp
    cases e
    rw [HX.out] at z1
    simp only at z1
    clear t0 z0
    go_wp2_with fail
    -- a place gets a depth, from the world w3 on
    refine (leads_any t r w3 HW3.out (by omega) hl).mono ?_
    rintro e w4 ⟨rfl, hw4, hk4⟩
    have Hw4 := Bx.mk hw4
    have Bw4 : Bx (Below w0.heap.size w w4) := ⟨HB3.out.trans (hk4.low (fun k hk => by rw [hk]; exact HW3.out.ged) (Nat.le_trans HW3.out.bg (Nat.le_of_lt HW3.out.lt)))⟩
    have Rw4 : Bx (w4.heap[g5]? = some (.cells #[.int .i64 nk, .int .i64 tk, .int .i64 pt, .int .i64 1] 144 (0, 0))) := ⟨(hk4.block g5 (Array.getElem?_eq_some_iff.1 HR3.out).1 HNE.out).trans HR3.out⟩
    clear hw4 hk4
    generalize lead D t r = q at HGS Hw4 ⊢
    obtain ⟨E, er⟩ := q
    simp only at Hw4 ⊢
    go_wp2_with fail
    go_ret
    exact go_fin HGS.out Hw4.out Bw4.out
  rw [if_neg t1] at HGS
  by_cases t2 : th = 2
  · subst t2
    rw [if_pos rfl] at HGS
    obtain ⟨t, rfl, htl⟩ := HLP.out (HTN.out.1 (.inr rfl))
    rw [Int.toNat_natCast] at HGS
    obtain ⟨_, _, e, hb9, z0, z1⟩ := HC3.out.ic p hp
    cases e
    rw [HX.out] at z1
    simp only at z1
    have HZ1 := Bx.mk z1
    have HBN : Bx (b ≠ gd) := ⟨by have := HW3.out.ged; have := HBLO.out; omega⟩
    clear t0 t1 z0 z1
    go_wp2_with fail
    -- a place gets a depth, from the world w3 on
    refine (leads_any (p + 1) r w3 HW3.out (by omega) hl).mono ?_
    rintro e w4 ⟨rfl, hw4, hk4⟩
    have Hw4 := Bx.mk hw4
    have Bw4 : Bx (Below w0.heap.size w w4) := ⟨HB3.out.trans (hk4.low (fun k hk => by rw [hk]; exact HW3.out.ged) (Nat.le_trans HW3.out.bg (Nat.le_of_lt HW3.out.lt)))⟩
    have Rw4 : Bx (w4.heap[g5]? = some (.cells #[.int .i64 nk, .int .i64 tk, .int .i64 pt, .int .i64 2] 144 (0, 0))) := ⟨(hk4.block g5 (Array.getElem?_eq_some_iff.1 HR3.out).1 HNE.out).trans HR3.out⟩
    have z1 : w4.cell? ⟨b, off + p * 2 + 1, none⟩ = some (.int .i64 (t : Int)) := (World.cell?_of_block (w := w3) (hk4.block b hb9 HBN.out)).trans HZ1.out
    clear hw4 hk4
    clear y1 y2 y3 c0 c1 d0 hb9
    have y3 := cell_of_row _ _ 3 _ _ (0, 0) Rw4.out
    obtain ⟨c0, c1, _⟩ := Hw4.out.cells
    generalize lead D (p + 1) r = q at HGS Hw4 ⊢
    obtain ⟨E, er⟩ := q
    simp only at Hw4 HGS ⊢
    by_cases he : er = 0
    · subst he
      rw [if_neg (fun h => h rfl)] at HGS
      go_wp2_with fail
      -- a place gets a depth, from the world w4 on
      refine (leads_any t r w4 Hw4.out (by omega) hl).mono ?_
      rintro e w5 ⟨rfl, hw4, hk4⟩
      have Hw5 := Bx.mk hw4
      have Bw5 : Bx (Below w0.heap.size w w5) := ⟨Bw4.out.trans (hk4.low (fun k hk => by rw [hk]; exact Hw4.out.ged) (Nat.le_trans Hw4.out.bg (Nat.le_of_lt Hw4.out.lt)))⟩
      have Rw5 : Bx (w5.heap[g5]? = some (.cells #[.int .i64 nk, .int .i64 tk, .int .i64 pt, .int .i64 2] 144 (0, 0))) := ⟨(hk4.block g5 (Array.getElem?_eq_some_iff.1 Rw4.out).1 HNE.out).trans Rw4.out⟩
      clear hw4 hk4
      generalize lead E t r = q at HGS Hw5 ⊢
      obtain ⟨F, er⟩ := q
      simp only at Hw5 ⊢
      go_wp2_with fail
      go_ret
      exact go_fin HGS.out Hw5.out Bw5.out
    · rw [if_pos he] at HGS
      have hq : (er != 0) = true := by simpa using he
      clear he
      go_wp2_with fail
      go_ret
      exact go_fin HGS.out Hw4.out Bw4.out
  rw [if_neg t2] at HGS
  have h3 : th = 3 := by omega
  subst h3
  clear t0 t1 t2
  go_wp2_with fail
  go_ret
  exact go_fin HGS.out HW3.out HB3.out
end Go.Proofs.Ytbjeeefkbmdmfaa
