/- A place is gone through. -/
import Derived.Test.YtbjeeefkbmdmfaaLng
import Derived.Deep.CutRange
import Derived.BigRegion
namespace Go.Proofs.Ytbjeeefkbmdmfaa
open Go.RowKit
set_option linter.unusedVariables false

set_option maxRecDepth 100000 in
theorem go_fin {T : TypeId} {base : Nat} {w w' : World} {g gd cd gg cg : Nat} {a : Option Addr} {len cap : Nat} {E : List Int} {G : List Bool} {r0 : List Int × Int} {e : Int} (h : r0 = (E, e)) (hw : Wk T base w' g gd cd gg cg a len cap E G) (hb : Below base w w') : Ending.returned (.int .i64 e) = .returned (.int .i64 r0.2) ∧ Wk T base w' g gd cd gg cg a len cap r0.1 G ∧ Below base w w' := by
  rw [h]; exact ⟨rfl, hw, hb⟩
set_option maxHeartbeats 2000000 in
theorem through_any {w0 : World} {g gd cd gg cg : Nat} {a : Option Addr} {len cap : Nat} {l : List Ic} {D : List Int} {G : List Bool} (p : Nat) (w : World) (hc : Ics w0 a len cap l) (hb : Below w0.heap.size w0 w) (h : Wk 141 w0.heap.size w g gd cd gg cg a len cap D G) (hp : p < len) (hl : len ≤ 1000000) (hx : canI len (l.getD p ic0) = true) (hd : 0 ≤ D.getD p (-1)) (hd8 : D.getD p (-1) ≤ 8) :
    Calls Try.prog 79 #[.pointer (some ⟨g, 0, none⟩), .int .i64 p] w fun e w' => e = .returned (.int .i64 (goS (l.getD p ic0) D p).2) ∧ Wk 141 w0.heap.size w' g gd cd gg cg a len cap (goS (l.getD p ic0) D p).1 (G.set p true) ∧ Below w0.heap.size w w' := by
  have HC := Bx.mk hc
  have HBW : Bx (Below w0.heap.size w0 (w.setCell ⟨gg, p, none⟩ (.bool true))) := ⟨hb.setCell (p := ⟨gg, p, none⟩) h.geg _⟩
  have HBL : Bx (Below w0.heap.size w (w.setCell ⟨gg, p, none⟩ (.bool true))) := ⟨(Below.refl _ _).setCell (p := ⟨gg, p, none⟩) h.geg _⟩
  have HW1 := Bx.mk (h.setG p true)
  obtain ⟨_, _, c2⟩ := h.cells
  obtain ⟨e0, e1⟩ := h.gcell p hp
  have hpI : (p : Int) < (len : Int) := by omega
  obtain ⟨r0, HR0⟩ : ∃ r0, Bx (goS (l.getD p ic0) D p = r0) := ⟨_, ⟨rfl⟩⟩
  rw [HR0.out]
  obtain ⟨x, HX⟩ : ∃ x, Bx (l.getD p ic0 = x) := ⟨_, ⟨rfl⟩⟩
  rw [HX.out] at hx HR0
  obtain ⟨o, n⟩ := x
  have his := canI_is hx
  have HIS := Bx.mk his
  have hpl := canI_place hx
  simp only at his hpl
  have hbd := tbl_bd his
  have htk := tkA_is his
  have hpt := ptA_is his
  have hbe := beh_th his
  have hju := jmp_th his
  have htn := th_place his
  obtain ⟨tk, HTK⟩ : ∃ tk, Bx (tkO o = tk) := ⟨_, ⟨rfl⟩⟩
  obtain ⟨pt, HPT⟩ : ∃ pt, Bx (ptO o = pt) := ⟨_, ⟨rfl⟩⟩
  obtain ⟨th, HTH⟩ : ∃ th, Bx (thO o = th) := ⟨_, ⟨rfl⟩⟩
  obtain ⟨dd, HDD⟩ : ∃ dd, Bx (D.getD p (-1) = dd) := ⟨_, ⟨rfl⟩⟩
  rw [HTK.out, HPT.out, HTH.out] at hbd
  rw [HTK.out] at htk
  rw [HPT.out] at hpt
  rw [HTH.out] at hbe hju htn
  rw [HDD.out] at hd hd8
  have HGS : Bx (r0 = if dd < tk then (D, 3) else if 8 < dd + (pt - tk) then (D, 11) else if th = 0 then lead D (p + 1) (dd + (pt - tk)) else if th = 1 then lead D n.toNat (dd + (pt - tk)) else if th = 2 then (if (lead D (p + 1) (dd + (pt - tk))).2 ≠ 0 then lead D (p + 1) (dd + (pt - tk)) else lead (lead D (p + 1) (dd + (pt - tk))).1 n.toNat (dd + (pt - tk))) else (D, 0)) := ⟨by
    rw [← HR0.out]; unfold goS; simp only; rw [HTK.out, HPT.out, HTH.out, HDD.out, show dd - tk + pt = dd + (pt - tk) by omega]⟩
  have HLP : Bx (nkO o = 3 → ∃ t : Nat, n = (t : Int) ∧ t < len) := ⟨fun hk => by have := hpl hk; exact ⟨n.toNat, by omega, by omega⟩⟩
  have HTN := Bx.mk htn
  clear h hc hb
  go_enter Try.func79, Try.ntmps79
  go_upto_region 2 with fail
  generalize w.setCell ⟨gg, p, none⟩ (.bool true) = w1 at HBW HBL HW1 ⊢
  clear c2 e0 e1
  obtain ⟨c0, c1, _⟩ := HW1.out.cells
  obtain ⟨d0, _⟩ := HW1.out.dcell p hp
  obtain ⟨b, off, rfl, hbl, x0, x1⟩ := (HC.out.below HBW.out).ic p hp
  rw [HX.out] at x0 x1
  rw [HDD.out] at d0
  simp only at x0 x1
  have hal : ∀ (ob : Obj) (q : Addr) (v : Value), w1.cell? q = some v → (w1.alloc ob).cell? q = some v := fun ob q v hq => ((Below.refl w1.heap.size w1).alloc (Nat.le_refl _) ob).cell (World.block_lt_of_cell? w1 _ hq) |>.trans hq
  have c0' := fun ob => hal ob _ _ c0
  have c1' := fun ob => hal ob _ _ c1
  have d0' := fun ob => hal ob _ _ d0
  have x0' := fun ob => hal ob _ _ x0
  have x1' := fun ob => hal ob _ _ x1
  have hb2 : Below w1.heap.size w1 (w1.alloc (.cells #[.int .i64 o, .int .i64 n] 77)).drew := ((Below.refl _ _).alloc (Nat.le_refl _) _).drew
  have HR5 : Bx ((w1.alloc (.cells #[.int .i64 o, .int .i64 n] 77)).drew.heap[w1.heap.size]? = some (.cells #[.int .i64 o, .int .i64 n] 77 (0, 0))) := ⟨heap_alloc_new w1 _⟩
  have HW2 := Bx.mk (HW1.out.below hb2)
  have HB2 : Bx (Below w0.heap.size w (w1.alloc (.cells #[.int .i64 o, .int .i64 n] 77)).drew) := ⟨HBL.out.trans (hb2.mono HBW.out.size)⟩
  have HNG : Bx (∀ k : Nat, k < w1.heap.size → k ≠ w1.heap.size) := ⟨fun k hk => by omega⟩
  have HGD : Bx (gd < w1.heap.size) := ⟨(HW1.out.dep.lt gd rfl).2⟩
  clear hal hx his hpl htn hb2
  go_region
  obtain ⟨g5, HG5⟩ : ∃ g5, Bx (w1.heap.size = g5) := ⟨_, ⟨rfl⟩⟩
  have HNE : Bx (g5 ≠ gd) := ⟨by rw [← HG5.out]; have := HGD.out; omega⟩
  rw [HG5.out] at HR5 ⊢
  generalize (w1.alloc (.cells #[.int .i64 o, .int .i64 n] 77)).drew = w2 at HR5 HW2 HB2 ⊢
  clear c0 c1 d0 x0 x1 c0' c1' d0' x0' x1' hbl HW1 HBL HBW HC HNG HGD
  have y0 := cell_of_row _ _ 0 _ _ (0, 0) HR5.out
  have y1 := cell_of_row _ _ 1 _ _ (0, 0) HR5.out
  by_cases h1 : dd < tk
  · have HF : Bx (r0 = (D, 3)) := ⟨by rw [HGS.out, if_pos h1]⟩
    go_wp2_with (go_at_call 88; refine (takes_any _ _).mono ?_; rintro e wz ⟨rfl, hw⟩; replace hw := hw.symm; subst hw; rw [htk])
    go_ret
    exact go_fin HF.out HW2.out HB2.out
  rw [if_neg h1] at HGS
  go_upto_region 5 with (go_at_call 88; refine (takes_any _ _).mono ?_; rintro e wz ⟨rfl, hw⟩; replace hw := hw.symm; subst hw; rw [htk])
  have HQT : Bx (∀ W : World, Calls Try.prog 88 #[.int .i64 o] W fun e w' => e = .returned (.int .i64 tk) ∧ w' = W) := ⟨fun W => by rw [← htk]; exact takes_any o W⟩
  have HQP : Bx (∀ W : World, Calls Try.prog 89 #[.int .i64 o] W fun e w' => e = .returned (.int .i64 pt) ∧ w' = W) := ⟨fun W => by rw [← hpt]; exact puts_any o W⟩
  go_quiet (first | (go_at_call 88; exact Calls.quiet_of_same (HQT.out _)) | (go_at_call 89; exact Calls.quiet_of_same (HQP.out _)))
  have HW3 := Bx.mk (HW2.out.drewN nq)
  have HB3 := Bx.mk (below_drewN HB2.out nq)
  have HR3 : Bx ((w2.drewN nq).heap[g5]? = some (.cells #[.int .i64 o, .int .i64 n] 77 (0, 0))) := ⟨HR5.out⟩
  generalize w2.drewN nq = w3 at HW3 HB3 HR3 ⊢
  clear y0 y1 HW2 HB2 HR5 HQT HQP
  have y0 := cell_of_row _ _ 0 _ _ (0, 0) HR3.out
  have y1 := cell_of_row _ _ 1 _ _ (0, 0) HR3.out
  obtain ⟨r, HRR⟩ : ∃ r, Bx (dd + (pt - tk) = r) := ⟨_, ⟨rfl⟩⟩
  rw [HRR.out] at HGS ⊢
  have hr0 : 0 ≤ r ∧ r ≤ 20 := by rw [← HRR.out]; omega
  clear h1 hd hd8 htk hpt hbd
  by_cases h8 : 8 < r
  · have HF : Bx (r0 = (D, 11)) := ⟨by rw [HGS.out, if_pos h8]⟩
    go_wp2_with fail
    go_ret
    exact go_fin HF.out HW3.out HB3.out
  rw [if_neg h8] at HGS
  have HKB := Bx.mk (fun W => behind15_any o W)
  have HKJ := Bx.mk (fun W => jumps_any o W)
  by_cases t0 : th = 0
  · subst t0
    rw [if_pos rfl] at HGS
    have hbe2 : behB o = true := by rw [hbe]; rfl
    have hju2 : jmpB o = false := by rw [hju]; rfl
    rw [hbe2] at HKB
    rw [hju2] at HKJ
    clear hbe hju hbe2 hju2
    go_wp2_with (go_at_call 90; refine (HKB.out _).mono ?_; rintro e wz ⟨rfl, hw⟩; replace hw := hw.symm; subst hw)
    -- a place gets a depth, from the world w3 on
    refine (lead_any (p + 1) r w3 HW3.out (by omega) hl).mono ?_
    rintro e w4 ⟨rfl, hw4, hk4⟩
    have Hw4 := Bx.mk hw4
    have Bw4 : Bx (Below w0.heap.size w w4) := ⟨HB3.out.trans (hk4.low (fun k hk => by rw [hk]; exact HW3.out.ged) (Nat.le_trans HW3.out.bg (Nat.le_of_lt HW3.out.lt)))⟩
    have Rw4 : Bx (w4.heap[g5]? = some (.cells #[.int .i64 o, .int .i64 n] 77 (0, 0))) := ⟨(hk4.block g5 (Array.getElem?_eq_some_iff.1 HR3.out).1 HNE.out).trans HR3.out⟩
    clear hw4 hk4
    clear y0 y1
    have y0 := cell_of_row _ _ 0 _ _ (0, 0) Rw4.out
    generalize lead D (p + 1) r = q at HGS Hw4 ⊢
    obtain ⟨E, er⟩ := q
    simp only at Hw4 ⊢
    by_cases he : er = 0
    · subst he
      go_wp2_with (go_at_call 92; refine (HKJ.out _).mono ?_; rintro e wz ⟨rfl, hw⟩; replace hw := hw.symm; subst hw)
      go_ret
      exact go_fin HGS.out Hw4.out Bw4.out
    · have hq : (er != 0) = true := by simpa using he
      clear he
      go_wp2_with fail
      go_ret
      exact go_fin HGS.out Hw4.out Bw4.out
  rw [if_neg t0] at HGS
  by_cases t1 : th = 1
  · subst t1
    rw [if_pos rfl] at HGS
    have hbe2 : behB o = false := by rw [hbe]; rfl
    have hju2 : jmpB o = true := by rw [hju]; rfl
    rw [hbe2] at HKB
    rw [hju2] at HKJ
    obtain ⟨t, rfl, htl⟩ := HLP.out (HTN.out.1 (.inl rfl))
    rw [Int.toNat_natCast] at HGS
    clear hbe hju hbe2 hju2 t0
    go_wp2_with (first | (go_at_call 90; refine (HKB.out _).mono ?_; rintro e wz ⟨rfl, hw⟩; replace hw := hw.symm; subst hw) | (go_at_call 92; refine (HKJ.out _).mono ?_; rintro e wz ⟨rfl, hw⟩; replace hw := hw.symm; subst hw))
    -- a place gets a depth, from the world w3 on
    refine (lead_any t r w3 HW3.out (by omega) hl).mono ?_
    rintro e w4 ⟨rfl, hw4, hk4⟩
    have Hw4 := Bx.mk hw4
    have Bw4 : Bx (Below w0.heap.size w w4) := ⟨HB3.out.trans (hk4.low (fun k hk => by rw [hk]; exact HW3.out.ged) (Nat.le_trans HW3.out.bg (Nat.le_of_lt HW3.out.lt)))⟩
    have Rw4 : Bx (w4.heap[g5]? = some (.cells #[.int .i64 o, .int .i64 (t : Int)] 77 (0, 0))) := ⟨(hk4.block g5 (Array.getElem?_eq_some_iff.1 HR3.out).1 HNE.out).trans HR3.out⟩
    clear hw4 hk4
    generalize lead D t r = q at HGS Hw4 ⊢
    obtain ⟨E, er⟩ := q
    simp only at Hw4 ⊢
    go_wp2_with fail
    go_ret
    exact go_fin HGS.out Hw4.out Bw4.out
  rw [if_neg t1] at HGS
  by_cases t2 : th = 2
  · subst t2
    rw [if_pos rfl] at HGS
    have hbe2 : behB o = true := by rw [hbe]; rfl
    have hju2 : jmpB o = true := by rw [hju]; rfl
    rw [hbe2] at HKB
    rw [hju2] at HKJ
    obtain ⟨t, rfl, htl⟩ := HLP.out (HTN.out.1 (.inr rfl))
    rw [Int.toNat_natCast] at HGS
    clear hbe hju hbe2 hju2 t0 t1
    go_wp2_with (go_at_call 90; refine (HKB.out _).mono ?_; rintro e wz ⟨rfl, hw⟩; replace hw := hw.symm; subst hw)
    -- a place gets a depth, from the world w3 on
    refine (lead_any (p + 1) r w3 HW3.out (by omega) hl).mono ?_
    rintro e w4 ⟨rfl, hw4, hk4⟩
    have Hw4 := Bx.mk hw4
    have Bw4 : Bx (Below w0.heap.size w w4) := ⟨HB3.out.trans (hk4.low (fun k hk => by rw [hk]; exact HW3.out.ged) (Nat.le_trans HW3.out.bg (Nat.le_of_lt HW3.out.lt)))⟩
    have Rw4 : Bx (w4.heap[g5]? = some (.cells #[.int .i64 o, .int .i64 (t : Int)] 77 (0, 0))) := ⟨(hk4.block g5 (Array.getElem?_eq_some_iff.1 HR3.out).1 HNE.out).trans HR3.out⟩
    clear hw4 hk4
    clear y0 y1
    have y0 := cell_of_row _ _ 0 _ _ (0, 0) Rw4.out
    have y1 := cell_of_row _ _ 1 _ _ (0, 0) Rw4.out
    generalize lead D (p + 1) r = q at HGS Hw4 ⊢
    obtain ⟨E, er⟩ := q
    simp only at Hw4 HGS ⊢
    by_cases he : er = 0
    · subst he
      rw [if_neg (fun h => h rfl)] at HGS
      go_wp2_with (go_at_call 92; refine (HKJ.out _).mono ?_; rintro e wz ⟨rfl, hw⟩; replace hw := hw.symm; subst hw)
      -- a place gets a depth, from the world w4 on
      refine (lead_any t r w4 Hw4.out (by omega) hl).mono ?_
      rintro e w5 ⟨rfl, hw4, hk4⟩
      have Hw5 := Bx.mk hw4
      have Bw5 : Bx (Below w0.heap.size w w5) := ⟨Bw4.out.trans (hk4.low (fun k hk => by rw [hk]; exact Hw4.out.ged) (Nat.le_trans Hw4.out.bg (Nat.le_of_lt Hw4.out.lt)))⟩
      have Rw5 : Bx (w5.heap[g5]? = some (.cells #[.int .i64 o, .int .i64 (t : Int)] 77 (0, 0))) := ⟨(hk4.block g5 (Array.getElem?_eq_some_iff.1 Rw4.out).1 HNE.out).trans Rw4.out⟩
      clear hw4 hk4
      generalize lead E t r = q at HGS Hw5 ⊢
      obtain ⟨F, er⟩ := q
      simp only at Hw5 ⊢
      go_wp2_with fail
      go_ret
      exact go_fin HGS.out Hw5.out Bw5.out
    · rw [if_pos he] at HGS
      have hq : (er != 0) = true := by simpa using he
      clear he
      go_wp2_with fail
      go_ret
      exact go_fin HGS.out Hw4.out Bw4.out
  rw [if_neg t2] at HGS
  have hbe2 : behB o = false := by rw [hbe]; simp [t0, t2]
  have hju2 : jmpB o = false := by rw [hju]; simp [t1, t2]
  rw [hbe2] at HKB
  rw [hju2] at HKJ
  clear hbe hju hbe2 hju2 t0 t1 t2
  go_wp2_with (first | (go_at_call 90; refine (HKB.out _).mono ?_; rintro e wz ⟨rfl, hw⟩; replace hw := hw.symm; subst hw) | (go_at_call 92; refine (HKJ.out _).mono ?_; rintro e wz ⟨rfl, hw⟩; replace hw := hw.symm; subst hw))
  go_ret
  exact go_fin HGS.out HW3.out HB3.out
end Go.Proofs.Ytbjeeefkbmdmfaa
