/- What Step answers. -/
import Derived.Test.YtbjeeefkbmdmfaaVNew
import Derived.Test.YtbjeeefkbmdmfaaLnb
namespace Go.Proofs.Ytbjeeefkbmdmfaa
open Go.RowKit
set_option linter.unusedVariables false

/-- a step as a value -/
def stC (r : Int × List Int × Int × Int) : Value := .agg (ivA (r.1 :: (r.2.1 ++ [r.2.2.1, r.2.2.2])))
/-- a state as a value -/
def saC (S : List Int) : Value := .agg (ivA S)
set_option maxRecDepth 100000 in
theorem four_list {S : List Int} (h : S.length = 4) : ∃ a b c d, S = [a, b, c, d] := by
  match S, h with
  | [a, b, c, d], _ => exact ⟨a, b, c, d, rfl⟩
def run0 (a b c d k g : Int) : List Int := [0, a, b, c, d, k, g, 0, 0, 0, 0, 0, 0, 0, 0, 0, 0]
set_option maxRecDepth 100000 in
theorem rv_zero (a b c d k g : Int) : RV (run0 a b c d k g) (vs0 [a, b, c, d]) k g 0 := by
  refine ⟨rfl, fun i hi => ?_, rfl, rfl, rfl, rfl, fun i hi => absurd hi (Nat.not_lt_zero _), Nat.zero_le _, rfl⟩
  match i, hi with
  | 0, _ => rfl
  | 1, _ => rfl
  | 2, _ => rfl
  | 3, _ => rfl
set_option maxRecDepth 100000 in
/-- what holds of the place that a run stands at -/
theorem VI.fit {l : List Ic} {v : VS} (hF : Flow l (thr l).1) (hc : ∀ q, q < l.length → canI l.length (l.getD q ic0) = true) (h : VI l (thr l).1 v) : Fit (l.getD v.p ic0) v := by
  have hcan := hc v.p h.pl
  have his := canI_is hcan
  obtain ⟨f1, f2, _, _⟩ := hF.go h.pl his (Int.natCast_nonneg _) h.dp
  refine ⟨his, f1, f2, fun e => ?_, fun e => (canI_place hcan e).1, h.sv⟩
  unfold canI numB at hcan
  rw [e] at hcan
  simp at hcan
  exact hcan.2
/-- the variables of a step -/
structure SW (w : World) (gm gc cc : Nat) (l : List Ic) (s0 s1 s2 s3 : Int) (gs : Nat) (W : World) : Prop where
  mc : Mc W gm gc cc l
  sr : W.heap[gs]? = some (.cells #[.int .i64 s0, .int .i64 s1, .int .i64 s2, .int .i64 s3] 70 (0, 0))
  zr : W.heap[gs + 1]? = some (.cells #[.int .i64 0, .int .i64 0, .int .i64 0, .int .i64 0, .int .i64 0, .int .i64 0, .int .i64 0] 109 (0, 0))
  bl : Below w.heap.size w W
set_option maxRecDepth 100000 in
theorem SW.step {w : World} {gm gc cc : Nat} {l : List Ic} {s0 s1 s2 s3 : Int} {gs : Nat} {W W' : World} (h : SW w gm gc cc l s0 s1 s2 s3 gs W) {gr : Nat} (hk : Kept (fun j => j = gr) W W') (h1 : gs + 1 < gr) (h2 : w.heap.size = gs) (h3 : gm < gs ∧ gc < gs) : SW w gm gc cc l s0 s1 s2 s3 gs W' :=
  ⟨h.mc.kept hk (by omega) (by omega), (hk.block gs (Array.getElem?_eq_some_iff.1 h.sr).1 (by omega)).trans h.sr, (hk.block (gs + 1) (Array.getElem?_eq_some_iff.1 h.zr).1 (by omega)).trans h.zr, h.bl.trans (hk.low (B := w.heap.size) (fun k hk => by omega) h.bl.size)⟩
set_option maxRecDepth 100000 in
theorem SW.zcell {w : World} {gm gc cc : Nat} {l : List Ic} {s0 s1 s2 s3 : Int} {gs : Nat} {W : World} (h : SW w gm gc cc l s0 s1 s2 s3 gs W) (i : Nat) (hi : i < 7) : W.cell? ⟨gs + 1, i, none⟩ = some (.int .i64 0) ∧ W.frozen? ⟨gs + 1, i, none⟩ = false := by
  refine ⟨?_, frozen_of_row _ _ i _ _ h.zr⟩
  rw [cell_of_row _ (gs + 1) i _ _ (0, 0) h.zr]
  match i, hi with
  | 0, _ | 1, _ | 2, _ | 3, _ | 4, _ | 5, _ | 6, _ => rfl
set_option maxHeartbeats 4000000 in
set_option maxRecDepth 100000 in
theorem step_any (gm gc cc : Nat) (l : List Ic) (s0 s1 s2 s3 k g f : Int) (w : World) (h : Mc w gm gc cc l) (hl : IcsK l) (hs : V64 s0 ∧ V64 s1 ∧ V64 s2 ∧ V64 s3) (hk : V64 k) (hg : V64 g) (hf : V64 f) :
    Calls Try.prog 59 #[.pointer (some ⟨gm, 0, none⟩), .agg #[.int .i64 s0, .int .i64 s1, .int .i64 s2, .int .i64 s3], .int .i64 k, .int .i64 g, .int .i64 f] w fun e w' => e = .returned (stC (stpV l [s0, s1, s2, s3] k g f)) ∧ Below w.heap.size w w' := by
  have hln := h.ln
  have hq : (((l.length : Nat) : Int) == 0) = false := beq_false_of_ne (by omega)
  rw [stpV_yes h.ok]
  obtain ⟨m, HMX⟩ : ∃ m : Nat, Bx (f.toNat = m) := ⟨_, ⟨rfl⟩⟩
  rw [HMX.out]
  have hmx : (if f < 0 then 0 else f) = (m : Int) := by rw [← HMX.out]; split <;> omega
  have hm63 : m ≤ 9223372036854775807 := by rw [← HMX.out]; unfold V64 at hf; omega
  obtain ⟨gs, HGS⟩ : ∃ gs, Bx (gs = w.heap.size) := ⟨_, ⟨rfl⟩⟩
  have HG3 : Bx (gm < gs ∧ gc < gs) := ⟨by rw [HGS.out]; exact h.lt⟩
  have HSW0 : Bx (SW w gm gc cc l s0 s1 s2 s3 gs ((w.alloc (.cells #[.int .i64 s0, .int .i64 s1, .int .i64 s2, .int .i64 s3] 70)).alloc (.cells #[.int .i64 0, .int .i64 0, .int .i64 0, .int .i64 0, .int .i64 0, .int .i64 0, .int .i64 0] 109)) ∧ ((w.alloc (.cells #[.int .i64 s0, .int .i64 s1, .int .i64 s2, .int .i64 s3] 70)).alloc (.cells #[.int .i64 0, .int .i64 0, .int .i64 0, .int .i64 0, .int .i64 0, .int .i64 0, .int .i64 0] 109)).heap.size = gs + 1 + 1) := by
    have hb1 : Below w.heap.size w (w.alloc (.cells #[.int .i64 s0, .int .i64 s1, .int .i64 s2, .int .i64 s3] 70)) := (Below.refl _ _).alloc (Nat.le_refl _) _
    have hra := heap_alloc_new w (.cells #[.int .i64 s0, .int .i64 s1, .int .i64 s2, .int .i64 s3] 70)
    have hs1 : (w.alloc (.cells #[.int .i64 s0, .int .i64 s1, .int .i64 s2, .int .i64 s3] 70)).heap.size = gs + 1 := by rw [HGS.out]; simp
    generalize w.alloc (.cells #[.int .i64 s0, .int .i64 s1, .int .i64 s2, .int .i64 s3] 70) = W at hb1 hra hs1 ⊢
    have hb2 : Below W.heap.size W (W.alloc (.cells #[.int .i64 0, .int .i64 0, .int .i64 0, .int .i64 0, .int .i64 0, .int .i64 0, .int .i64 0] 109)) := (Below.refl _ _).alloc (Nat.le_refl _) _
    have hre := heap_alloc_new W (.cells #[.int .i64 0, .int .i64 0, .int .i64 0, .int .i64 0, .int .i64 0, .int .i64 0, .int .i64 0] 109)
    rw [hs1] at hre
    rw [← HGS.out] at hra
    exact ⟨⟨h.below (bstep hb1 hb2), (hb2.block gs (by rw [hs1]; omega)).trans hra, hre, bstep hb1 hb2⟩, by rw [← hs1]; simp⟩
  obtain ⟨RES, HRES⟩ : ∃ RES, Bx (vmF l k g m (vs0 [s0, s1, s2, s3]) 0 = RES) := ⟨_, ⟨rfl⟩⟩
  rw [HRES.out]
  clear h
  go_enter Try.func59, Try.ntmps59
  go_upto_region 1 with fail
  rw [← HGS.out]
  generalize (w.alloc (.cells #[.int .i64 s0, .int .i64 s1, .int .i64 s2, .int .i64 s3] 70)).alloc (.cells #[.int .i64 0, .int .i64 0, .int .i64 0, .int .i64 0, .int .i64 0, .int .i64 0, .int .i64 0] 109) = w0 at HSW0 ⊢
  have x0 := HSW0.out.1.mc.cell
  have y0 := cell_of_row _ gs 0 _ _ (0, 0) HSW0.out.1.sr
  have y1 := cell_of_row _ gs 1 _ _ (0, 0) HSW0.out.1.sr
  have y2 := cell_of_row _ gs 2 _ _ (0, 0) HSW0.out.1.sr
  have y3 := cell_of_row _ gs 3 _ _ (0, 0) HSW0.out.1.sr
  go_upto_region 5 with fail
  obtain ⟨gr, HGR⟩ : ∃ gr, Bx (gr = w0.heap.size) := ⟨_, ⟨rfl⟩⟩
  have hg2 : gr = gs + 1 + 1 := by rw [HGR.out]; exact HSW0.out.2
  have HG4 : Bx (gs + 1 < gr ∧ w.heap.size = gs) := ⟨by omega, HGS.out.symm⟩
  have HB3 : Bx (Below w0.heap.size w0 (w0.alloc (.cells #[.int .i64 0, .int .i64 s0, .int .i64 s1, .int .i64 s2, .int .i64 s3, .int .i64 k, .int .i64 g, .int .i64 0, .int .i64 0, .int .i64 0, .int .i64 0, .int .i64 0, .int .i64 0, .int .i64 0, .int .i64 0, .int .i64 0, .int .i64 0] 127))) := ⟨(Below.refl _ _).alloc (Nat.le_refl _) _⟩
  have HR3 : Bx (Ru (w0.alloc (.cells #[.int .i64 0, .int .i64 s0, .int .i64 s1, .int .i64 s2, .int .i64 s3, .int .i64 k, .int .i64 g, .int .i64 0, .int .i64 0, .int .i64 0, .int .i64 0, .int .i64 0, .int .i64 0, .int .i64 0, .int .i64 0, .int .i64 0, .int .i64 0] 127)) gr (vs0 [s0, s1, s2, s3]) k g 0) := ⟨by rw [HGR.out]; exact ⟨run0 s0 s1 s2 s3 k g, Nb.new w0 (run0 s0 s1 s2 s3 k g) 127, rv_zero _ _ _ _ _ _⟩⟩
  have HSW3 : Bx (SW w gm gc cc l s0 s1 s2 s3 gs (w0.alloc (.cells #[.int .i64 0, .int .i64 s0, .int .i64 s1, .int .i64 s2, .int .i64 s3, .int .i64 k, .int .i64 g, .int .i64 0, .int .i64 0, .int .i64 0, .int .i64 0, .int .i64 0, .int .i64 0, .int .i64 0, .int .i64 0, .int .i64 0, .int .i64 0] 127))) := ⟨HSW0.out.1.step (gr := gr) (Kept.of_below HB3.out) HG4.out.1 HG4.out.2 HG3.out⟩
  rw [← HGR.out]
  generalize w0.alloc (.cells #[.int .i64 0, .int .i64 s0, .int .i64 s1, .int .i64 s2, .int .i64 s3, .int .i64 k, .int .i64 g, .int .i64 0, .int .i64 0, .int .i64 0, .int .i64 0, .int .i64 0, .int .i64 0, .int .i64 0, .int .i64 0, .int .i64 0, .int .i64 0] 127) = w3 at HB3 HR3 HSW3 ⊢
  clear x0 y0 y1 y2 y3 HSW0 HB3 HGR hg2 hmx hq
  have HOK := Bx.mk HSW3.out.mc.ok
  have HFLW := Bx.mk (thr_flow HOK.out)
  have HCN : Bx (∀ q, q < l.length → V64 (l.getD q ic0).n) := ⟨fun q hq => by rw [List.getD_eq_getElem?_getD, List.getElem?_eq_getElem hq]; exact hl _ (List.getElem_mem hq)⟩
  have HVI0 : Bx (VI l (thr l).1 (vs0 [s0, s1, s2, s3])) := ⟨vi_zero HFLW.out.2.2.2 hln.1 rfl (fun y hy => by
    rcases List.mem_cons.1 hy with e | hy
    · rw [e]; exact hs.1
    rcases List.mem_cons.1 hy with e | hy
    · rw [e]; exact hs.2.1
    rcases List.mem_cons.1 hy with e | hy
    · rw [e]; exact hs.2.2.1
    rcases List.mem_cons.1 hy with e | hy
    · rw [e]; exact hs.2.2.2
    cases hy)⟩
  have HKG := Bx.mk (And.intro hk hg)
  clear hs hk hg hf hl
  go_wp2_with fail
  go_loopw [32] (fun i wr => ∃ (j : Nat) (v : VS), j ≤ m ∧ i = .int .i64 j ∧ Bx (Ru wr gr v k g 0) ∧ Bx (VI l (thr l).1 v) ∧ Bx (vmF l k g (m - j) v j = RES) ∧ Bx (SW w gm gc cc l s0 s1 s2 s3 gs wr)) (fun i _ => m - (intOf i).toNat)
  case atStart => exact ⟨0, _, Nat.zero_le _, rfl, HR3, HVI0, HRES, HSW3⟩
  case round =>
    clear HR3 HVI0 HSW3 HRES
    obtain ⟨j, v, hjm, rfl, HR, HVI, HRES, HSW⟩ := hrel
    by_cases hlt : j < m
    · have hjI : (j : Int) < (m : Int) := by omega
      have hpl := HVI.out.pl
      obtain ⟨pc, pf⟩ := HR.out.pAt
      have mc := HSW.out.mc.cell
      obtain ⟨b, off, e, _, z0, z1⟩ := HSW.out.mc.ics.ic v.p hpl
      cases e
      rw [Nat.zero_add] at z0 z1
      have HFT := Bx.mk (HVI.out.fit HFLW.out.2.2.2 HFLW.out.2.2.1)
      have HRD : Bx (Ru wr.drew gr v k g 0) := ⟨HR.out.below (Below.refl _ _).drew⟩
      have HSD : Bx (SW w gm gc cc l s0 s1 s2 s3 gs wr.drew) := ⟨HSW.out.step (gr := gr) (Kept.refl _ _).drew HG4.out.1 HG4.out.2 HG3.out⟩
      have HGO := Bx.mk (fun h => HVI.out.step (k := k) (g := g) HFLW.out.2.2.2 HFLW.out.2.2.1 HCN.out HKG.out.1 HKG.out.2 h)
      have hp6 : v.p < 1000000 := by omega
      have hpI : (v.p : Int) < (l.length : Int) := by omega
      obtain ⟨fm, HFM⟩ : ∃ fm, Bx (m - j = fm + 1) := ⟨m - j - 1, ⟨by omega⟩⟩
      rw [HFM.out] at HRES
      have HV0 : Bx ((do1 (l.getD v.p ic0) k g v).2.1 = 0 → vmF l k g fm (do1 (l.getD v.p ic0) k g v).1 (j + 1) = RES) := ⟨fun e => by rw [← HRES.out]; exact (vmF_go e).symm⟩
      have HV1 : Bx ((do1 (l.getD v.p ic0) k g v).2.1 = 1 → RES = (1, (do1 (l.getD v.p ic0) k g v).1.c, (do1 (l.getD v.p ic0) k g v).2.2, j + 1)) := ⟨fun e => by rw [← HRES.out]; exact vmF_ans e⟩
      have HV2 : Bx ((do1 (l.getD v.p ic0) k g v).2.1 = 2 → RES = (2, v.c, 0, j + 1)) := ⟨fun e => by rw [← HRES.out]; exact vmF_ref e⟩
      have HOV := Bx.mk (do1_over (l.getD v.p ic0) k g v)
      generalize l.getD v.p ic0 = x at z0 z1 HFT HGO HV0 HV1 HV2 HOV
      obtain ⟨o, n⟩ := x
      simp only at z0 z1
      obtain ⟨D, HDD⟩ : ∃ D, Bx (do1 ⟨o, n⟩ k g v = D) := ⟨_, ⟨rfl⟩⟩
      rw [HDD.out] at HGO HV0 HV1 HV2 HOV
      go_upto_region 8 with fail
      go_cut [13] from 33 to 61 (fun s13 wx => s13 = .int .i64 D.2.1 ∧ Bx ((D.2.1 = 0 → Ru wx gr D.1 k g 0) ∧ (D.2.1 = 1 → Ru wx gr D.1 k g D.2.2) ∧ Kept (fun j => j = gr) wr.drew wx))
      case first =>
        go_region_with (go_at_call 73; refine (do_any gr o n v k g 0 _ ?_ HFT.out hp6).mono ?_; exact HRD.out; rintro e w5 ⟨rfl, hD⟩)
        all_goals
          rw [HDD.out] at hD ⊢
          go_wp2_with fail
          go_meet
          case rel => exact ⟨rfl, ⟨hD⟩⟩
      case rest =>
        obtain ⟨rfl, HD⟩ := hcut
        obtain ⟨w5, hw5⟩ : ∃ w5, w5 = wc := ⟨_, rfl⟩
        subst hw5
        have HSW5 := Bx.mk (HSD.out.step (gr := gr) HD.out.2.2 HG4.out.1 HG4.out.2 HG3.out)
        have HR0 : Bx (D.2.1 = 0 → Ru w5 gr D.1 k g 0) := ⟨HD.out.1⟩
        have HR1 : Bx (D.2.1 = 1 → Ru w5 gr D.1 k g D.2.2) := ⟨HD.out.2.1⟩
        clear HD HDD HRD HSD HSW HR pc pf mc z0 z1 HFT
        obtain ⟨v', ov, ret⟩ := D
        simp only at HGO HV0 HV1 HV2 HOV HR0 HR1 ⊢
        by_cases h0 : ov = 0
        · subst h0
          have HRn := Bx.mk (HR0.out rfl)
          have HVIn := Bx.mk (HGO.out rfl)
          have HREn : Bx (vmF l k g (m - (j + 1)) v' (j + 1) = RES) := ⟨by have h1 := HFM.out; rw [show m - (j + 1) = fm from by omega]; exact HV0.out rfl⟩
          clear HR0 HR1 HV0 HV1 HV2 HGO HOV HRES HVI
          go_wp2_with fail
          go_roundw
          case rel => exact ⟨j + 1, v', by omega, by go_num, HRn, HVIn, HREn, HSW5⟩
          case measure => simp [intOf]; omega
        by_cases h1 : ov = 1
        · subst h1
          have HRn := Bx.mk (HR1.out rfl)
          obtain ⟨c0, c1, c2, c3, HC⟩ : ∃ c0 c1 c2 c3, Bx (v'.c = [c0, c1, c2, c3]) := by
            obtain ⟨R, _, h2⟩ := HRn.out
            obtain ⟨c0, c1, c2, c3, e⟩ := four_list h2.cl
            exact ⟨c0, c1, c2, c3, ⟨e⟩⟩
          have r1 := (HRn.out.cellAt 0 (by omega)).1
          have r2 := (HRn.out.cellAt 1 (by omega)).1
          have r3 := (HRn.out.cellAt 2 (by omega)).1
          have r4 := (HRn.out.cellAt 3 (by omega)).1
          obtain ⟨_, _, r7, _⟩ := HRn.out.kAt
          rw [HC.out] at r1 r2 r3 r4
          replace r1 : w5.cell? ⟨gr, 1, none⟩ = some (.int .i64 c0) := r1
          replace r2 : w5.cell? ⟨gr, 2, none⟩ = some (.int .i64 c1) := r2
          replace r3 : w5.cell? ⟨gr, 3, none⟩ = some (.int .i64 c2) := r3
          replace r4 : w5.cell? ⟨gr, 4, none⟩ = some (.int .i64 c3) := r4
          have HEND : Bx (RES = (1, [c0, c1, c2, c3], ret, j + 1)) := ⟨by rw [HV1.out rfl, HC.out]⟩
          clear HR0 HR1 HV0 HV1 HV2 HGO HOV HRES HVI h0
          obtain ⟨z0, f0⟩ := HSW5.out.zcell 0 (by omega)
          obtain ⟨z1, f1⟩ := HSW5.out.zcell 1 (by omega)
          obtain ⟨z2, f2⟩ := HSW5.out.zcell 2 (by omega)
          obtain ⟨z3, f3⟩ := HSW5.out.zcell 3 (by omega)
          obtain ⟨z4, f4⟩ := HSW5.out.zcell 4 (by omega)
          obtain ⟨z5, f5⟩ := HSW5.out.zcell 5 (by omega)
          obtain ⟨z6, f6⟩ := HSW5.out.zcell 6 (by omega)
          have y0 := cell_of_row _ gs 0 _ _ (0, 0) HSW5.out.sr
          have y1 := cell_of_row _ gs 1 _ _ (0, 0) HSW5.out.sr
          have y2 := cell_of_row _ gs 2 _ _ (0, 0) HSW5.out.sr
          have y3 := cell_of_row _ gs 3 _ _ (0, 0) HSW5.out.sr
          have HBL := Bx.mk HSW5.out.bl
          have HGE : Bx (w.heap.size ≤ gs + 1) := ⟨by have := HGS.out; omega⟩
          go_wp2_with fail
          exact bodyPost_ret (v := .agg #[.int .i64 1, .int .i64 c0, .int .i64 c1, .int .i64 c2, .int .i64 c3, .int .i64 ret, .int .i64 ((j : Int) + 1)]) (by simp [results, Try.results59, go_sem, z0, z1, z2, z3, z4, z5, z6]) rfl ⟨by rw [HEND.out]; rfl, ((((((HBL.out.setCell (p := ⟨gs + 1, 0, none⟩) HGE.out _).setCell (p := ⟨gs + 1, 1, none⟩) HGE.out _).setCell (p := ⟨gs + 1, 2, none⟩) HGE.out _).setCell (p := ⟨gs + 1, 3, none⟩) HGE.out _).setCell (p := ⟨gs + 1, 4, none⟩) HGE.out _).setCell (p := ⟨gs + 1, 5, none⟩) HGE.out _).setCell (p := ⟨gs + 1, 6, none⟩) HGE.out _⟩
        · have h2 : ov = 2 := by rcases HOV.out with e | e | e; exact absurd e h0; exact absurd e h1; exact e
          subst h2
          have HEND : Bx (RES = (2, v.c, 0, j + 1)) := ⟨HV2.out rfl⟩
          clear HR0 HR1 HV0 HV1 HV2 HGO HOV HRES HVI h0 h1
          obtain ⟨z0, f0⟩ := HSW5.out.zcell 0 (by omega)
          obtain ⟨z1, f1⟩ := HSW5.out.zcell 1 (by omega)
          obtain ⟨z2, f2⟩ := HSW5.out.zcell 2 (by omega)
          obtain ⟨z3, f3⟩ := HSW5.out.zcell 3 (by omega)
          obtain ⟨z4, f4⟩ := HSW5.out.zcell 4 (by omega)
          obtain ⟨z5, f5⟩ := HSW5.out.zcell 5 (by omega)
          obtain ⟨z6, f6⟩ := HSW5.out.zcell 6 (by omega)
          have y0 := cell_of_row _ gs 0 _ _ (0, 0) HSW5.out.sr
          have y1 := cell_of_row _ gs 1 _ _ (0, 0) HSW5.out.sr
          have y2 := cell_of_row _ gs 2 _ _ (0, 0) HSW5.out.sr
          have y3 := cell_of_row _ gs 3 _ _ (0, 0) HSW5.out.sr
          have HBL := Bx.mk HSW5.out.bl
          have HGE : Bx (w.heap.size ≤ gs + 1) := ⟨by have := HGS.out; omega⟩
          go_wp2_with fail
          exact bodyPost_ret (v := .agg #[.int .i64 2, .int .i64 s0, .int .i64 s1, .int .i64 s2, .int .i64 s3, .int .i64 0, .int .i64 ((j : Int) + 1)]) (by simp [results, Try.results59, go_sem, z0, z1, z2, z3, z4, z5, z6]) rfl ⟨by rw [HEND.out]; rfl, ((((((HBL.out.setCell (p := ⟨gs + 1, 0, none⟩) HGE.out _).setCell (p := ⟨gs + 1, 1, none⟩) HGE.out _).setCell (p := ⟨gs + 1, 2, none⟩) HGE.out _).setCell (p := ⟨gs + 1, 3, none⟩) HGE.out _).setCell (p := ⟨gs + 1, 4, none⟩) HGE.out _).setCell (p := ⟨gs + 1, 5, none⟩) HGE.out _).setCell (p := ⟨gs + 1, 6, none⟩) HGE.out _⟩
    · obtain rfl : j = m := by omega
      have hjI : ¬ (j : Int) < (j : Int) := by omega
      have HEND : Bx (RES = (3, v.c, 0, j)) := ⟨by rw [← HRES.out, Nat.sub_self]; rfl⟩
      obtain ⟨z0, f0⟩ := HSW.out.zcell 0 (by omega)
      obtain ⟨z1, f1⟩ := HSW.out.zcell 1 (by omega)
      obtain ⟨z2, f2⟩ := HSW.out.zcell 2 (by omega)
      obtain ⟨z3, f3⟩ := HSW.out.zcell 3 (by omega)
      obtain ⟨z4, f4⟩ := HSW.out.zcell 4 (by omega)
      obtain ⟨z5, f5⟩ := HSW.out.zcell 5 (by omega)
      obtain ⟨z6, f6⟩ := HSW.out.zcell 6 (by omega)
      have y0 := cell_of_row _ gs 0 _ _ (0, 0) HSW.out.sr
      have y1 := cell_of_row _ gs 1 _ _ (0, 0) HSW.out.sr
      have y2 := cell_of_row _ gs 2 _ _ (0, 0) HSW.out.sr
      have y3 := cell_of_row _ gs 3 _ _ (0, 0) HSW.out.sr
      have HBL := Bx.mk HSW.out.bl
      have HGE : Bx (w.heap.size ≤ gs + 1) := ⟨by have := HGS.out; omega⟩
      go_wp2_with fail
      exact bodyPost_ret (v := .agg #[.int .i64 3, .int .i64 s0, .int .i64 s1, .int .i64 s2, .int .i64 s3, .int .i64 0, .int .i64 (j : Int)]) (by simp [results, Try.results59, go_sem, z0, z1, z2, z3, z4, z5, z6]) rfl ⟨by rw [HEND.out]; rfl, ((((((HBL.out.setCell (p := ⟨gs + 1, 0, none⟩) HGE.out _).setCell (p := ⟨gs + 1, 1, none⟩) HGE.out _).setCell (p := ⟨gs + 1, 2, none⟩) HGE.out _).setCell (p := ⟨gs + 1, 3, none⟩) HGE.out _).setCell (p := ⟨gs + 1, 4, none⟩) HGE.out _).setCell (p := ⟨gs + 1, 5, none⟩) HGE.out _).setCell (p := ⟨gs + 1, 6, none⟩) HGE.out _⟩
end Go.Proofs.Ytbjeeefkbmdmfaa
