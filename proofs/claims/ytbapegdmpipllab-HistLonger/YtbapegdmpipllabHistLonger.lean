/- HistLonger: a beginning of a history is one, with the same operations, but for answers that come behind it. -/
import Derived.Test.YtbapegdmpipllabRows
import Derived.Test.YtbapegdmpipllabEvIn
import Derived.Test.YtbapegdmpipllabHLives
import Derived.Test.YtbapegdmpipllabLeast
import Derived.WalkKit
import Derived.ProofKit
import Derived.OpenShut
import Derived.ShutString
import Derived.ChangeOld
import Derived.Below
namespace Go.Proofs.Ytbapegdmpipllab.histLonger
open Go.ChangeShapes Go.WideShapes Go.ChangeAt Go.RowKit
open Go.ChangeMaps (open_string shut_string)
set_option linter.unusedVariables false

theorem own : ownKnob Try.prog.godebug = none := by kernel_rfl
theorem laidOut : laidOutB Try.prog = true := by kernel_rfl

theorem evs_size (w : World) : (Go.sizeOf (Try.prog.elem 22)).run Try.prog w = .ok 4 w := by kernel_rfl
theorem evs_under : Try.prog.underlying 22 = some (.slice (Try.prog.elem 22)) := by kernel_rfl
theorem ev_cut {w0 : World} {base n len cap : Nat} {a : Option Addr} {xs : List Value} (h : w0.ownsRow base 37 4 (.slice a len cap) n xs) (q : Nat) (hq : q ≤ cap) (w : World) : (Instr.sliceAt 22 (.slice a len cap) none (some (.int .i64 q)) none).run Try.prog w = .ok (.slice a q cap) w := by
  rw [run_sliceAt_slice w _ _ _ _ _ evs_under, run_slice_h w _ _ len cap evs_under .i64 q (by omega) (by omega), evs_size]
  rcases h.2 with ⟨h1, _⟩ | ⟨g, cap', cur, hv, _⟩
  · cases h1; simp [sliced]
  · cases hv; simp [sliced, Addr.add_lit]
/-- what there is to be shown of the operations -/
structure LgM (N : Nat) (O F : List Opr) : Prop where
  le : F.length ≤ O.length
  cut : ∀ i, i < F.length → cutO N (O.getD i op0) = F.getD i op0
  beh : F.length < O.length → (N : Int) ≤ (O.getD F.length op0).f
theorem lgm_of {L : List Ev} (h : His L) (N : Nat) (hN : N ≤ L.length) : LgM N (opsL L) (opsL (L.take N)) := by
  have h1 := ops_on h N hN
  have h2 := ops_inv h N hN
  have hc := cut_fin h2 (L.drop N)
  have hr := refO_from (L.drop N) N
  generalize opsL (L.take N) = F at *
  generalize refO (L.drop N) N = R at *
  rw [h1]
  refine ⟨by rw [List.length_append, List.length_map]; omega, fun i hi => ?_, fun hlt => ?_⟩
  · have e1 : (F.map (finO (L.drop N) N) ++ R).getD i op0 = finO (L.drop N) N (F.getD i op0) := by
      rw [List.getD_eq_getElem?_getD, List.getElem?_append_left (by rw [List.length_map]; exact hi), List.getElem?_map, List.getElem?_eq_getElem hi, List.getD_eq_getElem?_getD, List.getElem?_eq_getElem hi]; rfl
    rw [e1]
    apply hc
    rw [List.getD_eq_getElem?_getD, List.getElem?_eq_getElem hi]
    exact List.getElem_mem hi
  · rw [List.length_append, List.length_map] at hlt
    have hR : 0 < R.length := by omega
    have e1 : (F.map (finO (L.drop N) N) ++ R).getD F.length op0 = R[0] := by
      rw [List.getD_eq_getElem?_getD, List.getElem?_append_right (by rw [List.length_map]; exact Nat.le_refl _), List.length_map, Nat.sub_self, List.getElem?_eq_getElem hR]; rfl
    rw [e1]
    exact hr _ (List.getElem_mem hR)
theorem cutO_yes {N : Nat} {o : Opr} (h : (N : Int) ≤ o.t) : cutO N o = ⟨o.c, o.o, o.a, false, 0, o.f, -1⟩ := by unfold cutO; rw [if_pos h]
theorem cutO_no {N : Nat} {o : Opr} (h : ¬ (N : Int) ≤ o.t) : cutO N o = o := by unfold cutO; rw [if_neg h]

set_option maxRecDepth 100000 in
set_option maxHeartbeats 4000000 in
theorem walk (a0 : Option Addr) (len0 cap0 : Nat) (l : List Ev) (n : Int) (w : World) (hl : EvsI w a0 len0 cap0 l) (hn : I64 n) :
    Calls Try.prog 3 #[.slice a0 len0 cap0, .int .i64 n] w fun e w' => e = .returned (.bool true) ∧ Below w.heap.size w w' := by
  have HL := Bx.mk hl.1
  clear hl
  go_enter Try.func3, Try.ntmps3
  go_wp2_with fail
  refine (few14_any a0 len0 cap0 128 l _ HL.out (by decide) (by decide)).mono ?_
  rintro e w1 ⟨v1, rfl, ho1, hb1⟩
  obtain ⟨L, HLL⟩ : ∃ L, Bx (l.take 128 = L) := ⟨_, ⟨rfl⟩⟩
  rw [HLL.out] at ho1
  have hL128 : L.length ≤ 128 := by rw [← HLL.out, List.length_take]; omega
  obtain ⟨a2, c2, rfl, hE1⟩ := Ls.of_owns evC_len ho1 rfl
  have HOW := Bx.mk ho1
  have HE1 := Bx.mk hE1
  have HB1 := Bx.mk hb1
  have hlc := hE1.le_cap
  clear ho1 hE1 hb1
  go_wp2_with fail
  refine (least_any n 0 (L.length : Int) _).mono ?_
  rintro e w' ⟨rfl, rfl⟩
  have hbd := least_bd n 0 (L.length : Int) (by omega)
  obtain ⟨N, HN⟩ : ∃ N : Nat, Bx (leastV n 0 (L.length : Int) = (N : Int)) := ⟨(leastV n 0 (L.length : Int)).toNat, ⟨by omega⟩⟩
  rw [HN.out] at hbd ⊢
  have hNL : N ≤ L.length := by omega
  clear hbd HN
  go_wp2_with fail
  refine (ops_any a2 L.length c2 L _ HE1.out).mono ?_
  rintro e w3 ⟨v3, rfl, ho3, hb3⟩
  obtain ⟨a3, c3, rfl, hO3⟩ := Ls.of_owns orC_len ho3 rfl
  have HO3 := Bx.mk hO3
  have HE3 := Bx.mk (HE1.out.below hb3)
  have HB3 := Bx.mk (bstep HB1.out hb3)
  have hsl := ev_cut HOW.out N (by omega)
  clear ho3 hO3 hb3
  go_wp2_with fail
  refine (ops_any a2 N c2 (L.take N) _ (HE3.out.take N hNL)).mono ?_
  rintro e w4 ⟨v4, rfl, ho4, hb4⟩
  obtain ⟨a4, c4, rfl, hO4⟩ := Ls.of_owns orC_len ho4 rfl
  have HO4 := Bx.mk hO4
  have HO34 := Bx.mk (HO3.out.below hb4)
  have HE4 := Bx.mk (HE3.out.below hb4)
  have HB4 := Bx.mk (bstep HB3.out hb4)
  clear ho4 hO4 hb4 hsl
  by_cases hok : (chk L).2 = 0
  · have hok2 : (chk (L.take N)).2 = 0 := His.take (l := L) hok N
    have HM := Bx.mk (lgm_of (L := L) hok N hNL)
    have HO64 : Bx ((opsL L).length ≤ 64) := ⟨by rw [ops_len]; have := cOf_le L hok L.length (Nat.le_refl _); rwa [List.take_length] at this⟩
    rw [opV_ok hok2] at HO4 ⊢
    rw [opV_ok hok] at HO34 ⊢
    rw [hok, hok2]
    generalize opsL L = O at HM HO34 HO64 ⊢
    generalize opsL (L.take N) = F at HM HO4 ⊢
    have hle := HM.out.le
    have hO64 := HO64.out
    have hlI : ¬ ((O.length : Nat) : Int) < ((F.length : Nat) : Int) := by omega
    have hld : decide (O.length < F.length) = false := by simpa using hle
    clear hok hok2
    go_wp2_with fail
    go_loopw [11] (fun i wr => ∃ k : Nat, k ≤ F.length ∧ i = .int .i64 k ∧ Bx (Below w4.heap.size w4 wr)) (fun i _ => F.length - (intOf i).toNat)
    case atStart => exact ⟨0, Nat.zero_le _, rfl, ⟨Below.refl _ _⟩⟩
    case round =>
      obtain ⟨i, hiF, rfl, HBW⟩ := hrel
      by_cases hlt : i < F.length
      · have hkI : (i : Int) < ((F.length : Nat) : Int) := by omega
        have hkO : (i : Int) < ((O.length : Nat) : Int) := by omega
        have HCU := Bx.mk (HM.out.cut i hlt)
        obtain ⟨b, off, rfl, hbl, m0, m1, m2, m3, m4, m5, m6⟩ := (HO34.out.below HBW.out).or i (by omega)
        obtain ⟨b', off', rfl, hbl', x0, x1, x2, x3, x4, x5, x6⟩ := (HO4.out.below HBW.out).or i hlt
        generalize O.getD i op0 = q at m0 m1 m2 m3 m4 m5 m6 HCU
        generalize F.getD i op0 = f at x0 x1 x2 x3 x4 x5 x6 HCU
        obtain ⟨qc, qo, qa, qd, qr, qf, qt⟩ := q
        obtain ⟨fc, fo, fa, fd, fr, ff, ft⟩ := f
        simp only at m0 m1 m2 m3 m4 m5 m6 x0 x1 x2 x3 x4 x5 x6
        obtain ⟨g, HG⟩ : ∃ g, Bx (g = wr.heap.size) := ⟨_, ⟨rfl⟩⟩
        have hba : Below wr.heap.size wr (wr.alloc (.cells #[.int .i64 qc, .int .i64 qo, .int .i64 qa, .bool qd, .int .i64 qr, .int .i64 qf, .int .i64 qt] 33)) := (Below.refl _ _).alloc (Nat.le_refl _) _
        have hra := heap_alloc_new wr (.cells #[.int .i64 qc, .int .i64 qo, .int .i64 qa, .bool qd, .int .i64 qr, .int .i64 qf, .int .i64 qt] 33)
        rw [← HG.out] at hra
        have HRA := Bx.mk hra
        have HBA := Bx.mk hba
        have HNE : Bx (b' ≠ g ∧ wr.heap.size ≤ g) := ⟨⟨by rw [HG.out]; omega, by rw [HG.out]; exact Nat.le_refl _⟩⟩
        have HFX : Bx (∀ W : World, W.heap[b']? = wr.heap[b']? → W.cell? ⟨b', off' + i * 7, none⟩ = some (.int .i64 fc) ∧ W.cell? ⟨b', off' + i * 7 + 1, none⟩ = some (.int .i64 fo) ∧ W.cell? ⟨b', off' + i * 7 + 2, none⟩ = some (.int .i64 fa) ∧ W.cell? ⟨b', off' + i * 7 + 3, none⟩ = some (.bool fd) ∧ W.cell? ⟨b', off' + i * 7 + 4, none⟩ = some (.int .i64 fr) ∧ W.cell? ⟨b', off' + i * 7 + 5, none⟩ = some (.int .i64 ff) ∧ W.cell? ⟨b', off' + i * 7 + 6, none⟩ = some (.int .i64 ft)) := ⟨fun W hW => ⟨(World.cell?_of_block (w := wr) hW).trans x0, (World.cell?_of_block (w := wr) hW).trans x1, (World.cell?_of_block (w := wr) hW).trans x2, (World.cell?_of_block (w := wr) hW).trans x3, (World.cell?_of_block (w := wr) hW).trans x4, (World.cell?_of_block (w := wr) hW).trans x5, (World.cell?_of_block (w := wr) hW).trans x6⟩⟩
        have HBB : Bx ((wr.alloc (.cells #[.int .i64 qc, .int .i64 qo, .int .i64 qa, .bool qd, .int .i64 qr, .int .i64 qf, .int .i64 qt] 33)).heap[b']? = wr.heap[b']?) := ⟨hba.block b' hbl'⟩
        clear hba hra x0 x1 x2 x3 x4 x5 x6
        go_upto_region 14 with fail
        rw [← HG.out]
        generalize wr.alloc (.cells #[.int .i64 qc, .int .i64 qo, .int .i64 qa, .bool qd, .int .i64 qr, .int .i64 qf, .int .i64 qt] 33) = wa at HRA HBA HBB ⊢
        clear m0 m1 m2 m3 m4 m5 m6 hbl hbl'
        by_cases hqt : (N : Int) ≤ qt
        · have e6 := HCU.out
          rw [cutO_yes (o := ⟨qc, qo, qa, qd, qr, qf, qt⟩) hqt] at e6
          cases e6
          have j3 := cell_of_row _ g 3 _ _ (0, 0) HRA.out
          have j4 := cell_of_row _ g 4 _ _ (0, 0) HRA.out
          have j6 := cell_of_row _ g 6 _ _ (0, 0) HRA.out
          have f3 := frozen_of_row _ g 3 _ _ HRA.out
          have f4 := frozen_of_row _ g 4 _ _ HRA.out
          have f6 := frozen_of_row _ g 6 _ _ HRA.out
          have hrc := heap_setCell_same _ g 6 _ _ (.int .i64 (-1)) (heap_setCell_same _ g 4 _ _ (.int .i64 0) (heap_setCell_same wa g 3 _ _ (.bool false) HRA.out))
          have HRC := Bx.mk hrc
          have HBC : Bx (Below wr.heap.size wr (((wa.setCell ⟨g, 3, none⟩ (.bool false)).setCell ⟨g, 4, none⟩ (.int .i64 0)).setCell ⟨g, 6, none⟩ (.int .i64 (-1)))) := ⟨((HBA.out.setCell (p := ⟨g, 3, none⟩) HNE.out.2 _).setCell (p := ⟨g, 4, none⟩) HNE.out.2 _).setCell (p := ⟨g, 6, none⟩) HNE.out.2 _⟩
          have HBD : Bx ((((wa.setCell ⟨g, 3, none⟩ (.bool false)).setCell ⟨g, 4, none⟩ (.int .i64 0)).setCell ⟨g, 6, none⟩ (.int .i64 (-1))).heap[b']? = wr.heap[b']?) := ⟨by rw [heap_setCell_other _ ⟨g, 6, none⟩ b' _ HNE.out.1, heap_setCell_other _ ⟨g, 4, none⟩ b' _ HNE.out.1, heap_setCell_other _ ⟨g, 3, none⟩ b' _ HNE.out.1]; exact HBB.out⟩
          clear hrc
          go_upto_region 16 with fail
          generalize ((wa.setCell ⟨g, 3, none⟩ (.bool false)).setCell ⟨g, 4, none⟩ (.int .i64 0)).setCell ⟨g, 6, none⟩ (.int .i64 (-1)) = wc at HRC HBC HBD ⊢
          clear j3 j4 j6 f3 f4 f6
          obtain ⟨x0, x1, x2, x3, x4, x5, x6⟩ := HFX.out wc HBD.out
          have k0 : wc.cell? ⟨g, 0, none⟩ = some (.int .i64 qc) := cell_of_row _ g 0 _ _ (0, 0) HRC.out
          have k1 : wc.cell? ⟨g, 1, none⟩ = some (.int .i64 qo) := cell_of_row _ g 1 _ _ (0, 0) HRC.out
          have k2 : wc.cell? ⟨g, 2, none⟩ = some (.int .i64 qa) := cell_of_row _ g 2 _ _ (0, 0) HRC.out
          have k3 : wc.cell? ⟨g, 3, none⟩ = some (.bool false) := cell_of_row _ g 3 _ _ (0, 0) HRC.out
          have k4 : wc.cell? ⟨g, 4, none⟩ = some (.int .i64 0) := cell_of_row _ g 4 _ _ (0, 0) HRC.out
          have k5 : wc.cell? ⟨g, 5, none⟩ = some (.int .i64 qf) := cell_of_row _ g 5 _ _ (0, 0) HRC.out
          have k6 : wc.cell? ⟨g, 6, none⟩ = some (.int .i64 (-1)) := cell_of_row _ g 6 _ _ (0, 0) HRC.out
          obtain ⟨fc, fo, fa, ff, e1, e2, e3, e4⟩ : ∃ fc fo fa ff, fc = qc ∧ fo = qo ∧ fa = qa ∧ ff = qf := ⟨_, _, _, _, rfl, rfl, rfl, rfl⟩
          subst e1 e2 e3 e4
          obtain ⟨fd, ed⟩ : ∃ fd, fd = false := ⟨_, rfl⟩
          obtain ⟨fr, er⟩ : ∃ fr : Int, fr = 0 := ⟨_, rfl⟩
          obtain ⟨ft, et⟩ : ∃ ft : Int, ft = -1 := ⟨_, rfl⟩
          rw [← ed] at x3 k3
          rw [← er] at x4 k4
          rw [← et] at x6 k6
          clear ed er et
          -- the same: on to the next one
          have heq := op_eq fc fo fa fr ff ft fd
          go_wp2_with fail
          go_quiet (fail)
          have HB9 := Bx.mk (below_drewN HBC.out nq)
          generalize wc.drewN nq = w9 at HB9 ⊢
          clear k0 k1 k2 k3 k4 k5 k6 x0 x1 x2 x3 x4 x5 x6
          go_wp2_with fail
          go_roundw
          case rel => exact ⟨i + 1, by omega, by go_num, ⟨bstep HBW.out HB9.out⟩⟩
          case measure => simp [intOf]; omega
        · have e6 := HCU.out
          rw [cutO_no (o := ⟨qc, qo, qa, qd, qr, qf, qt⟩) hqt] at e6
          cases e6
          obtain ⟨x0, x1, x2, x3, x4, x5, x6⟩ := HFX.out wa HBB.out
          have k0 : wa.cell? ⟨g, 0, none⟩ = some (.int .i64 qc) := cell_of_row _ g 0 _ _ (0, 0) HRA.out
          have k1 : wa.cell? ⟨g, 1, none⟩ = some (.int .i64 qo) := cell_of_row _ g 1 _ _ (0, 0) HRA.out
          have k2 : wa.cell? ⟨g, 2, none⟩ = some (.int .i64 qa) := cell_of_row _ g 2 _ _ (0, 0) HRA.out
          have k3 : wa.cell? ⟨g, 3, none⟩ = some (.bool qd) := cell_of_row _ g 3 _ _ (0, 0) HRA.out
          have k4 : wa.cell? ⟨g, 4, none⟩ = some (.int .i64 qr) := cell_of_row _ g 4 _ _ (0, 0) HRA.out
          have k5 : wa.cell? ⟨g, 5, none⟩ = some (.int .i64 qf) := cell_of_row _ g 5 _ _ (0, 0) HRA.out
          have k6 : wa.cell? ⟨g, 6, none⟩ = some (.int .i64 qt) := cell_of_row _ g 6 _ _ (0, 0) HRA.out
          obtain ⟨fc, fo, fa, fd, fr, ff, ft, e1, e2, e3, e4, e5, e6, e7⟩ : ∃ fc fo fa fd fr ff ft, fc = qc ∧ fo = qo ∧ fa = qa ∧ fd = qd ∧ fr = qr ∧ ff = qf ∧ ft = qt := ⟨_, _, _, _, _, _, _, rfl, rfl, rfl, rfl, rfl, rfl, rfl⟩
          subst e1 e2 e3 e4 e5 e6 e7
          have HBC := HBA
          -- the same: on to the next one
          have heq := op_eq fc fo fa fr ff ft fd
          go_wp2_with fail
          go_quiet (fail)
          have HB9 := Bx.mk (below_drewN HBC.out nq)
          generalize wa.drewN nq = w9 at HB9 ⊢
          clear k0 k1 k2 k3 k4 k5 k6 x0 x1 x2 x3 x4 x5 x6
          go_wp2_with fail
          go_roundw
          case rel => exact ⟨i + 1, by omega, by go_num, ⟨bstep HBW.out HB9.out⟩⟩
          case measure => simp [intOf]; omega
      · obtain rfl : i = F.length := by omega
        have hkI : ¬ ((F.length : Nat) : Int) < ((F.length : Nat) : Int) := by omega
        have HB5 := Bx.mk (bstep HB4.out HBW.out)
        by_cases hfo : F.length = O.length
        · have hq : (((F.length : Nat) : Int) == ((O.length : Nat) : Int)) = true := by simp; omega
          obtain ⟨fl, HFL⟩ : ∃ fl, Bx (F.length = fl) := ⟨_, ⟨rfl⟩⟩
          obtain ⟨ol, HOL⟩ : ∃ ol, Bx (O.length = ol) := ⟨_, ⟨rfl⟩⟩
          rw [HFL.out] at hq hkI ⊢
          rw [HOL.out] at hq ⊢
          clear hfo hle hlI hld hO64
          go_wp2_with fail
          refine (lives14_any _).mono ?_
          rintro e w9 ⟨rfl, hb9⟩
          have hfin := bstep HB5.out hb9
          go_wp2_with fail
          go_ret
          exact ⟨rfl, hfin⟩
        · have hq : (((F.length : Nat) : Int) == ((O.length : Nat) : Int)) = false := by simp; omega
          have hlt2 : F.length < O.length := by omega
          have hltI : ((F.length : Nat) : Int) < ((O.length : Nat) : Int) := by omega
          have hbeh := HM.out.beh hlt2
          obtain ⟨b, off, rfl, hbl, _, _, _, _, _, m5, _⟩ := (HO34.out.below HBW.out).or F.length hlt2
          generalize (O.getD F.length op0).f = qf at m5 hbeh
          go_wp2_with fail
          refine (lives14_any _).mono ?_
          rintro e w9 ⟨rfl, hb9⟩
          have hfin := bstep HB5.out hb9
          go_wp2_with fail
          go_ret
          exact ⟨rfl, hfin⟩
  · have HCB := Bx.mk (chk_begin (l := L) hok N hNL)
    have hq : ((chk L).2 != 0) = true := by simpa using hok
    generalize (chk L).2 = ce at hq
    clear hok
    go_wp2_with fail
    refine (check_any a2 L.length c2 L _ HE4.out).mono ?_
    rintro e w5 ⟨rfl, hb5⟩
    have HB5 := Bx.mk (bstep HB4.out hb5)
    clear hb5
    generalize (chk L).1 = p at HCB ⊢
    generalize (chk L).2 = ce2
    generalize (chk (L.take N)).2 = fe at HCB ⊢
    by_cases hp : p < N
    · have hpI : (p : Int) < (N : Int) := by omega
      have hfe : (fe != 0) = true := by simpa using HCB.out.1 hp
      clear hp
      go_wp2_with fail
      refine (lives14_any _).mono ?_
      rintro e w9 ⟨rfl, hb9⟩
      have hfin := bstep HB5.out hb9
      go_wp2_with fail
      go_ret
      exact ⟨rfl, hfin⟩
    · have hpI : ¬ (p : Int) < (N : Int) := by omega
      have hpd : decide (p < N) = false := by simpa using hp
      have hfe : fe = 0 := Classical.byContradiction fun h => hp (HCB.out.2 h)
      subst hfe
      clear hp
      go_wp2_with fail
      refine (lives14_any _).mono ?_
      rintro e w9 ⟨rfl, hb9⟩
      have hfin := bstep HB5.out hb9
      go_wp2_with fail
      go_ret
      exact ⟨rfl, hfin⟩

set_option maxRecDepth 100000 in
theorem lifted (os : Os) (started : os.Started) (H : Type) (enc : TypeId × Value → H) :
    ReturnsInHanded {} Try.checked os 3 .any (Rows.histLongerSpec.pre6 enc Try.prog Try.f3 Rows.histLongerRow.domain false) (Rows.histLongerSpec.post enc Try.prog Try.f3 false true false false) := by
  refine returnsInHanded_of_change (C := Try.checked) own started (by kernel_rfl) Try.func3
    (ChangeSpec.witness6 (enc := enc) (C := Try.checked) false ⟨#[], #[.slice none 0 0, .int .i64 0], []⟩ 8 (by kernel_rfl) (by kernel_rfl) (by kernel_rfl) (by kernel_rfl)) ?_
  intro W base args ds gs before hval0 hW hcnd _
  have hval : ∀ (j : Nat) t v, Try.f3.params[j]? = some t → args[j]? = some v → Value.okWide Try.prog W .any base t v := hval0
  have hW' := hW
  obtain ⟨p, q, hA0, hV, rfl, hfz, hnd⟩ := hW
  have hA : DataW.TrodAll enc Try.prog W 0 (fun _ => true) true Try.f3.params.toList args.toList ds p := hA0
  rw [Try.params3] at hA hval
  obtain ⟨v0, vs0, d0, ds0, p0, q0, hargs, rfl, rfl, h0, r0⟩ := trodAll_cons hA
  obtain ⟨v1, vs1, d1, ds1, p1, q1, rfl, rfl, rfl, h1, r1⟩ := trodAll_cons r0
  obtain ⟨rfl, rfl, rfl⟩ := trodAll_nil r1
  obtain rfl : args = #[v0, v1] := by cases args; simp_all
  obtain ⟨rfl, rfl⟩ := trodVars_none hV
  obtain ⟨a0, len0, cap0, rfl⟩ := okWide_slice Try.underlying22 (hval 0 22 v0 rfl rfl)
  have k0 := h0
  have lt0 : ∀ x ∈ p0, x.block < W.heap.size := by obtain ⟨m, hm⟩ := k0; exact DataW.trod_lt m _ _ _ hm
  have k1 := h1
  have lt1 : ∀ x ∈ p1, x.block < W.heap.size := by obtain ⟨m, hm⟩ := k1; exact DataW.trod_lt m _ _ _ hm
  obtain ⟨l, hl⟩ := open_evs h0
  obtain ⟨n, rfl, hn⟩ := open_i64 (hval 1 3 v1 rfl rfl) h1
  clear hA0 hval0
  refine (walk a0 len0 cap0 l n W hl hn).mono fun e W' ⟨he, bel⟩ => ?_
  subst he
  exact ⟨_, rfl, _, _, _, [], _, [], hW', trodAll_mk1 (shut_bool Try.underlying4 _), (trodAll_cons_mk (Below.trod laidOut (by kernel_rfl) (of_decide_eq_true (by kernel_rfl)) k0 bel lt0) (trodAll_cons_mk (Below.trod laidOut (by kernel_rfl) (of_decide_eq_true (by kernel_rfl)) k1 bel lt1) trodAll_mk0)), rfl, bel.frame _, fun h => by cases h⟩

theorem over : Rows.histLongerRow.holds Try.pinned (OpenSpec.ofChange Rows.histLongerSpec) :=
  OpenClaim.holds_of_wide 3 Try.f3 rfl rfl rfl rfl rfl rfl rfl ⟨rfl, rfl, rfl, rfl, rfl⟩ rfl rfl rfl rfl rfl (by kernel_rfl) Try.func3 (by kernel_rfl)
    (of_decide_eq_true (by kernel_rfl)) (by unfold Func.isWrapper; first | (rw [if_pos (by decide +kernel)]; kernel_rfl) | (rw [if_neg (by decide +kernel)]; exact ⟨rfl, rfl⟩))
    (fun os started H enc _ => lifted os started H enc)

/-- the statement -/
theorem proved : Rows.HistLongerSaid := over
end Go.Proofs.Ytbapegdmpipllab.histLonger
namespace Go.Proofs.Ytbapegdmpipllab
theorem histLonger_holds : Rows.HistLongerSaid := histLonger.proved
#print axioms histLonger_holds
end Go.Proofs.Ytbapegdmpipllab
