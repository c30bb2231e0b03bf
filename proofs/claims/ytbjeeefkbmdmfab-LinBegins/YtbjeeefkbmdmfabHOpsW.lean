/- What Ops answers. -/
import Derived.Test.YtbjeeefkbmdmfabHCheck
import Derived.Test.YtbjeeefkbmdmfabLnh
import Derived.Test.YtbjeeefkbmdmfabHOpsM
import Derived.Deep.CutRange
namespace Go.Proofs.Ytbjeeefkbmdmfab
open Go.RowKit
set_option linter.unusedVariables false

/-- what Ops answers: the operations, and why there are none -/
def opV (l : List Ev) : List Opr := if (chk l).2 = 0 then opsL l else []
set_option maxRecDepth 100000 in
theorem opV_ok {l : List Ev} (h : (chk l).2 = 0) : opV l = opsL l := by unfold opV; rw [if_pos h]
set_option maxRecDepth 100000 in
theorem opV_no {l : List Ev} (h : (chk l).2 ≠ 0) : opV l = [] := by unfold opV; rw [if_neg h]
set_option maxHeartbeats 4000000 in
set_option maxRecDepth 100000 in
theorem ops_any (a : Option Addr) (len cap : Nat) (l : List Ev) (w : World) (h : Evs w a len cap l) :
    Calls Try.prog 8 #[.slice a len cap] w fun e w' => ∃ v, e = .returned (.tuple #[v, .int .i64 (chk l).2]) ∧ w'.ownsRow w.heap.size 56 7 v (opV l).length ((opV l).flatMap orC) ∧ Below w.heap.size w w' := by
  have H := Bx.mk h
  have HLEN : Bx (l.length = len) := ⟨h.len_eq⟩
  have hm := Nat.le_trans h.le_cap h.cap_le
  unfold maxLen at hm
  obtain ⟨i0, hi, hz0, hz1, hz2⟩ := info_parts Try.infoO
  clear h
  by_cases hok : (chk l).2 = 0
  · have HIS : Bx (His l) := ⟨hok⟩
    have hq : ((chk l).2 != 0) = false := by simpa using hok
    rw [opV_ok hok, hok]
    go_enter Try.func8, Try.ntmps8
    go_wp2_with fail
    refine (check_any a len cap l _ H.out).mono ?_
    rintro e w1 ⟨rfl, hb1⟩
    have HB1 := Bx.mk hb1
    clear hb1
    rw [hok]
    obtain ⟨gw, HGW⟩ : ∃ gw, Bx (gw = w1.heap.size) := ⟨_, ⟨rfl⟩⟩
    have HW2 := Bx.mk (wi_new w1)
    rw [← HGW.out] at HW2
    have HB2 : Bx (Below w.heap.size w (w1.alloc (.cells #[.int .i64 0, .int .i64 0, .int .i64 0, .int .i64 0, .int .i64 0, .int .i64 0, .int .i64 0, .int .i64 0, .int .i64 0, .int .i64 0, .int .i64 0, .int .i64 0, .int .i64 0, .int .i64 0, .int .i64 0, .int .i64 0] 52))) := ⟨bstep HB1.out ((Below.refl _ _).alloc (Nat.le_refl _) _)⟩
    have hgw : w.heap.size ≤ gw := by rw [HGW.out]; exact HB1.out.size
    clear hok HB1
    go_wp2_with fail
    rw [← HGW.out]
    generalize w1.alloc (.cells #[.int .i64 0, .int .i64 0, .int .i64 0, .int .i64 0, .int .i64 0, .int .i64 0, .int .i64 0, .int .i64 0, .int .i64 0, .int .i64 0, .int .i64 0, .int .i64 0, .int .i64 0, .int .i64 0, .int .i64 0, .int .i64 0] 52) = w2 at HW2 HB2 ⊢
    obtain ⟨N, HN⟩ : ∃ N, Bx (N = w2.heap.size) := ⟨_, ⟨rfl⟩⟩
    have hgn : gw < N := by rw [HN.out]; exact HW2.out.lt
    clear HGW hq
    go_loopw [6, 21] (fun v i wr => ∃ m : Nat, m ≤ len ∧ i = .int .i64 m ∧ ∃ f : Nat → Int, Bx (wr.ownsRow N 56 7 v (opsL (l.take m)).length ((opsL (l.take m)).flatMap orC)) ∧ Bx (WI wr gw f) ∧ Bx (WtI l m (opsL (l.take m)) f) ∧ Bx (Below w.heap.size w wr) ∧ Bx (N ≤ wr.heap.size)) (fun _ i _ => len - (intOf i).toNat)
    case atStart => exact ⟨0, Nat.zero_le _, rfl, fun _ => 0, ⟨World.ownsRow_nil _ _ _ _⟩, HW2, ⟨fun c _ hc => by cases hc⟩, HB2, ⟨by rw [HN.out]; exact Nat.le_refl _⟩⟩
    case round =>
      clear HW2 HB2 HN
      obtain ⟨m, hml, rfl, f, HOW, HWI, HWT, HB, HNS⟩ := hrel
      obtain ⟨vO, hvO⟩ : ∃ x, x = u6 := ⟨_, rfl⟩
      subst hvO
      by_cases hlt : m < len
      · have hkI : (m : Int) < (len : Int) := by omega
        have hmL : m < l.length := by rw [HLEN.out]; exact hlt
        obtain ⟨b, off, rfl, hbl, x0, x1, x2, x3⟩ := (H.out.below HB.out).ev m hlt
        have HZ := Bx.mk (stpE_zero (HIS.out.err m hmL))
        have HSN : Bx (opsL (l.take (m + 1)) = stpO (opsL (l.take m)) m (l.getD m ev0)) := ⟨opsL_snoc l m hmL⟩
        have HO1 : Bx (∀ c, opC (opsL (l.take m)) c ≤ 1) := ⟨fun c => by rw [(ops_inv HIS.out m (by rw [HLEN.out]; omega)).wai c]; split <;> omega⟩
        have hO64 : (opsL (l.take m)).length ≤ 64 := by rw [ops_len]; exact cOf_le l HIS.out m (by rw [HLEN.out]; omega)
        obtain ⟨x, HX⟩ : ∃ x, Bx (l.getD m ev0 = x) := ⟨_, ⟨rfl⟩⟩
        rw [HX.out] at x0 x1 x2 x3 HZ HSN
        obtain ⟨O, HO⟩ : ∃ O, Bx (opsL (l.take m) = O) := ⟨_, ⟨rfl⟩⟩
        rw [HO.out] at HOW HWT HSN HO1 hO64
        obtain ⟨c, k, o, v⟩ := x
        have hc16 := ((canE_iff _).1 HZ.out.1).1
        simp only at x0 x1 x2 x3 hc16
        obtain ⟨c, rfl⟩ : ∃ n : Nat, c = n := ⟨c.toNat, by omega⟩
        have hc : c < 16 := by omega
        have hcJ : (c : Int) < 16 := by omega
        clear hc16
        obtain ⟨g9, HG9⟩ : ∃ g9, Bx (g9 = wr.heap.size) := ⟨_, ⟨rfl⟩⟩
        have hba : Below wr.heap.size wr (wr.alloc (.cells #[.int .i64 c, .bool k, .int .i64 o, .int .i64 v] 54)) := (Below.refl _ _).alloc (Nat.le_refl _) _
        have hra := heap_alloc_new wr (.cells #[.int .i64 c, .bool k, .int .i64 o, .int .i64 v] 54)
        rw [← HG9.out] at hra
        have HRA := Bx.mk hra
        have HWI1 := Bx.mk (HWI.out.below hba)
        have HOW1 := Bx.mk (owns_below HOW.out hba)
        have HB1 := Bx.mk (bstep HB.out hba)
        have HNS1 : Bx (N ≤ (wr.alloc (.cells #[.int .i64 c, .bool k, .int .i64 o, .int .i64 v] 54)).heap.size) := ⟨Nat.le_trans HNS.out hba.size⟩
        have HGL : Bx (g9 ≠ gw ∧ N ≤ g9 ∧ ∀ j, vO.ownBlock = some j → j ≠ g9) := ⟨⟨by have := HWI.out.lt; have := HG9.out; omega, by rw [HG9.out]; exact HNS.out, fun j hj => by have := (HOW.out.lt j hj).2; have := HG9.out; omega⟩⟩
        cases k with
        | true =>
          clear hba hra HOW HWI HB HNS
          go_upto_region 10 with fail
          rw [← HG9.out]
          generalize wr.alloc (.cells #[.int .i64 c, .bool true, .int .i64 o, .int .i64 v] 54) = wa at HRA HWI1 HOW1 HB1 HNS1 ⊢
          obtain ⟨z0, z1⟩ := HWI1.out.cell c hc
          have y0 := cell_of_row _ g9 0 _ _ (0, 0) HRA.out
          obtain ⟨aO, cO, rfl⟩ : ∃ aO cO, vO = .slice aO O.length cO := by
            obtain ⟨aO, cO, e, _⟩ := Ls.of_owns orC_len HOW1.out rfl
            exact ⟨aO, cO, e⟩
          have HRA2 : Bx ((wa.setCell ⟨gw, c, none⟩ (.int .i64 O.length)).heap[g9]? = _) := ⟨(heap_setCell_other wa ⟨gw, c, none⟩ g9 _ HGL.out.1).trans HRA.out⟩
          have HWI2 := Bx.mk (HWI1.out.set c hc O.length)
          have HOW2 : Bx ((wa.setCell ⟨gw, c, none⟩ (.int .i64 O.length)).ownsRow N 56 7 (.slice aO O.length cO) O.length (O.flatMap orC)) := ⟨ownsRow_setCell_below HOW1.out (a := ⟨gw, c, none⟩) hgn _⟩
          have HB2 : Bx (Below w.heap.size w (wa.setCell ⟨gw, c, none⟩ (.int .i64 O.length))) := ⟨HB1.out.setCell (p := ⟨gw, c, none⟩) hgw _⟩
          have HNS2 : Bx (N ≤ (wa.setCell ⟨gw, c, none⟩ (.int .i64 O.length)).heap.size) := ⟨by simpa [World.setCell] using HNS1.out⟩
          clear HWI1 HOW1 HB1 HNS1
          go_upto_region 11 with fail
          clear z0 z1 y0 HRA
          generalize wa.setCell ⟨gw, c, none⟩ (.int .i64 O.length) = ws at HRA2 HWI2 HOW2 HB2 HNS2 ⊢
          have y0 := cell_of_row _ g9 0 _ _ (0, 0) HRA2.out
          have y2 := cell_of_row _ g9 2 _ _ (0, 0) HRA2.out
          have y3 := cell_of_row _ g9 3 _ _ (0, 0) HRA2.out
          have HAP : Bx (opsL (l.take (m + 1)) = O ++ [newO ⟨c, true, o, v⟩ m]) := ⟨by rw [HSN.out]; rfl⟩
          have HFM : Bx (O.flatMap orC ++ [.int .i64 c, .int .i64 o, .int .i64 v, .bool false, .int .i64 0, .int .i64 m, .int .i64 (-1)] = (O ++ [newO ⟨c, true, o, v⟩ m]).flatMap orC) := ⟨by rw [List.flatMap_append]; rfl⟩
          have HWT2 : Bx (WtI l (m + 1) (O ++ [newO ⟨c, true, o, v⟩ m]) (fun d => if d = c then (O.length : Int) else f d)) := ⟨HWT.out.call hmL HX.out (fun d => rfl)⟩
          have HNW := Bx.mk (World.news_of_block (heap_alloc_new ws (.cells #[.int .i64 c, .int .i64 o, .int .i64 v, .bool false, .int .i64 0, .int .i64 m, .int .i64 (-1)] 56)))
          have HOA := Bx.mk (HOW2.out.alloc (.cells #[.int .i64 c, .int .i64 o, .int .i64 v, .bool false, .int .i64 0, .int .i64 m, .int .i64 (-1)] 56))
          have hbA : Below ws.heap.size ws (ws.alloc (.cells #[.int .i64 c, .int .i64 o, .int .i64 v, .bool false, .int .i64 0, .int .i64 m, .int .i64 (-1)] 56)) := (Below.refl _ _).alloc (Nat.le_refl _) _
          have HWA := Bx.mk (HWI2.out.below hbA)
          have HBA := Bx.mk (bstep HB2.out hbA)
          have HNA := Bx.mk (Nat.le_trans HNS2.out hbA.size)
          have HVB : Bx (∀ j, (Value.slice aO O.length cO).ownBlock = some j → N ≤ j) := ⟨fun j hj => (HOW2.out.lt j hj).1⟩
          clear hbA HWI2 HB2 HOW2 HNS2 HRA2
          go_wp2_with (at_builtin; refine wpList_append_own _ rfl _ _ 27 rfl N 56 i0 (.agg #[.int .i64 0, .int .i64 0, .int .i64 0, .bool false, .int .i64 0, .int .i64 0, .int .i64 0]) 7 56 Try.underlying27 hi hz0 hz1 hz2 rfl (by decide) _ O.length (O.flatMap orC) rfl HOA.out ⟨ws.heap.size, 0, none⟩ 1 1 [.int .i64 c, .int .i64 o, .int .i64 v, .bool false, .int .i64 0, .int .i64 m, .int .i64 (-1)] rfl rfl HNW.out (by simp [Value.oneCell']) (by unfold maxLen; omega) (by omega) HNA.out ?_)
          intro v4 w4 hown4 hgr4 _
          rw [HFM.out] at hown4
          have HO4 : Bx (w4.ownsRow N 56 7 v4 (opsL (l.take (m + 1))).length ((opsL (l.take (m + 1))).flatMap orC)) := ⟨by rw [HAP.out, List.length_append]; exact hown4⟩
          have HW4 : Bx (WI w4 gw (fun d => if d = c then (O.length : Int) else f d)) := ⟨HWA.out.keep (hgr4.block gw HWA.out.lt (fun e => by have := HVB.out gw e.symm; omega))⟩
          have HB4 : Bx (Below w.heap.size w w4) := ⟨HBA.out.grown hgr4 HBA.out.size (fun j hj => by have := HVB.out j hj; omega)⟩
          have HN4 : Bx (N ≤ w4.heap.size) := ⟨Nat.le_trans HNA.out hgr4.size⟩
          rw [← HAP.out] at HWT2
          clear hown4 hgr4 HNW HOA HWA HBA HNA HFM
          go_wp2_with fail
          go_roundw
          case rel => exact ⟨m + 1, by omega, by go_num, _, HO4, HW4, HWT2, HB4, HN4⟩
          case measure => simp [intOf]; omega
        | false =>
          have hwt : wOf (l.take m) c = true := by
            cases hwx : wOf (l.take m) c with
            | true => rfl
            | false => exact absurd hwx.symm HZ.out.2.2
          obtain ⟨j, hj, hfj, hjc, hjd⟩ := HWT.out c hc hwt
          have HST : Bx (opsL (l.take (m + 1)) = O.set j (endO (O.getD j op0) v m)) := ⟨by rw [HSN.out]; exact set_one (x := ⟨c, false, o, v⟩) hj hjc hjd (HO1.out _)⟩
          have HWT2 : Bx (WtI l (m + 1) (O.set j (endO (O.getD j op0) v m)) f) := ⟨HWT.out.ans hmL HX.out hj hjc _⟩
          obtain ⟨gO, cO, rfl, hgO, _⟩ := owns_form HOW1.out (by omega)
          have HST1 := Bx.mk (fun (W : World) (hW : W.ownsRow N 56 7 (.slice (some ⟨gO, 0, none⟩) O.length cO) O.length (O.flatMap orC)) => ((hW.stored (j * 7 + 3) (.bool true)).1.stored (j * 7 + 4) (.int .i64 v)).1.stored (j * 7 + 6) (.int .i64 m))
          clear hwt hjc hjd hba hra HOW HWI HB HNS
          go_upto_region 12 with fail
          rw [← HG9.out]
          generalize wr.alloc (.cells #[.int .i64 c, .bool false, .int .i64 o, .int .i64 v] 54) = wa at HRA HWI1 HOW1 HB1 HNS1 ⊢
          obtain ⟨z0, z1⟩ := HWI1.out.cell c hc
          rw [hfj] at z0
          have y0 := cell_of_row _ g9 0 _ _ (0, 0) HRA.out
          have y3 := cell_of_row _ g9 3 _ _ (0, 0) HRA.out
          have hjI : (j : Int) < (O.length : Int) := by omega
          clear hfj
          have k3 : wa.cell? ⟨gO, j * 7 + 3, none⟩ = some (.bool (O.getD j op0).d) := by
            rw [HOW1.out.cellAt (j * 7 + 3) (by omega), flatE_get orC_len O j 3 hj (by decide), List.getD_eq_getElem?_getD, List.getElem?_eq_getElem hj]; rfl
          have k4 : wa.cell? ⟨gO, j * 7 + 4, none⟩ = some (.int .i64 (O.getD j op0).r) := by
            rw [HOW1.out.cellAt (j * 7 + 4) (by omega), flatE_get orC_len O j 4 hj (by decide), List.getD_eq_getElem?_getD, List.getElem?_eq_getElem hj]; rfl
          have k6 : wa.cell? ⟨gO, j * 7 + 6, none⟩ = some (.int .i64 (O.getD j op0).t) := by
            rw [HOW1.out.cellAt (j * 7 + 6) (by omega), flatE_get orC_len O j 6 hj (by decide), List.getD_eq_getElem?_getD, List.getElem?_eq_getElem hj]; rfl
          have f3 := HOW1.out.frozenAt (j * 7 + 3)
          have f4 := HOW1.out.frozenAt (j * 7 + 4)
          have f6 := HOW1.out.frozenAt (j * 7 + 6)
          generalize (O.getD j op0).d = od at k3
          generalize (O.getD j op0).r = oor at k4
          generalize (O.getD j op0).t = ot at k6
          have n1 : (wa.setCell ⟨gO, j * 7 + 3, none⟩ (.bool true)).cell? ⟨g9, 3, none⟩ = some (.int .i64 v) := by
            rw [World.cell?_of_block (a := ⟨g9, 3, none⟩) (heap_setCell_other wa ⟨gO, j * 7 + 3, none⟩ g9 _ (fun e => HGL.out.2.2 gO rfl e.symm))]
            exact y3
          go_upto_region 13 with fail
          go_region
          have ho4 := (HST1.out wa HOW1.out).1
          rw [ors_set O j v m hj, ← HST.out] at ho4
          have HL4 : Bx ((opsL (l.take (m + 1))).length = O.length) := ⟨by rw [HST.out, List.length_set]⟩
          rw [← HST.out] at HWT2
          have HO4 : Bx ((((wa.setCell ⟨gO, j * 7 + 3, none⟩ (.bool true)).setCell ⟨gO, j * 7 + 4, none⟩ (.int .i64 v)).setCell ⟨gO, j * 7 + 6, none⟩ (.int .i64 m)).drew.ownsRow N 56 7 (.slice (some ⟨gO, 0, none⟩) O.length cO) (opsL (l.take (m + 1))).length ((opsL (l.take (m + 1))).flatMap orC)) := ⟨by rw [HL4.out]; exact ho4.drew⟩
          have HWI4 : Bx (WI ((wa.setCell ⟨gO, j * 7 + 3, none⟩ (.bool true)).setCell ⟨gO, j * 7 + 4, none⟩ (.int .i64 v) |>.setCell ⟨gO, j * 7 + 6, none⟩ (.int .i64 m)).drew gw f) := ⟨HWI1.out.keep (by
            show (((wa.setCell ⟨gO, j * 7 + 3, none⟩ (.bool true)).setCell ⟨gO, j * 7 + 4, none⟩ (.int .i64 v)).setCell ⟨gO, j * 7 + 6, none⟩ (.int .i64 m)).heap[gw]? = _
            have hgg : gw ≠ gO := by omega
            rw [heap_setCell_other _ ⟨gO, j * 7 + 6, none⟩ gw _ hgg, heap_setCell_other _ ⟨gO, j * 7 + 4, none⟩ gw _ hgg, heap_setCell_other _ ⟨gO, j * 7 + 3, none⟩ gw _ hgg])⟩
          have HB4 : Bx (Below w.heap.size w (((wa.setCell ⟨gO, j * 7 + 3, none⟩ (.bool true)).setCell ⟨gO, j * 7 + 4, none⟩ (.int .i64 v)).setCell ⟨gO, j * 7 + 6, none⟩ (.int .i64 m)).drew) := ⟨by
            have hgg : w.heap.size ≤ gO := by omega
            exact (((HB1.out.setCell (p := ⟨gO, j * 7 + 3, none⟩) hgg _).setCell (p := ⟨gO, j * 7 + 4, none⟩) hgg _).setCell (p := ⟨gO, j * 7 + 6, none⟩) hgg _).drew⟩
          have HN4 : Bx (N ≤ (((wa.setCell ⟨gO, j * 7 + 3, none⟩ (.bool true)).setCell ⟨gO, j * 7 + 4, none⟩ (.int .i64 v)).setCell ⟨gO, j * 7 + 6, none⟩ (.int .i64 m)).drew.heap.size) := ⟨by
            show N ≤ (((wa.setCell ⟨gO, j * 7 + 3, none⟩ (.bool true)).setCell ⟨gO, j * 7 + 4, none⟩ (.int .i64 v)).setCell ⟨gO, j * 7 + 6, none⟩ (.int .i64 m)).heap.size
            simpa [World.setCell] using HNS1.out⟩
          generalize (((wa.setCell ⟨gO, j * 7 + 3, none⟩ (.bool true)).setCell ⟨gO, j * 7 + 4, none⟩ (.int .i64 v)).setCell ⟨gO, j * 7 + 6, none⟩ (.int .i64 m)).drew = w4 at HO4 HWI4 HB4 HN4 ⊢
          clear ho4 n1 k3 k4 k6 f3 f4 f6 HST1 HOW1 HWI1 HB1 HNS1 z0 z1 y0 y3 HRA
          go_wp2_with fail
          go_roundw
          case rel => exact ⟨m + 1, by omega, by go_num, f, HO4, HWI4, HWT2, HB4, HN4⟩
          case measure => simp [intOf]; omega
      · have hkI : ¬ (m : Int) < (len : Int) := by omega
        obtain rfl : m = len := by omega
        have HF : Bx (opsL (l.take m) = opsL l) := ⟨by rw [List.take_of_length_le (by rw [HLEN.out]; omega)]⟩
        have HR := Bx.mk (owns_base HOW.out (show w.heap.size ≤ N by omega))
        rw [HF.out] at HR
        go_wp2_with fail
        go_ret2
        exact ⟨_, rfl, HR.out, HB.out⟩
  · have hq : ((chk l).2 != 0) = true := by simpa using hok
    rw [opV_no hok]
    go_enter Try.func8, Try.ntmps8
    go_wp2_with fail
    refine (check_any a len cap l _ H.out).mono ?_
    rintro e w1 ⟨rfl, hb1⟩
    have HB1 := Bx.mk hb1
    clear hb1
    go_wp2_with fail
    go_ret2
    exact ⟨_, rfl, World.ownsRow_nil _ _ _ _, HB1.out⟩
end Go.Proofs.Ytbjeeefkbmdmfab
