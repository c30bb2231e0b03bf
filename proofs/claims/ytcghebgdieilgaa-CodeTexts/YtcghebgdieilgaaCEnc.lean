/- What Encode answers. -/
import Derived.Test.YtcghebgdieilgaaCMeas
import Derived.Test.YtcghebgdieilgaaCodeText
import Derived.Test.YtcghebgdieilgaaInsIn
import Derived.Test.YtcghebgdieilgaaVar
import Derived.Test.YtcghebgdieilgaaZig
import Derived.Test.YtcghebgdieilgaaAppBts
namespace Go.Proofs.Ytcghebgdieilgaa
open Go.RowKit
set_option linter.unusedVariables false

/-- what Encode answers -/
def enK (l : List Ic) : List Int := if (thr l).2.2 = 0 then cdL l else []
set_option maxRecDepth 100000 in
theorem enK_ok {l : List Ic} (h : (thr l).2.2 = 0) : enK l = cdL l := by unfold enK; rw [if_pos h]
set_option maxRecDepth 100000 in
theorem enK_no {l : List Ic} (h : (thr l).2.2 ≠ 0) : enK l = [] := by unfold enK; rw [if_neg h]
set_option maxRecDepth 100000 in
theorem take_ic (l : List Ic) (m : Nat) (h : m < l.length) : l.take (m + 1) = l.take m ++ [l.getD m ic0] := by
  rw [List.take_succ_eq_append_getElem h, List.getD_eq_getElem?_getD, List.getElem?_eq_getElem h]; rfl
set_option maxRecDepth 100000 in
theorem sqW_snoc (l : List Ic) (m : Nat) (h : m < l.length) : sqW icL (l.take (m + 1)) = sqW icL (l.take m) ++ icL (l.getD m ic0) := by
  rw [take_ic l m h, sqW_append]
  show _ ++ (icL _ ++ []) = _
  rw [List.append_nil]
set_option maxRecDepth 100000 in
theorem IcsK.get {L : List Ic} (h : IcsK L) (i : Nat) (hi : i < L.length) : V64 (L.getD i ic0).n := by
  rw [List.getD_eq_getElem?_getD, List.getElem?_eq_getElem hi]; exact h _ (List.getElem_mem hi)
set_option maxHeartbeats 4000000 in
set_option maxRecDepth 100000 in
theorem encode15_any (a : Option Addr) (len cap : Nat) (l : List Ic) (w : World) (h : Ics w a len cap l) (hk : IcsK l) :
    Calls Try.prog 22 #[.slice a len cap] w fun e w' => ∃ v, e = .returned (.tuple #[v, .int .i64 (thr l).2.2]) ∧ w'.ownsRow w.heap.size 5 1 v (enK l).length (bv (enK l)) ∧ Below w.heap.size w w' := by
  have H := Bx.mk h
  have HK := Bx.mk hk
  have HLEN : Bx (l.length = len) := ⟨h.len_eq⟩
  have hm := Nat.le_trans h.le_cap h.cap_le
  unfold maxLen at hm
  obtain ⟨i0, hi, hz0, hz1, hz2⟩ := info_parts Try.info5
  clear h hk
  by_cases hok : (thr l).2.2 = 0
  · have HFL := Bx.mk (thr_flow hok)
    have hn200 : len ≤ 200 := by have := HFL.out.2.1; rw [HLEN.out] at this; omega
    have HTX : Bx (cdL l = varL (len : Int) ++ sqW icL (l.take len)) := ⟨by rw [List.take_of_length_le (by rw [HLEN.out]; omega)]; unfold cdL; rw [HLEN.out]⟩
    rw [enK_ok hok, hok]
    go_enter Try.func22, Try.ntmps22
    go_wp2_with fail
    refine (check15_any a len cap l _ H.out).mono ?_
    rintro e w1 ⟨rfl, hb1⟩
    have HB1 := Bx.mk hb1
    clear hb1
    rw [hok]
    generalize (thr l).2.1 = pl
    clear hok
    go_wp2_with fail
    refine (var_any (len : Int) _ (by omega) (by omega)).mono ?_
    rintro e w2 ⟨v2, rfl, ho2, hb2⟩
    have HO2 : Bx (w2.ownsRow w.heap.size 5 1 v2 (varL (len : Int) ++ sqW icL (l.take 0)).length (bv (varL (len : Int) ++ sqW icL (l.take 0)))) := ⟨by
      show w2.ownsRow w.heap.size 5 1 v2 (varL (len : Int) ++ []).length (bv (varL (len : Int) ++ []))
      rw [List.append_nil]; exact owns_base ho2 HB1.out.size⟩
    have HB2 := Bx.mk (bstep HB1.out hb2)
    clear ho2 hb2 HB1
    go_wp2_with fail
    go_loopw [6, 23] (fun v i wr => ∃ m : Nat, m ≤ len ∧ i = .int .i64 m ∧ Bx (wr.ownsRow w.heap.size 5 1 v (varL (len : Int) ++ sqW icL (l.take m)).length (bv (varL (len : Int) ++ sqW icL (l.take m)))) ∧ Bx (Below w.heap.size w wr)) (fun _ i _ => len - (intOf i).toNat)
    case atStart => exact ⟨0, Nat.zero_le _, rfl, HO2, HB2⟩
    case round =>
      clear HO2 HB2
      obtain ⟨m, hml, rfl, HO, HB⟩ := hrel
      obtain ⟨vO, hvO⟩ : ∃ x, x = u6 := ⟨_, rfl⟩
      subst hvO
      by_cases hlt : m < len
      · have hkI : (m : Int) < (len : Int) := by omega
        have hmL : m < l.length := by rw [HLEN.out]; exact hlt
        obtain ⟨b, off, rfl, hbl, x0, x1⟩ := (H.out.below HB.out).ic m hlt
        have hcan := HFL.out.2.2.1 m hmL
        have HSN : Bx (varL (len : Int) ++ sqW icL (l.take (m + 1)) = varL (len : Int) ++ sqW icL (l.take m) ++ icL (l.getD m ic0)) := ⟨by rw [sqW_snoc l m hmL, List.append_assoc]⟩
        have HV := Bx.mk (HK.out.get m hmL)
        have HPL : Bx ((varL (len : Int) ++ sqW icL (l.take m)).length ≤ 10000) := ⟨by rw [List.length_append]; have := (varL_length (len : Int)).2; have := sqW_len (l.take m); rw [List.length_take] at this; omega⟩
        generalize l.getD m ic0 = x at x0 x1 hcan HSN HV
        generalize varL (len : Int) ++ sqW icL (l.take m) = P at HO HPL HSN
        obtain ⟨o, n⟩ := x
        simp only at x0 x1 HV
        have his := canI_is hcan
        simp only at his
        obtain ⟨o, rfl, ho19⟩ : ∃ k : Nat, o = (k : Int) ∧ k ≤ 19 := by have := (isO_iff o).1 his; exact ⟨o.toNat, by omega, by omega⟩
        have HZB := Bx.mk (zig_bd n HV.out.1 HV.out.2)
        have hP := HPL.out
        have hnk := hnB_nk his
        obtain ⟨g8, HG8⟩ : ∃ g8, Bx (g8 = wr.heap.size) := ⟨_, ⟨rfl⟩⟩
        have hba : Below wr.heap.size wr (wr.alloc (.cells #[.int .i64 (o : Int), .int .i64 n] 52)) := (Below.refl _ _).alloc (Nat.le_refl _) _
        have hra := heap_alloc_new wr (.cells #[.int .i64 (o : Int), .int .i64 n] 52)
        rw [← HG8.out] at hra
        have HRA := Bx.mk hra
        have HO1 := Bx.mk (owns_below HO.out hba)
        have HB1 := Bx.mk (bstep HB.out hba)
        have HNG : Bx (∀ j, vO.ownBlock = some j → j ≠ g8) := ⟨fun j hj => by have := (HO.out.lt j hj).2; have := HG8.out; omega⟩
        clear hba hra HO HB hcan his
        go_upto_region 8 with fail
        rw [← HG8.out]
        generalize wr.alloc (.cells #[.int .i64 (o : Int), .int .i64 n] 52) = wa at HRA HO1 HB1 ⊢
        have y0 := cell_of_row _ g8 0 _ _ (0, 0) HRA.out
        -- the byte of the Op, from the world wa: the list grows
        have HNW := Bx.mk (World.news_of_block (heap_alloc_new wa (.cells #[.int .u8 (o : Int)] 5)))
        have HOA := Bx.mk (HO1.out.alloc (.cells #[.int .u8 (o : Int)] 5))
        have hbA : Below wa.heap.size wa (wa.alloc (.cells #[.int .u8 (o : Int)] 5)) := (Below.refl _ _).alloc (Nat.le_refl _) _
        have HBA := Bx.mk (bstep HB1.out hbA)
        have HVB : Bx (∀ j, vO.ownBlock = some j → w.heap.size ≤ j) := ⟨fun j hj => (HO1.out.lt j hj).1⟩
        have ho256 : (o : Int) < 256 := by omega
        have HRB : Bx ((wa.alloc (.cells #[.int .u8 (o : Int)] 5)).heap[g8]? = _) := ⟨(hbA.block g8 (Array.getElem?_eq_some_iff.1 HRA.out).1).trans HRA.out⟩
        clear hbA HO1 HB1 HRA x0 x1 hbl
        go_wp2_with (at_builtin; refine wpList_append_own _ rfl _ _ 37 rfl w.heap.size 5 i0 (.int .u8 0) 1 1 Try.underlying37 hi hz0 hz1 hz2 rfl (by decide) _ P.length (bv P) rfl HOA.out ⟨wa.heap.size, 0, none⟩ 1 1 [.int .u8 (o : Int)] rfl rfl HNW.out (bv_one [(o : Int)]) (by unfold maxLen; omega) (by omega) HBA.out.size ?_)
        intro v5 w5 hown5 hgr5 _
        have HO5 : Bx (w5.ownsRow w.heap.size 5 1 v5 (P ++ [(o : Int)]).length (bv (P ++ [(o : Int)]))) := ⟨by rw [List.length_append, bv_append]; exact hown5⟩
        have HB5 : Bx (Below w.heap.size w w5) := ⟨HBA.out.grown hgr5 HBA.out.size (fun j hj => HVB.out j hj)⟩
        have hr5 : w5.heap[g8]? = _ := (hgr5.block g8 (Array.getElem?_eq_some_iff.1 HRB.out).1 (fun e => HNG.out g8 e.symm rfl)).trans HRB.out
        have z0 := cell_of_row _ g8 0 _ _ (0, 0) hr5
        have z1 := cell_of_row _ g8 1 _ _ (0, 0) hr5
        clear hown5 hgr5 hr5 HNW HOA HBA HRB HVB y0
        by_cases hkk : 0 < nkO (o : Int)
        · have HEV : Bx (icL ⟨(o : Int), n⟩ = [(o : Int)] ++ varL (zigV n)) := ⟨by unfold icL; simp only; rw [if_pos hkk]; rfl⟩
          rw [HEV.out, ← List.append_assoc] at HSN
          have hnk2 : hnB (o : Int) = true := by rw [hnk]; simpa using hkk
          have HP2 : Bx ((P ++ [(o : Int)]).length ≤ 10010) := ⟨by rw [List.length_append]; simp; omega⟩
          generalize P ++ [(o : Int)] = P2 at HO5 HP2 HSN
          have hp2 := HP2.out
          clear hnk hkk
          go_wp2_with (go_at_call 33; refine (hasnum_any _ _).mono ?_; rintro e wz ⟨rfl, hw⟩; replace hw := hw.symm; subst hw; rw [hnk2])
          -- the number behind it
          refine (zig_any n _ HV.out.1 HV.out.2).mono ?_
          rintro e wz ⟨rfl, rfl⟩
          clear z0 z1
          go_wp2_with fail
          refine (var_any (zigV n) _ HZB.out.1 HZB.out.2).mono ?_
          rintro e w6 ⟨v6, rfl, ho6, hb6⟩
          obtain ⟨a6, c6, rfl, hv6⟩ := Bts.of_owns ho6 (varL_byt _ HZB.out.1 HZB.out.2)
          have HV6 := Bx.mk hv6
          have HO6 := Bx.mk (owns_below HO5.out hb6)
          have HB6 := Bx.mk (bstep HB5.out hb6)
          have hvl := (varL_length (zigV n)).2
          generalize varL (zigV n) = Z at HV6 hvl HSN
          clear ho6 hv6 hb6 HO5 HB5
          go_wp2_with (at_builtin; refine wpList_append_bts rfl _ _ rfl w.heap.size _ _ _ rfl HO6.out a6 _ c6 Z rfl HV6.out (by omega) HB6.out.size ?_)
          intro v7 w7 ho7 hb7 hg7
          have HO7 : Bx (w7.ownsRow w.heap.size 5 1 v7 (varL (len : Int) ++ sqW icL (l.take (m + 1))).length (bv (varL (len : Int) ++ sqW icL (l.take (m + 1))))) := ⟨by
            rw [HSN.out, List.length_append]; exact ho7⟩
          have HB7 : Bx (Below w.heap.size w w7) := ⟨HB6.out.trans hb7⟩
          clear ho7 hb7 hg7 HO6 HV6 HB6
          go_wp2_with fail
          go_roundw
          case rel => exact ⟨m + 1, by omega, by go_num, HO7, HB7⟩
          case measure => simp [intOf]; omega
        · have HEV : Bx (icL ⟨(o : Int), n⟩ = [(o : Int)]) := ⟨by unfold icL; simp only; rw [if_neg hkk]⟩
          rw [HEV.out] at HSN
          have hnk2 : hnB (o : Int) = false := by rw [hnk]; simpa using hkk
          rw [← HSN.out] at HO5
          clear hnk hkk
          go_wp2_with (go_at_call 33; refine (hasnum_any _ _).mono ?_; rintro e wz ⟨rfl, hw⟩; replace hw := hw.symm; subst hw; rw [hnk2])
          go_roundw
          case rel => exact ⟨m + 1, by omega, by go_num, HO5, HB5⟩
          case measure => simp [intOf]; omega
      · have hkI : ¬ (m : Int) < (len : Int) := by omega
        obtain rfl : m = len := by omega
        rw [← HTX.out] at HO
        go_wp2_with fail
        go_ret2
        exact ⟨_, rfl, HO.out, HB.out⟩
  · have hq : ((thr l).2.2 != 0) = true := by simpa using hok
    rw [enK_no hok]
    go_enter Try.func22, Try.ntmps22
    go_wp2_with fail
    refine (check15_any a len cap l _ H.out).mono ?_
    rintro e w1 ⟨rfl, hb1⟩
    have HB1 := Bx.mk hb1
    clear hb1
    generalize (thr l).2.1 = pl
    go_wp2_with fail
    go_ret2
    exact ⟨_, rfl, World.ownsRow_nil _ _ _ _, HB1.out⟩
end Go.Proofs.Ytcghebgdieilgaa
