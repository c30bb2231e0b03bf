/- What the document's own Text and Encode answer. -/
import Derived.Test.YtcghebgdieilgaaCEnc
import Derived.Test.YtcghebgdieilgaaRCThr
import Derived.Test.YtcghebgdieilgaaRefVar
namespace Go.Proofs.Ytcghebgdieilgaa
open Go.RowKit
set_option linter.unusedVariables false

set_option maxRecDepth 100000 in
theorem refvarL_any (x : Int) (w : World) (h0 : 0 ≤ x) (h1 : x ≤ 18446744073709551615) :
    Calls Try.prog 46 #[.int .u64 x] w fun e w' => ∃ v, e = .returned v ∧ w'.ownsRow w.heap.size 5 1 v (varL x).length (bv (varL x)) ∧ Below w.heap.size w w' :=
  refvar_any 9 x w (Nat.le_refl _) h0 h1 (by rw [show (128 : Int) ^ (9 + 1) = 1180591620717411303424 from rfl]; omega)
set_option maxHeartbeats 4000000 in
set_option maxRecDepth 100000 in
theorem reftext15_any (a : Option Addr) (len cap : Nat) (l : List Ic) (w : World) (h : Ics w a len cap l) (hk : IcsK l) (hok : (thr l).2.2 = 0) :
    Calls Try.prog 36 #[.slice a len cap] w fun e w' => ∃ v, e = .returned v ∧ w'.ownsRow w.heap.size 5 1 v (cdL l).length (bv (cdL l)) ∧ Below w.heap.size w w' := by
  have H := Bx.mk h
  have HK := Bx.mk hk
  have HLEN : Bx (l.length = len) := ⟨h.len_eq⟩
  obtain ⟨i0, hi, hz0, hz1, hz2⟩ := info_parts Try.info5
  have HFL := Bx.mk (thr_flow hok)
  have hn200 : len ≤ 200 := by have := HFL.out.2.1; rw [HLEN.out] at this; omega
  have HTX : Bx (cdL l = varL (len : Int) ++ sqW icL (l.take len)) := ⟨by rw [List.take_of_length_le (by rw [HLEN.out]; omega)]; unfold cdL; rw [HLEN.out]⟩
  clear h hk hok
  go_enter Try.func36, Try.ntmps36
  go_wp2_with fail
  refine (refvarL_any (len : Int) _ (by omega) (by omega)).mono ?_
  rintro e w2 ⟨v2, rfl, ho2, hb2⟩
  have HO2 : Bx (w2.ownsRow w.heap.size 5 1 v2 (varL (len : Int) ++ sqW icL (l.take 0)).length (bv (varL (len : Int) ++ sqW icL (l.take 0)))) := ⟨by
    show w2.ownsRow w.heap.size 5 1 v2 (varL (len : Int) ++ []).length (bv (varL (len : Int) ++ []))
    rw [List.append_nil]; exact ho2⟩
  have HB2 := Bx.mk hb2
  clear ho2 hb2
  go_wp2_with fail
  go_loopw [3, 4] (fun v i wr => ∃ m : Nat, m ≤ len ∧ i = .int .i64 m ∧ Bx (wr.ownsRow w.heap.size 5 1 v (varL (len : Int) ++ sqW icL (l.take m)).length (bv (varL (len : Int) ++ sqW icL (l.take m)))) ∧ Bx (Below w.heap.size w wr)) (fun _ i _ => len - (intOf i).toNat)
  case atStart => exact ⟨0, Nat.zero_le _, rfl, HO2, HB2⟩
  case round =>
    clear HO2 HB2
    obtain ⟨m, hml, rfl, HO1, HB1⟩ := hrel
    obtain ⟨vO, hvO⟩ : ∃ x, x = u3 := ⟨_, rfl⟩
    subst hvO
    obtain ⟨wa, hwa⟩ : ∃ x, x = wr := ⟨_, rfl⟩
    subst hwa
    by_cases hlt : m < len
    · have hkI : (m : Int) < (len : Int) := by omega
      have hmL : m < l.length := by rw [HLEN.out]; exact hlt
      obtain ⟨b, off, rfl, hbl, x0, x1⟩ := (H.out.below HB1.out).ic m hlt
      have hcan := HFL.out.2.2.1 m hmL
      have HSN : Bx (varL (len : Int) ++ sqW icL (l.take (m + 1)) = varL (len : Int) ++ sqW icL (l.take m) ++ icL (l.getD m ic0)) := ⟨by rw [sqW_snoc l m hmL, List.append_assoc]⟩
      have HV := Bx.mk (HK.out.get m hmL)
      have HPL : Bx ((varL (len : Int) ++ sqW icL (l.take m)).length ≤ 10000) := ⟨by rw [List.length_append]; have := (varL_length (len : Int)).2; have := sqW_len (l.take m); rw [List.length_take] at this; omega⟩
      obtain ⟨x, HX⟩ : ∃ x, Bx (l.getD m ic0 = x) := ⟨_, ⟨rfl⟩⟩
      rw [HX.out] at x0 x1 hcan HSN HV
      generalize varL (len : Int) ++ sqW icL (l.take m) = P at HO1 HPL HSN
      obtain ⟨o, n⟩ := x
      simp only at x0 x1 HV
      have his := canI_is hcan
      simp only at his
      obtain ⟨o, rfl, ho19⟩ := opNat his
      have HZB := Bx.mk (zig_bd n HV.out.1 HV.out.2)
      have hP := HPL.out
      have hnb := tbl_bd his
      clear hcan
      -- the byte of the Op, from the world wa: the list grows
      have HNW := Bx.mk (World.news_of_block (heap_alloc_new wa (.cells #[.int .u8 (o : Int)] 5)))
      have HOA := Bx.mk (HO1.out.alloc (.cells #[.int .u8 (o : Int)] 5))
      have hbA : Below wa.heap.size wa (wa.alloc (.cells #[.int .u8 (o : Int)] 5)) := (Below.refl _ _).alloc (Nat.le_refl _) _
      have HBA := Bx.mk (bstep HB1.out hbA)
      have HVB : Bx (∀ j, vO.ownBlock = some j → w.heap.size ≤ j) := ⟨fun j hj => (HO1.out.lt j hj).1⟩
      have ho256 : (o : Int) < 256 := by omega
      clear hbA HO1 HB1 x1 hbl
      go_wp2_with (at_builtin; refine wpList_append_own _ rfl _ _ 37 rfl w.heap.size 5 i0 (.int .u8 0) 1 1 Try.underlying37 hi hz0 hz1 hz2 rfl (by decide) _ P.length (bv P) rfl HOA.out ⟨wa.heap.size, 0, none⟩ 1 1 [.int .u8 (o : Int)] rfl rfl HNW.out (bv_one [(o : Int)]) (by unfold maxLen; omega) (by omega) HBA.out.size ?_)
      intro v5 w5 hown5 hgr5 _
      have HO5 : Bx (w5.ownsRow w.heap.size 5 1 v5 (P ++ [(o : Int)]).length (bv (P ++ [(o : Int)]))) := ⟨by rw [List.length_append, bv_append]; exact hown5⟩
      have HB5 : Bx (Below w.heap.size w w5) := ⟨HBA.out.grown hgr5 HBA.out.size (fun j hj => HVB.out j hj)⟩
      obtain ⟨_, _, e, _, z0, z1⟩ := (H.out.below HB5.out).ic m hlt
      cases e
      rw [HX.out] at z0 z1
      simp only at z0 z1
      clear hown5 hgr5 HNW HOA HBA HVB x0
      go_wp2_with (go_at_call 27; refine (is15_any _ _).mono ?_; rintro e wz ⟨rfl, hw⟩; replace hw := hw.symm; subst hw; rw [his])
      refine (table_any o _ ho19).mono ?_
      rintro e wt ⟨rfl, hbt⟩
      replace HO5 := Bx.mk (owns_below HO5.out hbt)
      replace HB5 := Bx.mk (bstep HB5.out hbt)
      clear z0 z1 hbt
      obtain ⟨_, _, e, _, z0, z1⟩ := (H.out.below HB5.out).ic m hlt
      cases e
      rw [HX.out] at z0 z1
      simp only at z0 z1
      have hf := fun w => (row_fld (nkO (o : Int)) (tkO (o : Int)) (ptO (o : Int)) (thO (o : Int)) w).1
      by_cases hkk : 0 < nkO (o : Int)
      · have HEV : Bx (icL ⟨(o : Int), n⟩ = [(o : Int)] ++ varL (zigV n)) := ⟨by unfold icL; simp only; rw [if_pos hkk]; rfl⟩
        rw [HEV.out, ← List.append_assoc] at HSN
        have HP2 : Bx ((P ++ [(o : Int)]).length ≤ 10010) := ⟨by rw [List.length_append]; simp; omega⟩
        generalize P ++ [(o : Int)] = P2 at HO5 HP2 HSN
        have hp2 := HP2.out
        go_wp2_with fail
        -- the number behind it
        refine (refzig_any n _ HV.out.1 HV.out.2).mono ?_
        rintro e wz ⟨rfl, rfl⟩
        clear z0 z1
        go_wp2_with fail
        refine (refvarL_any (zigV n) _ HZB.out.1 HZB.out.2).mono ?_
        rintro e w6 ⟨v6, rfl, ho6, hb6⟩
        obtain ⟨a6, c6, rfl, hv6⟩ := Bts.of_owns ho6 (varL_byt _ HZB.out.1 HZB.out.2)
        have HV6 := Bx.mk hv6
        have HO6 := Bx.mk (owns_below HO5.out hb6)
        have HB6 := Bx.mk (bstep HB5.out hb6)
        have hvl := (varL_length (zigV n)).2
        generalize varL (zigV n) = Z at HV6 hvl HSN
        clear ho6 hv6 hb6 HO5 HB5
        go_wp2_with (at_builtin; refine wpList_append_bts rfl _ _ rfl w.heap.size _ _ _ rfl HO6.out a6 _ c6 Z rfl HV6.out (by omega) HB6.out.size ?_)
        intro v7 w7 ho7 hb7 hg7
        have HO7 : Bx (w7.ownsRow w.heap.size 5 1 v7 (varL (len : Int) ++ sqW icL (l.take (m + 1))).length (bv (varL (len : Int) ++ sqW icL (l.take (m + 1))))) := ⟨by
          rw [HSN.out, List.length_append]; exact ho7⟩
        have HB7 : Bx (Below w.heap.size w w7) := ⟨HB6.out.trans hb7⟩
        clear ho7 hb7 hg7 HO6 HV6 HB6
        go_wp2_with fail
        go_roundw
        case rel => exact ⟨m + 1, by omega, by go_num, HO7, HB7⟩
        case measure => simp [intOf]; omega
      · have HEV : Bx (icL ⟨(o : Int), n⟩ = [(o : Int)]) := ⟨by unfold icL; simp only; rw [if_neg hkk]⟩
        rw [HEV.out] at HSN
        rw [← HSN.out] at HO5
        go_wp2_with fail
        go_roundw
        case rel => exact ⟨m + 1, by omega, by go_num, HO5, HB5⟩
        case measure => simp [intOf]; omega
    · have hkI : ¬ (m : Int) < (len : Int) := by omega
      obtain rfl : m = len := by omega
      rw [← HTX.out] at HO1
      go_wp2_with fail
      go_ret
      exact ⟨_, rfl, HO1.out, HB1.out⟩
set_option maxHeartbeats 1000000 in
theorem refencode15_any (a : Option Addr) (len cap : Nat) (l : List Ic) (w : World) (h : Ics w a len cap l) (hk : IcsK l) :
    Calls Try.prog 23 #[.slice a len cap] w fun e w' => ∃ v, e = .returned (.tuple #[v, .int .i64 (thr l).2.2]) ∧ w'.ownsRow w.heap.size 5 1 v (enK l).length (bv (enK l)) ∧ Below w.heap.size w w' := by
  have H := Bx.mk h
  have HK := Bx.mk hk
  clear h hk
  by_cases hok : (thr l).2.2 = 0
  · have HOK := Bx.mk hok
    rw [enK_ok hok, hok]
    go_enter Try.func23, Try.ntmps23
    go_wp2_with fail
    refine (refcheck15_any a len cap l _ H.out).mono ?_
    rintro e w1 ⟨rfl, hb1⟩
    have HB1 := Bx.mk hb1
    have HE1 := Bx.mk (H.out.below hb1)
    clear hb1
    rw [hok]
    generalize (thr l).2.1 = pl
    clear hok
    go_wp2_with fail
    refine (reftext15_any a len cap l _ HE1.out HK.out HOK.out).mono ?_
    rintro e w2 ⟨v2, rfl, ho2, hb2⟩
    have HO2 := Bx.mk (owns_base ho2 HB1.out.size)
    have HB2 := Bx.mk (bstep HB1.out hb2)
    clear ho2 hb2
    go_wp2_with fail
    go_ret2
    exact ⟨_, rfl, HO2.out, HB2.out⟩
  · have hq : ((thr l).2.2 != 0) = true := by simpa using hok
    rw [enK_no hok]
    go_enter Try.func23, Try.ntmps23
    go_wp2_with fail
    refine (refcheck15_any a len cap l _ H.out).mono ?_
    rintro e w1 ⟨rfl, hb1⟩
    have HB1 := Bx.mk hb1
    clear hb1
    generalize (thr l).2.1 = pl
    go_wp2_with fail
    go_ret2
    exact ⟨_, rfl, World.ownsRow_nil _ _ _ _, HB1.out⟩
end Go.Proofs.Ytcghebgdieilgaa
