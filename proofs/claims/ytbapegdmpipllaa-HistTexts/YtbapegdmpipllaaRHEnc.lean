/- What the document's own Text and Encode answer. -/
import Derived.Test.YtbapegdmpipllaaRHCheck
import Derived.Test.YtbapegdmpipllaaHEnc
import Derived.Test.YtbapegdmpipllaaRefVar
namespace Go.Proofs.Ytbapegdmpipllaa
open Go.RowKit
set_option linter.unusedVariables false

set_option maxRecDepth 100000 in
theorem refvarL_any (x : Int) (w : World) (h0 : 0 ≤ x) (h1 : x ≤ 18446744073709551615) :
    Calls Try.prog 36 #[.int .u64 x] w fun e w' => ∃ v, e = .returned v ∧ w'.ownsRow w.heap.size 5 1 v (varL x).length (bv (varL x)) ∧ Below w.heap.size w w' :=
  refvar_any 9 x w (Nat.le_refl _) h0 h1 (by rw [show (128 : Int) ^ (9 + 1) = 1180591620717411303424 from rfl]; omega)
set_option maxHeartbeats 4000000 in
set_option maxRecDepth 100000 in
theorem reftext_any (a : Option Addr) (len cap : Nat) (l : List Ev) (w : World) (h : Evs w a len cap l) (hk : EvsK l) (his : His l) :
    Calls Try.prog 32 #[.slice a len cap] w fun e w' => ∃ v, e = .returned v ∧ w'.ownsRow w.heap.size 5 1 v (txtL l).length (bv (txtL l)) ∧ Below w.heap.size w w' := by
  have H := Bx.mk h
  have HK := Bx.mk hk
  have HIS := Bx.mk his
  have HLEN : Bx (l.length = len) := ⟨h.len_eq⟩
  obtain ⟨i0, hi, hz0, hz1, hz2⟩ := info_parts Try.info5
  have hn128 : len ≤ 128 := by have := his_len his; rw [HLEN.out] at this; omega
  have HTX : Bx (txtL l = varL (len : Int) ++ evsL (l.take len)) := ⟨by rw [List.take_of_length_le (by rw [HLEN.out]; omega)]; unfold txtL; rw [HLEN.out]⟩
  clear h hk his
  go_enter Try.func32, Try.ntmps32
  go_wp2_with fail
  refine (refvarL_any (len : Int) _ (by omega) (by omega)).mono ?_
  rintro e w2 ⟨v2, rfl, ho2, hb2⟩
  have HO2 : Bx (w2.ownsRow w.heap.size 5 1 v2 (varL (len : Int) ++ evsL (l.take 0)).length (bv (varL (len : Int) ++ evsL (l.take 0)))) := ⟨by
    show w2.ownsRow w.heap.size 5 1 v2 (varL (len : Int) ++ []).length (bv (varL (len : Int) ++ []))
    rw [List.append_nil]; exact ho2⟩
  have HB2 := Bx.mk hb2
  clear ho2 hb2
  go_wp2_with fail
  go_loopw [3, 4] (fun v i wr => ∃ m : Nat, m ≤ len ∧ i = .int .i64 m ∧ Bx (wr.ownsRow w.heap.size 5 1 v (varL (len : Int) ++ evsL (l.take m)).length (bv (varL (len : Int) ++ evsL (l.take m)))) ∧ Bx (Below w.heap.size w wr)) (fun _ i _ => len - (intOf i).toNat)
  case atStart => exact ⟨0, Nat.zero_le _, rfl, HO2, HB2⟩
  case round =>
    clear HO2 HB2
    obtain ⟨m, hml, rfl, HO, HB⟩ := hrel
    obtain ⟨vO, hvO⟩ : ∃ x, x = u3 := ⟨_, rfl⟩
    subst hvO
    by_cases hlt : m < len
    · have hkI : (m : Int) < (len : Int) := by omega
      have hmL : m < l.length := by rw [HLEN.out]; exact hlt
      obtain ⟨b, off, rfl, hbl, x0, x1, x2, x3⟩ := (H.out.below HB.out).ev m hlt
      have HCN := Bx.mk (stpE_zero (HIS.out.err m hmL)).1
      have HSN : Bx (varL (len : Int) ++ evsL (l.take (m + 1)) = varL (len : Int) ++ evsL (l.take m) ++ evL (l.getD m ev0)) := ⟨by rw [evsL_snoc l m hmL, List.append_assoc]⟩
      have HV := Bx.mk (HK.out.get m hmL).v
      have HPL : Bx ((varL (len : Int) ++ evsL (l.take m)).length ≤ 10000) := ⟨by rw [List.length_append]; have := (varL_length (len : Int)).2; have := evsL_len (l.take m); rw [List.length_take] at this; omega⟩
      generalize l.getD m ev0 = x at x0 x1 x2 x3 HCN HSN HV
      generalize varL (len : Int) ++ evsL (l.take m) = P at HO HPL HSN
      obtain ⟨c, k, o, v⟩ := x
      simp only at x0 x1 x2 x3 HV
      have HZB := Bx.mk (zig_bd v HV.out.1 HV.out.2)
      have hcc := (canE_iff _).1 HCN.out
      simp only at hcc
      obtain ⟨c, rfl⟩ : ∃ n : Nat, c = n := ⟨c.toNat, by omega⟩
      have hc : c < 16 := by omega
      have hP := HPL.out
      cases k with
      | true =>
        rw [if_pos rfl] at hcc
        obtain ⟨o, rfl⟩ : ∃ n : Nat, o = n := ⟨o.toNat, by omega⟩
        have ho16 : o < 16 := by omega
        clear hcc
        -- the head, then the number behind it
        obtain ⟨g5, HG5⟩ : ∃ g5, Bx (g5 = wr.heap.size) := ⟨_, ⟨rfl⟩⟩
        have hba : Below wr.heap.size wr (wr.alloc (.cells #[.int .i64 c, .bool true, .int .i64 o, .int .i64 v] 55)) := (Below.refl _ _).alloc (Nat.le_refl _) _
        have hra := heap_alloc_new wr (.cells #[.int .i64 c, .bool true, .int .i64 o, .int .i64 v] 55)
        rw [← HG5.out] at hra
        have HRA := Bx.mk hra
        have HO1 := Bx.mk (owns_below HO.out hba)
        have HB1 := Bx.mk (bstep HB.out hba)
        have HNG : Bx (∀ j, vO.ownBlock = some j → j ≠ g5) := ⟨fun j hj => by have := (HO.out.lt j hj).2; have := HG5.out; omega⟩
        have HEV : Bx (evL ⟨c, true, o, v⟩ = [2 * (c : Int) + 1, (o : Int)] ++ varL (zigV v)) := ⟨by simp [evL, hdE]⟩
        rw [HEV.out, ← List.append_assoc] at HSN
        clear hba hra HO HB HCN
        go_upto_region 6 with fail
        rw [← HG5.out]
        generalize wr.alloc (.cells #[.int .i64 c, .bool true, .int .i64 o, .int .i64 v] 55) = wa at HRA HO1 HB1 ⊢
        have y0 := cell_of_row _ g5 0 _ _ (0, 0) HRA.out
        have y1 := cell_of_row _ g5 1 _ _ (0, 0) HRA.out
        have y2 := cell_of_row _ g5 2 _ _ (0, 0) HRA.out
        have HNW := Bx.mk (World.news_of_block (heap_alloc_new wa (.cells #[.int .u8 (2 * (c : Int) + 1), .int .u8 (o : Int)] 5)))
        have HOA := Bx.mk (HO1.out.alloc (.cells #[.int .u8 (2 * (c : Int) + 1), .int .u8 (o : Int)] 5))
        have hbA : Below wa.heap.size wa (wa.alloc (.cells #[.int .u8 (2 * (c : Int) + 1), .int .u8 (o : Int)] 5)) := (Below.refl _ _).alloc (Nat.le_refl _) _
        have HBA := Bx.mk (bstep HB1.out hbA)
        have HRB : Bx ((wa.alloc (.cells #[.int .u8 (2 * (c : Int) + 1), .int .u8 (o : Int)] 5)).heap[g5]? = _) := ⟨(hbA.block g5 (Array.getElem?_eq_some_iff.1 HRA.out).1).trans HRA.out⟩
        have HVB : Bx (∀ j, vO.ownBlock = some j → w.heap.size ≤ j) := ⟨fun j hj => (HO1.out.lt j hj).1⟩
        clear hbA HO1 HB1 HRA x0 x1 x2 x3
        go_wp2_with (at_builtin; refine wpList_append_own _ rfl _ _ 32 rfl w.heap.size 5 i0 (.int .u8 0) 1 1 Try.underlying32 hi hz0 hz1 hz2 rfl (by decide) _ P.length (bv P) rfl HOA.out ⟨wa.heap.size, 0, none⟩ 2 2 [.int .u8 (2 * (c : Int) + 1), .int .u8 (o : Int)] rfl rfl HNW.out (bv_one [2 * (c : Int) + 1, (o : Int)]) (by unfold maxLen; omega) (by omega) HBA.out.size ?_)
        intro v5 w5 hown5 hgr5 _
        have HO5 : Bx (w5.ownsRow w.heap.size 5 1 v5 (P ++ [2 * (c : Int) + 1, (o : Int)]).length (bv (P ++ [2 * (c : Int) + 1, (o : Int)]))) := ⟨by rw [List.length_append, bv_append]; exact hown5⟩
        have HB5 : Bx (Below w.heap.size w w5) := ⟨HBA.out.grown hgr5 HBA.out.size (fun j hj => HVB.out j hj)⟩
        have hr5 : w5.heap[g5]? = _ := (hgr5.block g5 (Array.getElem?_eq_some_iff.1 HRB.out).1 (fun e => HNG.out g5 e.symm rfl)).trans HRB.out
        have z3 := cell_of_row _ g5 3 _ _ (0, 0) hr5
        have HP2 : Bx ((P ++ [2 * (c : Int) + 1, (o : Int)]).length ≤ 10010) := ⟨by rw [List.length_append]; simp; omega⟩
        generalize P ++ [2 * (c : Int) + 1, (o : Int)] = P2 at HO5 HP2 HSN
        have hp2 := HP2.out
        clear hown5 hgr5 hr5 HNW HOA HBA HRB HVB y0 y1 y2
        go_wp2_with fail
        refine (refzig_any v _ HV.out.1 HV.out.2).mono ?_
        rintro e wz ⟨rfl, rfl⟩
        clear z3
        go_wp2_with fail
        refine (refvarL_any (zigV v) _ HZB.out.1 HZB.out.2).mono ?_
        rintro e w6 ⟨v6, rfl, ho6, hb6⟩
        obtain ⟨a6, c6, rfl, hv6⟩ := Bts.of_owns ho6 (varL_byt _ HZB.out.1 HZB.out.2)
        have HV6 := Bx.mk hv6
        have HO6 := Bx.mk (owns_below HO5.out hb6)
        have HB6 := Bx.mk (bstep HB5.out hb6)
        have hvl := (varL_length (zigV v)).2
        generalize varL (zigV v) = Z at HV6 hvl HSN
        clear ho6 hv6 hb6 HO5 HB5
        go_wp2_with (at_builtin; refine wpList_append_bts rfl _ _ rfl w.heap.size _ _ _ rfl HO6.out a6 _ c6 Z rfl HV6.out (by omega) HB6.out.size ?_)
        intro v7 w7 ho7 hb7 hg7
        have HO7 : Bx (w7.ownsRow w.heap.size 5 1 v7 (varL (len : Int) ++ evsL (l.take (m + 1))).length (bv (varL (len : Int) ++ evsL (l.take (m + 1))))) := ⟨by
          rw [HSN.out, List.length_append]; exact ho7⟩
        have HB7 : Bx (Below w.heap.size w w7) := ⟨HB6.out.trans hb7⟩
        clear ho7 hb7 hg7 HO6 HV6 HB6
        go_wp2_with fail
        go_roundw
        case rel => exact ⟨m + 1, by omega, by go_num, HO7, HB7⟩
        case measure => simp [intOf]; omega
      | false =>
        clear hcc
        -- the head, then the number behind it
        obtain ⟨g5, HG5⟩ : ∃ g5, Bx (g5 = wr.heap.size) := ⟨_, ⟨rfl⟩⟩
        have hba : Below wr.heap.size wr (wr.alloc (.cells #[.int .i64 c, .bool false, .int .i64 o, .int .i64 v] 55)) := (Below.refl _ _).alloc (Nat.le_refl _) _
        have hra := heap_alloc_new wr (.cells #[.int .i64 c, .bool false, .int .i64 o, .int .i64 v] 55)
        rw [← HG5.out] at hra
        have HRA := Bx.mk hra
        have HO1 := Bx.mk (owns_below HO.out hba)
        have HB1 := Bx.mk (bstep HB.out hba)
        have HNG : Bx (∀ j, vO.ownBlock = some j → j ≠ g5) := ⟨fun j hj => by have := (HO.out.lt j hj).2; have := HG5.out; omega⟩
        have HEV : Bx (evL ⟨c, false, o, v⟩ = [2 * (c : Int)] ++ varL (zigV v)) := ⟨by simp [evL, hdE]⟩
        rw [HEV.out, ← List.append_assoc] at HSN
        clear hba hra HO HB HCN
        go_upto_region 6 with fail
        rw [← HG5.out]
        generalize wr.alloc (.cells #[.int .i64 c, .bool false, .int .i64 o, .int .i64 v] 55) = wa at HRA HO1 HB1 ⊢
        have y0 := cell_of_row _ g5 0 _ _ (0, 0) HRA.out
        have y1 := cell_of_row _ g5 1 _ _ (0, 0) HRA.out
        have y2 := cell_of_row _ g5 2 _ _ (0, 0) HRA.out
        have HNW := Bx.mk (World.news_of_block (heap_alloc_new wa (.cells #[.int .u8 (2 * (c : Int))] 5)))
        have HOA := Bx.mk (HO1.out.alloc (.cells #[.int .u8 (2 * (c : Int))] 5))
        have hbA : Below wa.heap.size wa (wa.alloc (.cells #[.int .u8 (2 * (c : Int))] 5)) := (Below.refl _ _).alloc (Nat.le_refl _) _
        have HBA := Bx.mk (bstep HB1.out hbA)
        have HRB : Bx ((wa.alloc (.cells #[.int .u8 (2 * (c : Int))] 5)).heap[g5]? = _) := ⟨(hbA.block g5 (Array.getElem?_eq_some_iff.1 HRA.out).1).trans HRA.out⟩
        have HVB : Bx (∀ j, vO.ownBlock = some j → w.heap.size ≤ j) := ⟨fun j hj => (HO1.out.lt j hj).1⟩
        clear hbA HO1 HB1 HRA x0 x1 x2 x3
        go_wp2_with (at_builtin; refine wpList_append_own _ rfl _ _ 32 rfl w.heap.size 5 i0 (.int .u8 0) 1 1 Try.underlying32 hi hz0 hz1 hz2 rfl (by decide) _ P.length (bv P) rfl HOA.out ⟨wa.heap.size, 0, none⟩ 1 1 [.int .u8 (2 * (c : Int))] rfl rfl HNW.out (bv_one [2 * (c : Int)]) (by unfold maxLen; omega) (by omega) HBA.out.size ?_)
        intro v5 w5 hown5 hgr5 _
        have HO5 : Bx (w5.ownsRow w.heap.size 5 1 v5 (P ++ [2 * (c : Int)]).length (bv (P ++ [2 * (c : Int)]))) := ⟨by rw [List.length_append, bv_append]; exact hown5⟩
        have HB5 : Bx (Below w.heap.size w w5) := ⟨HBA.out.grown hgr5 HBA.out.size (fun j hj => HVB.out j hj)⟩
        have hr5 : w5.heap[g5]? = _ := (hgr5.block g5 (Array.getElem?_eq_some_iff.1 HRB.out).1 (fun e => HNG.out g5 e.symm rfl)).trans HRB.out
        have z3 := cell_of_row _ g5 3 _ _ (0, 0) hr5
        have HP2 : Bx ((P ++ [2 * (c : Int)]).length ≤ 10010) := ⟨by rw [List.length_append]; simp; omega⟩
        generalize P ++ [2 * (c : Int)] = P2 at HO5 HP2 HSN
        have hp2 := HP2.out
        clear hown5 hgr5 hr5 HNW HOA HBA HRB HVB y0 y1 y2
        go_wp2_with fail
        refine (refzig_any v _ HV.out.1 HV.out.2).mono ?_
        rintro e wz ⟨rfl, rfl⟩
        clear z3
        go_wp2_with fail
        refine (refvarL_any (zigV v) _ HZB.out.1 HZB.out.2).mono ?_
        rintro e w6 ⟨v6, rfl, ho6, hb6⟩
        obtain ⟨a6, c6, rfl, hv6⟩ := Bts.of_owns ho6 (varL_byt _ HZB.out.1 HZB.out.2)
        have HV6 := Bx.mk hv6
        have HO6 := Bx.mk (owns_below HO5.out hb6)
        have HB6 := Bx.mk (bstep HB5.out hb6)
        have hvl := (varL_length (zigV v)).2
        generalize varL (zigV v) = Z at HV6 hvl HSN
        clear ho6 hv6 hb6 HO5 HB5
        go_wp2_with (at_builtin; refine wpList_append_bts rfl _ _ rfl w.heap.size _ _ _ rfl HO6.out a6 _ c6 Z rfl HV6.out (by omega) HB6.out.size ?_)
        intro v7 w7 ho7 hb7 hg7
        have HO7 : Bx (w7.ownsRow w.heap.size 5 1 v7 (varL (len : Int) ++ evsL (l.take (m + 1))).length (bv (varL (len : Int) ++ evsL (l.take (m + 1))))) := ⟨by
          rw [HSN.out, List.length_append]; exact ho7⟩
        have HB7 : Bx (Below w.heap.size w w7) := ⟨HB6.out.trans hb7⟩
        clear ho7 hb7 hg7 HO6 HV6 HB6
        go_wp2_with fail
        go_roundw
        case rel => exact ⟨m + 1, by omega, by go_num, HO7, HB7⟩
        case measure => simp [intOf]; omega
    · have hkI : ¬ (m : Int) < (len : Int) := by omega
      obtain rfl : m = len := by omega
      rw [← HTX.out] at HO
      go_wp2_with fail
      go_ret
      exact ⟨_, rfl, HO.out, HB.out⟩
set_option maxHeartbeats 1000000 in
theorem refencode_any (a : Option Addr) (len cap : Nat) (l : List Ev) (w : World) (h : Evs w a len cap l) (hk : EvsK l) :
    Calls Try.prog 17 #[.slice a len cap] w fun e w' => ∃ v, e = .returned (.tuple #[v, .int .i64 (chk l).2]) ∧ w'.ownsRow w.heap.size 5 1 v (encV l).length (bv (encV l)) ∧ Below w.heap.size w w' := by
  have H := Bx.mk h
  have HK := Bx.mk hk
  clear h hk
  by_cases hok : (chk l).2 = 0
  · have HIS : Bx (His l) := ⟨hok⟩
    rw [encV_ok hok, hok]
    go_enter Try.func17, Try.ntmps17
    go_wp2_with fail
    refine (refcheck_any a len cap l _ H.out).mono ?_
    rintro e w1 ⟨rfl, hb1⟩
    have HB1 := Bx.mk hb1
    have HE1 := Bx.mk (H.out.below hb1)
    clear hb1
    rw [hok]
    clear hok
    go_wp2_with fail
    refine (reftext_any a len cap l _ HE1.out HK.out HIS.out).mono ?_
    rintro e w2 ⟨v2, rfl, ho2, hb2⟩
    have HO2 := Bx.mk (owns_base ho2 HB1.out.size)
    have HB2 := Bx.mk (bstep HB1.out hb2)
    clear ho2 hb2
    go_wp2_with fail
    go_ret2
    exact ⟨_, rfl, HO2.out, HB2.out⟩
  · have hq : ((chk l).2 != 0) = true := by simpa using hok
    rw [encV_no hok]
    go_enter Try.func17, Try.ntmps17
    go_wp2_with fail
    refine (refcheck_any a len cap l _ H.out).mono ?_
    rintro e w1 ⟨rfl, hb1⟩
    have HB1 := Bx.mk hb1
    clear hb1
    go_wp2_with fail
    go_ret2
    exact ⟨_, rfl, World.ownsRow_nil _ _ _ _, HB1.out⟩
end Go.Proofs.Ytbapegdmpipllaa
