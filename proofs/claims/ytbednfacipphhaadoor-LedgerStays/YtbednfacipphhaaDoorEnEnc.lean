/- What Encode answers, the program's and the document's own. -/
import Derived.Test.YtbednfacipphhaaDoorAuao
import Derived.Test.YtbednfacipphhaaDoorAuat
import Derived.Test.YtbednfacipphhaaDoorAuas
import Derived.Test.YtbednfacipphhaaDoorAuaw
import Derived.Test.YtbednfacipphhaaDoorAuav
namespace Go.Proofs.YtbednfacipphhaaDoor
open Go.RowKit
set_option linter.unusedVariables false

/-- what Encode answers -/
def encN (e : En) : List Int := if chkN e = 0 then enL e else []
set_option maxRecDepth 100000 in
theorem encN_ok {e : En} (h : chkN e = 0) : encN e = enL e := by unfold encN; rw [if_pos h]
set_option maxRecDepth 100000 in
theorem encN_no {e : En} (h : chkN e ≠ 0) : encN e = [] := by unfold encN; rw [if_neg h]
set_option maxRecDepth 100000 in
theorem chkN_can {e : En} (h : chkN e = 0) : canN e = true := by
  unfold chkN at h
  cases hc : canN e with
  | true => rfl
  | false => rw [hc] at h; simp at h
set_option maxRecDepth 100000 in
theorem chkN_ways (e : En) : chkN e = 0 ∨ chkN e = 2 := by
  unfold chkN; split
  · exact .inl rfl
  · exact .inr rfl
set_option maxRecDepth 100000 in
theorem refvarE_any (x : Int) (w : World) (h0 : 0 ≤ x) (h1 : x ≤ 18446744073709551615) :
    Calls Tryd.prog 68 #[.int .u64 x] w fun e w' => ∃ v, e = .returned v ∧ w'.ownsRow w.heap.size 5 1 v (varL x).length (bv (varL x)) ∧ Below w.heap.size w w' :=
  refvar_any 9 x w (Nat.le_refl _) h0 h1 (by rw [show (128 : Int) ^ (9 + 1) = 1180591620717411303424 from rfl]; omega)
set_option maxRecDepth 100000 in
theorem bts_oneE (w : World) (x : Int) (hx : 0 ≤ x ∧ x ≤ 255) : Bts (w.alloc (.cells #[.int .u8 x] 5)) (some ⟨w.heap.size, 0, none⟩) 1 1 [x] := by
  have hr := heap_alloc_new w (.cells #[.int .u8 x] 5)
  refine ⟨rfl, Byt.cons hx Byt.nil, Nat.le_refl _, by unfold maxLen; omega, (fun h => by cases h), fun _ => ⟨_, 0, rfl, (Array.getElem?_eq_some_iff.1 hr).1, fun i hi => ?_⟩⟩
  obtain rfl : i = 0 := by omega
  exact cell_of_row _ _ 0 _ _ (0, 0) hr
/-- how Encode ends -/
def EcP (e : En) (w : World) (x : Ending) (w' : World) : Prop := ∃ v, x = .returned (.tuple #[v, .int .i64 (chkN e)]) ∧ w'.ownsRow w.heap.size 5 1 v (encN e).length (bv (encN e)) ∧ Below w.heap.size w w'
set_option maxRecDepth 100000 in
theorem ecp_ok {e : En} {w w' : World} {v : Value} {L : List Int} (hc : chkN e = 0) (he : enL e = L) (h : w'.ownsRow w.heap.size 5 1 v L.length (bv L)) (hb : Below w.heap.size w w') : EcP e w (.returned (.tuple #[v, .int .i64 0])) w' := ⟨v, by rw [hc], by rw [encN_ok hc, he]; exact h, hb⟩
set_option maxRecDepth 100000 in
theorem ecp_no {e : En} {w w' : World} (hc : chkN e = 2) (hb : Below w.heap.size w w') : EcP e w (.returned (.tuple #[.slice none 0 0, .int .i64 2])) w' := ⟨_, by rw [hc], by rw [encN_no (by rw [hc]; decide)]; exact World.ownsRow_nil _ _ _ _, hb⟩
set_option maxHeartbeats 4000000 in
set_option maxRecDepth 100000 in
theorem encode20_any (e : En) (a : Option Addr) (len cap : Nat) (w : World) (h : Ivs w a len cap e.o) (hd : EnD e) :
    Calls Tryd.prog 41 #[.agg (enA e a len cap)] w (EcP e w) := by
  have hb0 : Below w.heap.size w (w.alloc (.cells (enA e a len cap) 35)) := (Below.refl _ _).alloc (Nat.le_refl _) _
  have hr0 := EnB.new (a := a) (n := len) (c := cap) w hd
  obtain ⟨g0, HG⟩ : ∃ g0, Bx (g0 = w.heap.size) := ⟨_, ⟨rfl⟩⟩
  rw [← HG.out] at hr0
  have HB0 := Bx.mk hb0
  have HIV := Bx.mk (h.below hb0)
  have HR := Bx.mk hr0
  have HLEN : Bx (e.o.length = len) := ⟨h.len_eq⟩
  have HD := Bx.mk hd
  have hm := Nat.le_trans h.le_cap h.cap_le
  unfold maxLen at hm
  clear h hb0 hr0 hd
  go_enter Tryd.func41, Tryd.ntmps41
  go_upto_region 1 with fail
  rw [← HG.out]
  generalize w.alloc (.cells (enA e a len cap) 35) = wa at HB0 HIV HR ⊢
  go_wp2_with (refine wpList_load_en rfl (.tmp 1) rfl rfl HR.out ?_)
  refine (check20_any e a len cap _ HIV.out HD.out).mono ?_
  rintro x w1 ⟨rfl, hb1⟩
  have HB1 := Bx.mk hb1
  have HR7 := Bx.mk (HR.out.below hb1)
  clear hb1
  rcases chkN_ways e with hok | hok
  · rw [hok]
    have HCK := Bx.mk hok
    have HCN := Bx.mk (chkN_can hok)
    clear hok
    obtain ⟨TX, HTX⟩ : ∃ TX, Bx (enL e = TX) := ⟨_, ⟨rfl⟩⟩
    have HBYT : Bx (∀ i, i < len → ∃ x : Nat, e.o.getD i 0 = (x : Int) ∧ x ≤ 63) := ⟨fun i hi => by
      have := ordO_iff.1 ((canN_iff _).1 HCN.out).2.2 i (by rw [HLEN.out]; exact hi)
      exact ⟨(e.o.getD i 0).toNat, by omega, by omega⟩⟩
    have hl64 : len ≤ 64 := by have := ordO_len ((canN_iff _).1 HCN.out).2.2; rw [HLEN.out] at this; exact this
    have hn := (numO_iff _).1 ((canN_iff _).1 HCN.out).1
    obtain ⟨j, t, DH, DS, k, r, o⟩ := e
    simp only at hn HIV HLEN HBYT
    obtain ⟨j, rfl⟩ : ∃ n : Nat, j = n := ⟨j.toNat, by omega⟩
    obtain ⟨t, rfl⟩ : ∃ n : Nat, t = n := ⟨t.toNat, by omega⟩
    obtain ⟨k, rfl⟩ : ∃ n : Nat, k = n := ⟨k.toNat, by omega⟩
    obtain ⟨r, rfl⟩ : ∃ n : Nat, r = n := ⟨r.toNat, by omega⟩
    have hj : j ≤ 63 := by omega
    have ht : t ≤ 1099511627776 := by omega
    have hk : 1 ≤ k ∧ k ≤ 4 := by omega
    have hr : r ≤ 1073741824 := by omega
    have HDH : Bx (Dig DH) := ⟨HD.out.1⟩
    have HDS : Bx (Dig DS) := ⟨HD.out.2⟩
    have HE : Bx (varL (j : Int) ++ (varL (t : Int) ++ (DH ++ (DS ++ ([(k : Int)] ++ (varL (r : Int) ++ (varL (len : Int) ++ o)))))) = TX) := ⟨by rw [← HTX.out]; unfold enL; simp only; rw [HLEN.out, ← varL_one (len : Int) (by omega)]⟩
    clear hn HCN HD
    have c0 := HR7.out.c0
    simp only at c0
    go_wp2_with fail
    refine (var_any (j : Int) _ (by omega) (by omega)).mono ?_
    rintro e w6 ⟨v6, rfl, ho6, hb6⟩
    have hvl := (varL_length (j : Int)).2
    have HO : Bx (w6.ownsRow wa.heap.size 5 1 v6 (varL (j : Int)).length (bv (varL (j : Int)))) := ⟨owns_base ho6 HB1.out.size⟩
    have HB := Bx.mk (bstep HB1.out hb6)
    have HRb := Bx.mk (HR7.out.below hb6)
    clear c0 ho6 hb6 HB1 HR7
    generalize varL (j : Int) = P at HO hvl HE
    have hP : P.length ≤ 10 := hvl
    clear hvl
    have c1 := HRb.out.c1
    simp only at c1
    -- a short number is put behind
    go_wp2_with fail
    refine (var_any (t : Int) _ (by omega) (by omega)).mono ?_
    rintro e w6 ⟨v6, rfl, ho6, hb6⟩
    obtain ⟨a6, c6, rfl, hv6⟩ := Bts.of_owns ho6 (varL_byt _ (by omega) (by omega))
    have HV6 := Bx.mk hv6
    have HO6 := Bx.mk (owns_below HO.out hb6)
    have HB6 := Bx.mk (bstep HB.out hb6)
    have hvl := (varL_length (t : Int)).2
    clear ho6 hv6 hb6
    generalize varL (t : Int) = Z at HV6 hvl HE
    go_wp2_with (at_builtin; refine wpList_append_bts rfl _ _ rfl wa.heap.size _ _ _ rfl HO6.out a6 _ c6 Z rfl HV6.out (by omega) HB6.out.size ?_)
    intro v7 w7 ho7 hb7 hg7
    have HO7 : Bx (w7.ownsRow wa.heap.size 5 1 v7 (P ++ Z).length (bv (P ++ Z))) := ⟨by rw [List.length_append]; exact ho7⟩
    have HB7 : Bx (Below wa.heap.size wa w7) := ⟨HB6.out.trans hb7⟩
    have HE7 : Bx (P ++ Z ++ (DH ++ (DS ++ ([(k : Int)] ++ (varL (r : Int) ++ (varL (len : Int) ++ o))))) = TX) := ⟨by rw [List.append_assoc]; exact HE.out⟩
    have hP7 : (P ++ Z).length ≤ 20 := by rw [List.length_append]; omega
    clear ho7 hb7 hg7 HO6 HV6 HB6 HE hP HO HB
    generalize P ++ Z = P7 at HO7 HE7 hP7
    have HR7 := Bx.mk (HR.out.keep (HB7.out.block g0 HR.out.lt))
    clear hvl
    clear c1 HRb
    obtain ⟨P, hPP⟩ : ∃ x, x = P7 := ⟨_, rfl⟩
    subst hPP
    have HO := HO7
    have HB := HB7
    have HE := HE7
    have hP := hP7
    clear HO7 HB7 HE7 hP7
    -- a sum is put behind
    have hsl := dg_at g0 2
    have HV6 := Bx.mk (HR7.out.bH)
    have HO6 := HO
    have HB6 := HB
    have hDl := HDH.out.1
    go_wp2_with (at_builtin; refine wpList_append_bts rfl _ _ rfl wa.heap.size _ _ _ rfl HO6.out (some ⟨g0, 2, none⟩) _ 32 DH rfl HV6.out (by omega) HB6.out.size ?_)
    intro v7 w7 ho7 hb7 hg7
    have HO7 : Bx (w7.ownsRow wa.heap.size 5 1 v7 (P ++ DH).length (bv (P ++ DH))) := ⟨by rw [List.length_append, hDl]; exact ho7⟩
    have HB7 : Bx (Below wa.heap.size wa w7) := ⟨HB6.out.trans hb7⟩
    have HE7 : Bx (P ++ DH ++ (DS ++ ([(k : Int)] ++ (varL (r : Int) ++ (varL (len : Int) ++ o)))) = TX) := ⟨by rw [List.append_assoc]; exact HE.out⟩
    have hP7 : (P ++ DH).length ≤ 52 := by rw [List.length_append, hDl]; omega
    clear ho7 hb7 hg7 HO6 HV6 HB6 HE hP HO HB
    generalize P ++ DH = P7 at HO7 HE7 hP7
    have HR7 := Bx.mk (HR.out.keep (HB7.out.block g0 HR.out.lt))
    clear hsl hDl
    clear HR7
    have HR7 := Bx.mk (HR.out.keep (HB7.out.block g0 HR.out.lt))
    obtain ⟨P, hPP⟩ : ∃ x, x = P7 := ⟨_, rfl⟩
    subst hPP
    have HO := HO7
    have HB := HB7
    have HE := HE7
    have hP := hP7
    clear HO7 HB7 HE7 hP7
    -- a sum is put behind
    have hsl := dg_at g0 34
    have HV6 := Bx.mk (HR7.out.bS)
    have HO6 := HO
    have HB6 := HB
    have hDl := HDS.out.1
    go_wp2_with (at_builtin; refine wpList_append_bts rfl _ _ rfl wa.heap.size _ _ _ rfl HO6.out (some ⟨g0, 34, none⟩) _ 32 DS rfl HV6.out (by omega) HB6.out.size ?_)
    intro v7 w7 ho7 hb7 hg7
    have HO7 : Bx (w7.ownsRow wa.heap.size 5 1 v7 (P ++ DS).length (bv (P ++ DS))) := ⟨by rw [List.length_append, hDl]; exact ho7⟩
    have HB7 : Bx (Below wa.heap.size wa w7) := ⟨HB6.out.trans hb7⟩
    have HE7 : Bx (P ++ DS ++ ([(k : Int)] ++ (varL (r : Int) ++ (varL (len : Int) ++ o))) = TX) := ⟨by rw [List.append_assoc]; exact HE.out⟩
    have hP7 : (P ++ DS).length ≤ 84 := by rw [List.length_append, hDl]; omega
    clear ho7 hb7 hg7 HO6 HV6 HB6 HE hP HO HB
    generalize P ++ DS = P7 at HO7 HE7 hP7
    have HR7 := Bx.mk (HR.out.keep (HB7.out.block g0 HR.out.lt))
    clear hsl hDl
    clear HR7
    have HR7 := Bx.mk (HR.out.keep (HB7.out.block g0 HR.out.lt))
    obtain ⟨P, hPP⟩ : ∃ x, x = P7 := ⟨_, rfl⟩
    subst hPP
    have HO := HO7
    have HB := HB7
    have HE := HE7
    have hP := hP7
    clear HO7 HB7 HE7 hP7
    have c2 := HR7.out.c66
    simp only at c2
    go_upto_region 8 with fail
    -- a byte is put behind
    have hbA : Below w7.heap.size w7 (w7.alloc (.cells #[.int .u8 (k : Int)] 5)) := (Below.refl _ _).alloc (Nat.le_refl _) _
    have HV6 := Bx.mk (bts_oneE w7 (k : Int) ⟨by omega, by omega⟩)
    have HO6 := Bx.mk (owns_below HO.out hbA)
    have HB6 := Bx.mk (bstep HB.out hbA)
    clear hbA
    go_wp2_with (at_builtin; refine wpList_append_bts rfl _ _ rfl wa.heap.size _ _ _ rfl HO6.out (some ⟨w7.heap.size, 0, none⟩) _ 1 [(k : Int)] rfl HV6.out (by omega) HB6.out.size ?_)
    intro v7 w7 ho7 hb7 hg7
    have HO7 : Bx (w7.ownsRow wa.heap.size 5 1 v7 (P ++ [(k : Int)]).length (bv (P ++ [(k : Int)]))) := ⟨by rw [List.length_append, List.length_singleton]; exact ho7⟩
    have HB7 : Bx (Below wa.heap.size wa w7) := ⟨HB6.out.trans hb7⟩
    have HE7 : Bx (P ++ [(k : Int)] ++ (varL (r : Int) ++ (varL (len : Int) ++ o)) = TX) := ⟨by rw [List.append_assoc]; exact HE.out⟩
    have hP7 : (P ++ [(k : Int)]).length ≤ 85 := by rw [List.length_append, List.length_singleton]; omega
    clear ho7 hb7 hg7 HO6 HV6 HB6 HE hP HO HB
    generalize P ++ [(k : Int)] = P7 at HO7 HE7 hP7
    have HR7 := Bx.mk (HR.out.keep (HB7.out.block g0 HR.out.lt))
    clear HR7 c2
    have HR7 := Bx.mk (HR.out.keep (HB7.out.block g0 HR.out.lt))
    obtain ⟨P, hPP⟩ : ∃ x, x = P7 := ⟨_, rfl⟩
    subst hPP
    have HO := HO7
    have HB := HB7
    have HE := HE7
    have hP := hP7
    clear HO7 HB7 HE7 hP7
    have c2 := HR7.out.c68
    simp only at c2
    -- a short number is put behind
    go_wp2_with fail
    refine (var_any (r : Int) _ (by omega) (by omega)).mono ?_
    rintro e w6 ⟨v6, rfl, ho6, hb6⟩
    obtain ⟨a6, c6, rfl, hv6⟩ := Bts.of_owns ho6 (varL_byt _ (by omega) (by omega))
    have HV6 := Bx.mk hv6
    have HO6 := Bx.mk (owns_below HO.out hb6)
    have HB6 := Bx.mk (bstep HB.out hb6)
    have hvl := (varL_length (r : Int)).2
    clear ho6 hv6 hb6
    generalize varL (r : Int) = Z at HV6 hvl HE
    go_wp2_with (at_builtin; refine wpList_append_bts rfl _ _ rfl wa.heap.size _ _ _ rfl HO6.out a6 _ c6 Z rfl HV6.out (by omega) HB6.out.size ?_)
    intro v7 w7 ho7 hb7 hg7
    have HO7 : Bx (w7.ownsRow wa.heap.size 5 1 v7 (P ++ Z).length (bv (P ++ Z))) := ⟨by rw [List.length_append]; exact ho7⟩
    have HB7 : Bx (Below wa.heap.size wa w7) := ⟨HB6.out.trans hb7⟩
    have HE7 : Bx (P ++ Z ++ (varL (len : Int) ++ o) = TX) := ⟨by rw [List.append_assoc]; exact HE.out⟩
    have hP7 : (P ++ Z).length ≤ 95 := by rw [List.length_append]; omega
    clear ho7 hb7 hg7 HO6 HV6 HB6 HE hP HO HB
    generalize P ++ Z = P7 at HO7 HE7 hP7
    have HR7 := Bx.mk (HR.out.keep (HB7.out.block g0 HR.out.lt))
    clear hvl
    clear HR7 c2
    have HR7 := Bx.mk (HR.out.keep (HB7.out.block g0 HR.out.lt))
    obtain ⟨P, hPP⟩ : ∃ x, x = P7 := ⟨_, rfl⟩
    subst hPP
    have HO := HO7
    have HB := HB7
    have HE := HE7
    have hP := hP7
    clear HO7 HB7 HE7 hP7
    have c2 := HR7.out.c67
    -- a short number is put behind
    go_wp2_with fail
    refine (var_any (len : Int) _ (by omega) (by omega)).mono ?_
    rintro e w6 ⟨v6, rfl, ho6, hb6⟩
    obtain ⟨a6, c6, rfl, hv6⟩ := Bts.of_owns ho6 (varL_byt _ (by omega) (by omega))
    have HV6 := Bx.mk hv6
    have HO6 := Bx.mk (owns_below HO.out hb6)
    have HB6 := Bx.mk (bstep HB.out hb6)
    have hvl := (varL_length (len : Int)).2
    clear ho6 hv6 hb6
    generalize varL (len : Int) = Z at HV6 hvl HE
    go_wp2_with (at_builtin; refine wpList_append_bts rfl _ _ rfl wa.heap.size _ _ _ rfl HO6.out a6 _ c6 Z rfl HV6.out (by omega) HB6.out.size ?_)
    intro v7 w7 ho7 hb7 hg7
    have HO7 : Bx (w7.ownsRow wa.heap.size 5 1 v7 (P ++ Z).length (bv (P ++ Z))) := ⟨by rw [List.length_append]; exact ho7⟩
    have HB7 : Bx (Below wa.heap.size wa w7) := ⟨HB6.out.trans hb7⟩
    have HE7 : Bx (P ++ Z ++ o = TX) := ⟨by rw [List.append_assoc]; exact HE.out⟩
    have hP7 : (P ++ Z).length ≤ 105 := by rw [List.length_append]; omega
    clear ho7 hb7 hg7 HO6 HV6 HB6 HE hP HO HB
    generalize P ++ Z = P7 at HO7 HE7 hP7
    have HR7 := Bx.mk (HR.out.keep (HB7.out.block g0 HR.out.lt))
    clear hvl
    clear c2 HR7
    have c2 := (HR.out.keep (HB7.out.block g0 HR.out.lt)).c67
    obtain ⟨P, hPP⟩ : ∃ x, x = P7 := ⟨_, rfl⟩
    subst hPP
    have HO := HO7
    have HB := HB7
    have HE := HE7
    have hP := hP7
    clear HO7 HB7 HE7 hP7
    go_wp2_with fail
    go_loopw [5, 57] (fun v i wr => ∃ m : Nat, m ≤ len ∧ i = .int .i64 m ∧ Bx (wr.ownsRow wa.heap.size 5 1 v (P ++ o.take m).length (bv (P ++ o.take m))) ∧ Bx (Below wa.heap.size wa wr)) (fun _ i _ => len - (intOf i).toNat)
    case atStart => exact ⟨0, Nat.zero_le _, rfl, ⟨by rw [List.take_zero, List.append_nil]; exact HO.out⟩, HB⟩
    case round =>
      clear HO HB c2
      obtain ⟨m, hml, rfl, HO, HB⟩ := hrel
      obtain ⟨vO, hvO⟩ : ∃ x, x = u5 := ⟨_, rfl⟩
      subst hvO
      by_cases hlt : m < len
      · have hkI : (m : Int) < (len : Int) := by omega
        obtain ⟨b, off, rfl, _, x0⟩ := (HIV.out.below HB.out).iv m hlt 0
        obtain ⟨x, hx1, hx2⟩ := HBYT.out m hlt
        have HTK : Bx (P ++ o.take (m + 1) = P ++ o.take m ++ [(x : Int)]) := ⟨by rw [take_succ_getD o m (by rw [HLEN.out]; exact hlt), hx1, List.append_assoc]⟩
        rw [hx1] at x0
        clear hx1
        have hPm : (P ++ o.take m).length ≤ 200 := by rw [List.length_append, List.length_take]; omega
        generalize P ++ o.take m = Q at HO HTK hPm
        have hbA : Below wr.heap.size wr (wr.alloc (.cells #[.int .u8 (x : Int)] 5)) := (Below.refl _ _).alloc (Nat.le_refl _) _
        have HV6 := Bx.mk (bts_oneE wr (x : Int) ⟨by omega, by omega⟩)
        have HO6 := Bx.mk (owns_below HO.out hbA)
        have HB6 := Bx.mk (bstep HB.out hbA)
        clear hbA HO HB
        go_wp2_with (at_builtin; refine wpList_append_bts rfl _ _ rfl wa.heap.size _ _ _ rfl HO6.out (some ⟨wr.heap.size, 0, none⟩) _ 1 [(x : Int)] rfl HV6.out (by omega) HB6.out.size ?_)
        intro v7 w7 ho7 hb7 hg7
        have HO7 : Bx (w7.ownsRow wa.heap.size 5 1 v7 (P ++ o.take (m + 1)).length (bv (P ++ o.take (m + 1)))) := ⟨by rw [HTK.out, List.length_append]; exact ho7⟩
        have HB7 : Bx (Below wa.heap.size wa w7) := ⟨HB6.out.trans hb7⟩
        clear ho7 hb7 hg7 HO6 HV6 HB6
        go_wp2_with fail
        go_roundw
        case rel => exact ⟨m + 1, by omega, by go_num, HO7, HB7⟩
        case measure => simp [intOf]; omega
      · have hkI : ¬ (m : Int) < (len : Int) := by omega
        obtain rfl : m = len := by omega
        have HFO : Bx (wr.ownsRow w.heap.size 5 1 vO (TX).length (bv (TX))) := ⟨by
          have h1 := owns_base HO.out HB0.out.size
          rw [List.take_of_length_le (by rw [HLEN.out]; omega), HE.out] at h1; exact h1⟩
        have HFB := Bx.mk (bstep HB0.out HB.out)
        clear HO HB
        go_wp2_with fail
        go_ret2
        exact ecp_ok HCK.out HTX.out HFO.out HFB.out
  · rw [hok]
    have HCK := Bx.mk hok
    clear hok
    have HB2 := Bx.mk (bstep HB0.out HB1.out)
    go_wp2_with fail
    go_ret2
    exact ecp_no HCK.out HB2.out
set_option maxHeartbeats 4000000 in
set_option maxRecDepth 100000 in
theorem refencode20_any (e : En) (a : Option Addr) (len cap : Nat) (w : World) (h : Ivs w a len cap e.o) (hd : EnD e) :
    Calls Tryd.prog 39 #[.agg (enA e a len cap)] w (EcP e w) := by
  have hb0 : Below w.heap.size w (w.alloc (.cells (enA e a len cap) 35)) := (Below.refl _ _).alloc (Nat.le_refl _) _
  have hr0 := EnB.new (a := a) (n := len) (c := cap) w hd
  obtain ⟨g0, HG⟩ : ∃ g0, Bx (g0 = w.heap.size) := ⟨_, ⟨rfl⟩⟩
  rw [← HG.out] at hr0
  have HB0 := Bx.mk hb0
  have HIV := Bx.mk (h.below hb0)
  have HR := Bx.mk hr0
  have HLEN : Bx (e.o.length = len) := ⟨h.len_eq⟩
  have HD := Bx.mk hd
  have hm := Nat.le_trans h.le_cap h.cap_le
  unfold maxLen at hm
  clear h hb0 hr0 hd
  go_enter Tryd.func39, Tryd.ntmps39
  go_upto_region 1 with fail
  rw [← HG.out]
  generalize w.alloc (.cells (enA e a len cap) 35) = wa at HB0 HIV HR ⊢
  go_wp2_with (refine wpList_load_en rfl (.tmp 1) rfl rfl HR.out ?_)
  refine (refcheck20_any e a len cap _ HIV.out HD.out).mono ?_
  rintro x w1 ⟨rfl, hb1⟩
  have HB1 := Bx.mk hb1
  have HR7 := Bx.mk (HR.out.below hb1)
  clear hb1
  rcases chkN_ways e with hok | hok
  · rw [hok]
    have HCK := Bx.mk hok
    have HCN := Bx.mk (chkN_can hok)
    clear hok
    obtain ⟨TX, HTX⟩ : ∃ TX, Bx (enL e = TX) := ⟨_, ⟨rfl⟩⟩
    have HBYT : Bx (∀ i, i < len → ∃ x : Nat, e.o.getD i 0 = (x : Int) ∧ x ≤ 63) := ⟨fun i hi => by
      have := ordO_iff.1 ((canN_iff _).1 HCN.out).2.2 i (by rw [HLEN.out]; exact hi)
      exact ⟨(e.o.getD i 0).toNat, by omega, by omega⟩⟩
    have hl64 : len ≤ 64 := by have := ordO_len ((canN_iff _).1 HCN.out).2.2; rw [HLEN.out] at this; exact this
    have hn := (numO_iff _).1 ((canN_iff _).1 HCN.out).1
    obtain ⟨j, t, DH, DS, k, r, o⟩ := e
    simp only at hn HIV HLEN HBYT
    obtain ⟨j, rfl⟩ : ∃ n : Nat, j = n := ⟨j.toNat, by omega⟩
    obtain ⟨t, rfl⟩ : ∃ n : Nat, t = n := ⟨t.toNat, by omega⟩
    obtain ⟨k, rfl⟩ : ∃ n : Nat, k = n := ⟨k.toNat, by omega⟩
    obtain ⟨r, rfl⟩ : ∃ n : Nat, r = n := ⟨r.toNat, by omega⟩
    have hj : j ≤ 63 := by omega
    have ht : t ≤ 1099511627776 := by omega
    have hk : 1 ≤ k ∧ k ≤ 4 := by omega
    have hr : r ≤ 1073741824 := by omega
    have HDH : Bx (Dig DH) := ⟨HD.out.1⟩
    have HDS : Bx (Dig DS) := ⟨HD.out.2⟩
    have HE : Bx (varL (j : Int) ++ (varL (t : Int) ++ (DH ++ (DS ++ ([(k : Int)] ++ (varL (r : Int) ++ ([(len : Int)] ++ o)))))) = TX) := ⟨by rw [← HTX.out]; unfold enL; simp only; rw [HLEN.out]⟩
    clear hn HCN HD
    have c0 := HR7.out.c0
    simp only at c0
    go_wp2_with fail
    refine (refvarE_any (j : Int) _ (by omega) (by omega)).mono ?_
    rintro e w6 ⟨v6, rfl, ho6, hb6⟩
    have hvl := (varL_length (j : Int)).2
    have HO : Bx (w6.ownsRow wa.heap.size 5 1 v6 (varL (j : Int)).length (bv (varL (j : Int)))) := ⟨owns_base ho6 HB1.out.size⟩
    have HB := Bx.mk (bstep HB1.out hb6)
    have HRb := Bx.mk (HR7.out.below hb6)
    clear c0 ho6 hb6 HB1 HR7
    generalize varL (j : Int) = P at HO hvl HE
    have hP : P.length ≤ 10 := hvl
    clear hvl
    have c1 := HRb.out.c1
    simp only at c1
    -- a short number is put behind
    go_wp2_with fail
    refine (refvarE_any (t : Int) _ (by omega) (by omega)).mono ?_
    rintro e w6 ⟨v6, rfl, ho6, hb6⟩
    obtain ⟨a6, c6, rfl, hv6⟩ := Bts.of_owns ho6 (varL_byt _ (by omega) (by omega))
    have HV6 := Bx.mk hv6
    have HO6 := Bx.mk (owns_below HO.out hb6)
    have HB6 := Bx.mk (bstep HB.out hb6)
    have hvl := (varL_length (t : Int)).2
    clear ho6 hv6 hb6
    generalize varL (t : Int) = Z at HV6 hvl HE
    go_wp2_with (at_builtin; refine wpList_append_bts rfl _ _ rfl wa.heap.size _ _ _ rfl HO6.out a6 _ c6 Z rfl HV6.out (by omega) HB6.out.size ?_)
    intro v7 w7 ho7 hb7 hg7
    have HO7 : Bx (w7.ownsRow wa.heap.size 5 1 v7 (P ++ Z).length (bv (P ++ Z))) := ⟨by rw [List.length_append]; exact ho7⟩
    have HB7 : Bx (Below wa.heap.size wa w7) := ⟨HB6.out.trans hb7⟩
    have HE7 : Bx (P ++ Z ++ (DH ++ (DS ++ ([(k : Int)] ++ (varL (r : Int) ++ ([(len : Int)] ++ o))))) = TX) := ⟨by rw [List.append_assoc]; exact HE.out⟩
    have hP7 : (P ++ Z).length ≤ 20 := by rw [List.length_append]; omega
    clear ho7 hb7 hg7 HO6 HV6 HB6 HE hP HO HB
    generalize P ++ Z = P7 at HO7 HE7 hP7
    have HR7 := Bx.mk (HR.out.keep (HB7.out.block g0 HR.out.lt))
    clear hvl
    clear c1 HRb
    obtain ⟨P, hPP⟩ : ∃ x, x = P7 := ⟨_, rfl⟩
    subst hPP
    have HO := HO7
    have HB := HB7
    have HE := HE7
    have hP := hP7
    clear HO7 HB7 HE7 hP7
    -- a sum is put behind
    have hsl := dg_at g0 2
    have HV6 := Bx.mk (HR7.out.bH)
    have HO6 := HO
    have HB6 := HB
    have hDl := HDH.out.1
    go_wp2_with (at_builtin; refine wpList_append_bts rfl _ _ rfl wa.heap.size _ _ _ rfl HO6.out (some ⟨g0, 2, none⟩) _ 32 DH rfl HV6.out (by omega) HB6.out.size ?_)
    intro v7 w7 ho7 hb7 hg7
    have HO7 : Bx (w7.ownsRow wa.heap.size 5 1 v7 (P ++ DH).length (bv (P ++ DH))) := ⟨by rw [List.length_append, hDl]; exact ho7⟩
    have HB7 : Bx (Below wa.heap.size wa w7) := ⟨HB6.out.trans hb7⟩
    have HE7 : Bx (P ++ DH ++ (DS ++ ([(k : Int)] ++ (varL (r : Int) ++ ([(len : Int)] ++ o)))) = TX) := ⟨by rw [List.append_assoc]; exact HE.out⟩
    have hP7 : (P ++ DH).length ≤ 52 := by rw [List.length_append, hDl]; omega
    clear ho7 hb7 hg7 HO6 HV6 HB6 HE hP HO HB
    generalize P ++ DH = P7 at HO7 HE7 hP7
    have HR7 := Bx.mk (HR.out.keep (HB7.out.block g0 HR.out.lt))
    clear hsl hDl
    clear HR7
    have HR7 := Bx.mk (HR.out.keep (HB7.out.block g0 HR.out.lt))
    obtain ⟨P, hPP⟩ : ∃ x, x = P7 := ⟨_, rfl⟩
    subst hPP
    have HO := HO7
    have HB := HB7
    have HE := HE7
    have hP := hP7
    clear HO7 HB7 HE7 hP7
    -- a sum is put behind
    have hsl := dg_at g0 34
    have HV6 := Bx.mk (HR7.out.bS)
    have HO6 := HO
    have HB6 := HB
    have hDl := HDS.out.1
    go_wp2_with (at_builtin; refine wpList_append_bts rfl _ _ rfl wa.heap.size _ _ _ rfl HO6.out (some ⟨g0, 34, none⟩) _ 32 DS rfl HV6.out (by omega) HB6.out.size ?_)
    intro v7 w7 ho7 hb7 hg7
    have HO7 : Bx (w7.ownsRow wa.heap.size 5 1 v7 (P ++ DS).length (bv (P ++ DS))) := ⟨by rw [List.length_append, hDl]; exact ho7⟩
    have HB7 : Bx (Below wa.heap.size wa w7) := ⟨HB6.out.trans hb7⟩
    have HE7 : Bx (P ++ DS ++ ([(k : Int)] ++ (varL (r : Int) ++ ([(len : Int)] ++ o))) = TX) := ⟨by rw [List.append_assoc]; exact HE.out⟩
    have hP7 : (P ++ DS).length ≤ 84 := by rw [List.length_append, hDl]; omega
    clear ho7 hb7 hg7 HO6 HV6 HB6 HE hP HO HB
    generalize P ++ DS = P7 at HO7 HE7 hP7
    have HR7 := Bx.mk (HR.out.keep (HB7.out.block g0 HR.out.lt))
    clear hsl hDl
    clear HR7
    have HR7 := Bx.mk (HR.out.keep (HB7.out.block g0 HR.out.lt))
    obtain ⟨P, hPP⟩ : ∃ x, x = P7 := ⟨_, rfl⟩
    subst hPP
    have HO := HO7
    have HB := HB7
    have HE := HE7
    have hP := hP7
    clear HO7 HB7 HE7 hP7
    have c2 := HR7.out.c66
    simp only at c2
    go_upto_region 8 with fail
    -- a byte is put behind
    have hbA : Below w7.heap.size w7 (w7.alloc (.cells #[.int .u8 (k : Int)] 5)) := (Below.refl _ _).alloc (Nat.le_refl _) _
    have HV6 := Bx.mk (bts_oneE w7 (k : Int) ⟨by omega, by omega⟩)
    have HO6 := Bx.mk (owns_below HO.out hbA)
    have HB6 := Bx.mk (bstep HB.out hbA)
    clear hbA
    go_wp2_with (at_builtin; refine wpList_append_bts rfl _ _ rfl wa.heap.size _ _ _ rfl HO6.out (some ⟨w7.heap.size, 0, none⟩) _ 1 [(k : Int)] rfl HV6.out (by omega) HB6.out.size ?_)
    intro v7 w7 ho7 hb7 hg7
    have HO7 : Bx (w7.ownsRow wa.heap.size 5 1 v7 (P ++ [(k : Int)]).length (bv (P ++ [(k : Int)]))) := ⟨by rw [List.length_append, List.length_singleton]; exact ho7⟩
    have HB7 : Bx (Below wa.heap.size wa w7) := ⟨HB6.out.trans hb7⟩
    have HE7 : Bx (P ++ [(k : Int)] ++ (varL (r : Int) ++ ([(len : Int)] ++ o)) = TX) := ⟨by rw [List.append_assoc]; exact HE.out⟩
    have hP7 : (P ++ [(k : Int)]).length ≤ 85 := by rw [List.length_append, List.length_singleton]; omega
    clear ho7 hb7 hg7 HO6 HV6 HB6 HE hP HO HB
    generalize P ++ [(k : Int)] = P7 at HO7 HE7 hP7
    have HR7 := Bx.mk (HR.out.keep (HB7.out.block g0 HR.out.lt))
    clear HR7 c2
    have HR7 := Bx.mk (HR.out.keep (HB7.out.block g0 HR.out.lt))
    obtain ⟨P, hPP⟩ : ∃ x, x = P7 := ⟨_, rfl⟩
    subst hPP
    have HO := HO7
    have HB := HB7
    have HE := HE7
    have hP := hP7
    clear HO7 HB7 HE7 hP7
    have c2 := HR7.out.c68
    simp only at c2
    -- a short number is put behind
    go_wp2_with fail
    refine (refvarE_any (r : Int) _ (by omega) (by omega)).mono ?_
    rintro e w6 ⟨v6, rfl, ho6, hb6⟩
    obtain ⟨a6, c6, rfl, hv6⟩ := Bts.of_owns ho6 (varL_byt _ (by omega) (by omega))
    have HV6 := Bx.mk hv6
    have HO6 := Bx.mk (owns_below HO.out hb6)
    have HB6 := Bx.mk (bstep HB.out hb6)
    have hvl := (varL_length (r : Int)).2
    clear ho6 hv6 hb6
    generalize varL (r : Int) = Z at HV6 hvl HE
    go_wp2_with (at_builtin; refine wpList_append_bts rfl _ _ rfl wa.heap.size _ _ _ rfl HO6.out a6 _ c6 Z rfl HV6.out (by omega) HB6.out.size ?_)
    intro v7 w7 ho7 hb7 hg7
    have HO7 : Bx (w7.ownsRow wa.heap.size 5 1 v7 (P ++ Z).length (bv (P ++ Z))) := ⟨by rw [List.length_append]; exact ho7⟩
    have HB7 : Bx (Below wa.heap.size wa w7) := ⟨HB6.out.trans hb7⟩
    have HE7 : Bx (P ++ Z ++ ([(len : Int)] ++ o) = TX) := ⟨by rw [List.append_assoc]; exact HE.out⟩
    have hP7 : (P ++ Z).length ≤ 95 := by rw [List.length_append]; omega
    clear ho7 hb7 hg7 HO6 HV6 HB6 HE hP HO HB
    generalize P ++ Z = P7 at HO7 HE7 hP7
    have HR7 := Bx.mk (HR.out.keep (HB7.out.block g0 HR.out.lt))
    clear hvl
    clear HR7 c2
    have HR7 := Bx.mk (HR.out.keep (HB7.out.block g0 HR.out.lt))
    obtain ⟨P, hPP⟩ : ∃ x, x = P7 := ⟨_, rfl⟩
    subst hPP
    have HO := HO7
    have HB := HB7
    have HE := HE7
    have hP := hP7
    clear HO7 HB7 HE7 hP7
    have c2 := HR7.out.c67
    go_upto_region 10 with fail
    -- a byte is put behind
    have hbA : Below w7.heap.size w7 (w7.alloc (.cells #[.int .u8 (len : Int)] 5)) := (Below.refl _ _).alloc (Nat.le_refl _) _
    have HV6 := Bx.mk (bts_oneE w7 (len : Int) ⟨by omega, by omega⟩)
    have HO6 := Bx.mk (owns_below HO.out hbA)
    have HB6 := Bx.mk (bstep HB.out hbA)
    clear hbA
    go_wp2_with (at_builtin; refine wpList_append_bts rfl _ _ rfl wa.heap.size _ _ _ rfl HO6.out (some ⟨w7.heap.size, 0, none⟩) _ 1 [(len : Int)] rfl HV6.out (by omega) HB6.out.size ?_)
    intro v7 w7 ho7 hb7 hg7
    have HO7 : Bx (w7.ownsRow wa.heap.size 5 1 v7 (P ++ [(len : Int)]).length (bv (P ++ [(len : Int)]))) := ⟨by rw [List.length_append, List.length_singleton]; exact ho7⟩
    have HB7 : Bx (Below wa.heap.size wa w7) := ⟨HB6.out.trans hb7⟩
    have HE7 : Bx (P ++ [(len : Int)] ++ o = TX) := ⟨by rw [List.append_assoc]; exact HE.out⟩
    have hP7 : (P ++ [(len : Int)]).length ≤ 105 := by rw [List.length_append, List.length_singleton]; omega
    clear ho7 hb7 hg7 HO6 HV6 HB6 HE hP HO HB
    generalize P ++ [(len : Int)] = P7 at HO7 HE7 hP7
    have HR7 := Bx.mk (HR.out.keep (HB7.out.block g0 HR.out.lt))
    clear c2 HR7
    obtain ⟨P, hPP⟩ : ∃ x, x = P7 := ⟨_, rfl⟩
    subst hPP
    have HO := HO7
    have HB := HB7
    have HE := HE7
    have hP := hP7
    clear HO7 HB7 HE7 hP7
    go_wp2_with fail
    go_loopw [5, 6] (fun v i wr => ∃ m : Nat, m ≤ len ∧ i = .int .i64 m ∧ Bx (wr.ownsRow wa.heap.size 5 1 v (P ++ o.take m).length (bv (P ++ o.take m))) ∧ Bx (Below wa.heap.size wa wr)) (fun _ i _ => len - (intOf i).toNat)
    case atStart => exact ⟨0, Nat.zero_le _, rfl, ⟨by rw [List.take_zero, List.append_nil]; exact HO.out⟩, HB⟩
    case round =>
      clear HO HB
      obtain ⟨m, hml, rfl, HO, HB⟩ := hrel
      obtain ⟨vO, hvO⟩ : ∃ x, x = u5 := ⟨_, rfl⟩
      subst hvO
      have c2 := (HR.out.keep (HB.out.block g0 HR.out.lt)).c67
      by_cases hlt : m < len
      · have hkI : (m : Int) < (len : Int) := by omega
        obtain ⟨b, off, rfl, _, x0⟩ := (HIV.out.below HB.out).iv m hlt 0
        obtain ⟨x, hx1, hx2⟩ := HBYT.out m hlt
        have HTK : Bx (P ++ o.take (m + 1) = P ++ o.take m ++ [(x : Int)]) := ⟨by rw [take_succ_getD o m (by rw [HLEN.out]; exact hlt), hx1, List.append_assoc]⟩
        rw [hx1] at x0
        clear hx1
        have hPm : (P ++ o.take m).length ≤ 200 := by rw [List.length_append, List.length_take]; omega
        generalize P ++ o.take m = Q at HO HTK hPm
        have hbA : Below wr.heap.size wr (wr.alloc (.cells #[.int .u8 (x : Int)] 5)) := (Below.refl _ _).alloc (Nat.le_refl _) _
        have HV6 := Bx.mk (bts_oneE wr (x : Int) ⟨by omega, by omega⟩)
        have HO6 := Bx.mk (owns_below HO.out hbA)
        have HB6 := Bx.mk (bstep HB.out hbA)
        clear hbA HO HB
        go_wp2_with (at_builtin; refine wpList_append_bts rfl _ _ rfl wa.heap.size _ _ _ rfl HO6.out (some ⟨wr.heap.size, 0, none⟩) _ 1 [(x : Int)] rfl HV6.out (by omega) HB6.out.size ?_)
        intro v7 w7 ho7 hb7 hg7
        have HO7 : Bx (w7.ownsRow wa.heap.size 5 1 v7 (P ++ o.take (m + 1)).length (bv (P ++ o.take (m + 1)))) := ⟨by rw [HTK.out, List.length_append]; exact ho7⟩
        have HB7 : Bx (Below wa.heap.size wa w7) := ⟨HB6.out.trans hb7⟩
        clear ho7 hb7 hg7 HO6 HV6 HB6 c2
        go_wp2_with fail
        go_roundw
        case rel => exact ⟨m + 1, by omega, by go_num, HO7, HB7⟩
        case measure => simp [intOf]; omega
      · have hkI : ¬ (m : Int) < (len : Int) := by omega
        obtain rfl : m = len := by omega
        have HFO : Bx (wr.ownsRow w.heap.size 5 1 vO (TX).length (bv (TX))) := ⟨by
          have h1 := owns_base HO.out HB0.out.size
          rw [List.take_of_length_le (by rw [HLEN.out]; omega), HE.out] at h1; exact h1⟩
        have HFB := Bx.mk (bstep HB0.out HB.out)
        clear HO HB
        go_wp2_with fail
        go_ret2
        exact ecp_ok HCK.out HTX.out HFO.out HFB.out
  · rw [hok]
    have HCK := Bx.mk hok
    clear hok
    have HB2 := Bx.mk (bstep HB0.out HB1.out)
    go_wp2_with fail
    go_ret2
    exact ecp_no HCK.out HB2.out
end Go.Proofs.YtbednfacipphhaaDoor
