/- What the first line says, as the document reads it. What further lines say, as the document reads them. -/
import Derived.Test.YtdameoejigpnhaaGreatDoorWrm
import Derived.Test.YtdameoejigpnhaaGreatDoorRefFields
import Derived.Test.YtdameoejigpnhaaGreatDoorWrg
import Derived.Deep.CutRange
import Derived.Deep.RegionHeld3
namespace Go.Proofs.YtdameoejigpnhaaGreatDoor
open Go.RowKit
set_option linter.unusedVariables false

/-- what the document's head is in memory -/
structure RH (w : World) (g : Nat) (h : HD) : Prop where
  row : w.heap[g]? = some (.cells #[.string h.m, .string h.t, .string h.k, .slice none 0 0, .bool h.auth, .bool h.len, .bool h.enc, .int .i64 (h.n : Int)] 62 (0, 0))
variable {w w' : World} {g : Nat} {h : HD}
set_option maxRecDepth 100000 in
theorem RH.lt (r : RH w g h) : g < w.heap.size := (Array.getElem?_eq_some_iff.1 r.row).1
set_option maxRecDepth 100000 in
theorem RH.c (r : RH w g h) (j : Nat) : w.cell? ⟨g, j, none⟩ = (#[.string h.m, .string h.t, .string h.k, .slice none 0 0, .bool h.auth, .bool h.len, .bool h.enc, .int .i64 (h.n : Int)] : Array Value)[j]? := cell_of_row w g j _ _ (0, 0) r.row
set_option maxRecDepth 100000 in
theorem RH.f (r : RH w g h) (j : Nat) : w.frozen? ⟨g, j, none⟩ = false := frozen_of_row _ _ j _ _ r.row
set_option maxRecDepth 100000 in
theorem RH.below (r : RH w g h) (hb : Below w.heap.size w w') : RH w' g h := ⟨by rw [hb.block g r.lt]; exact r.row⟩
set_option maxRecDepth 100000 in
theorem RH.keep (r : RH w g h) (hb : w'.heap[g]? = w.heap[g]?) : RH w' g h := ⟨by rw [hb]; exact r.row⟩
set_option maxRecDepth 100000 in
theorem RH.sM (r : RH w g h) (z : ByteArray) : RH (w.setCell ⟨g, 0, none⟩ (.string z)) g { h with m := z } := ⟨heap_setCell_same w g 0 _ _ _ r.row⟩
set_option maxRecDepth 100000 in
theorem RH.sT (r : RH w g h) (z : ByteArray) : RH (w.setCell ⟨g, 1, none⟩ (.string z)) g { h with t := z } := ⟨heap_setCell_same w g 1 _ _ _ r.row⟩
set_option maxRecDepth 100000 in
theorem RH.sK (r : RH w g h) (z : ByteArray) : RH (w.setCell ⟨g, 2, none⟩ (.string z)) g { h with k := z } := ⟨heap_setCell_same w g 2 _ _ _ r.row⟩
set_option maxRecDepth 100000 in
theorem RH.sA (r : RH w g h) (z : Bool) : RH (w.setCell ⟨g, 4, none⟩ (.bool z)) g { h with auth := z } := ⟨heap_setCell_same w g 4 _ _ _ r.row⟩
set_option maxRecDepth 100000 in
theorem RH.sL (r : RH w g h) (z : Bool) : RH (w.setCell ⟨g, 5, none⟩ (.bool z)) g { h with len := z } := ⟨heap_setCell_same w g 5 _ _ _ r.row⟩
set_option maxRecDepth 100000 in
theorem RH.sE (r : RH w g h) (z : Bool) : RH (w.setCell ⟨g, 6, none⟩ (.bool z)) g { h with enc := z } := ⟨heap_setCell_same w g 6 _ _ _ r.row⟩
set_option maxRecDepth 100000 in
theorem RH.sN (r : RH w g h) (z : Nat) : RH (w.setCell ⟨g, 7, none⟩ (.int .i64 (z : Int))) g { h with n := z } := ⟨heap_setCell_same w g 7 _ _ _ r.row⟩
set_option maxRecDepth 100000 in
theorem kset1 {a : World} (k : Kept (fun k => k = g) a w) (j : Nat) (z : Value) : Kept (fun k => k = g) a (w.setCell ⟨g, j, none⟩ z) := k.setCell (g := g) (.inl rfl) j z
set_option maxRecDepth 100000 in
set_option maxHeartbeats 2000000 in
theorem rfirst_any (g : Nat) (h : HD) (l : List Int) (w : World) (hm : RH w g h) (hl : Byt l) (hll : l.length ≤ 1000000) :
    Calls Tryz.prog 27 #[.pointer (some ⟨g, 0, none⟩), .string (strOf l)] w fun e w' => e = .returned (.int .i64 (fstE l)) ∧ RH w' g (fstH h l) ∧ Kept (fun k => k = g) w w' := by
  have C0 : Hid (Calls Tryz.prog 39 #[.string (strOf l), .int .u8 32, .int .i64 3] w (FP (cb 32) (strOf l) 3 w)) := reffields_any (strOf l) 32 3 w (by rw [strOf_size]; omega) (by decide)
  unfold FP fOk fL at C0
  rw [pcs_link 32 (by decide) l hl] at C0
  have HH := Bx.mk hm
  have HB := Bx.mk (pcs_byt 32 l hl)
  have hgl := hm.lt
  clear hm
  by_cases h3 : (pcsI 32 l).length = 3
  · obtain ⟨m, t, v, hp⟩ : ∃ m t v, pcsI 32 l = [m, t, v] := by
      match hq : pcsI 32 l, h3 with
      | [m, t, v], _ => exact ⟨m, t, v, rfl⟩
    rw [hp] at C0 HB
    have hbm := HB.out m (by simp)
    have hbt := HB.out t (by simp)
    have hbv := HB.out v (by simp)
    have HV : Bx (fstV l = if v = versM ∧ (m = getM ∨ m = postM ∨ m = putM) ∧ tgB t = true then some (strOf m, strOf t) else none) := ⟨by unfold fstV; rw [hp]⟩
    rw [if_pos (by simp)] at C0
    have hdec : decide (((List.map strOf [m, t, v]).length : Int) ≤ 3) = true := by simp
    rw [hdec] at C0
    clear hdec
    have e3 : ((strOf v).toList == [72, 84, 84, 80, 47, 49, 46, 49]) = decide (v = versM) := lit_eq hbv.1 versM (byt_dec (by decide)) _ rfl
    have m1 : ((strOf m).toList == [71, 69, 84]) = decide (m = getM) := lit_eq hbm.1 getM (byt_dec (by decide)) _ rfl
    have m2 : ((strOf m).toList == [80, 79, 83, 84]) = decide (m = postM) := lit_eq hbm.1 postM (byt_dec (by decide)) _ rfl
    have m3 : ((strOf m).toList == [80, 85, 84]) = decide (m = putM) := lit_eq hbm.1 putM (byt_dec (by decide)) _ rfl
    have HSB : Bx (∀ i, i < t.length → sb (strOf t) i = t.getD i 0) := ⟨fun i hi => sb_strOf hbt.1 i hi⟩
    have HSZ : Bx ((strOf t).size = t.length) := ⟨strOf_size t⟩
    have hts : t.length ≤ 1000000 := by omega
    simp only [List.map_cons, List.map_nil] at C0
    clear hp h3 hbm hbt hbv HB
    generalize hsm : strOf m = sm at *
    generalize hst : strOf t = st at *
    generalize hsv : strOf v = sw at *
    generalize strOf l = s at *
    clear hsm hst hsv
    go_enter Tryz.func27, Tryz.ntmps27
    go_wp2_with fail
    refine C0.out.mono ?_
    rintro e w1 ⟨vv, rfl, ho, hb⟩
    have HB1 := Bx.mk hb
    obtain ⟨g2, cap, rfl, hg2, _⟩ := owns_form ho (by simp)
    have d0 : w1.cell? ⟨g2, 0, none⟩ = some (.string sm) := by rw [ho.cellAt 0 (by simp)]; rfl
    have d1 : w1.cell? ⟨g2, 1, none⟩ = some (.string st) := by rw [ho.cellAt 1 (by simp)]; rfl
    have d2 : w1.cell? ⟨g2, 2, none⟩ = some (.string sw) := by rw [ho.cellAt 2 (by simp)]; rfl
    have hne : g2 ≠ g := by omega
    have HH1 := Bx.mk (HH.out.below hb)
    clear ho hb C0
    by_cases hv : v = versM
    · rw [decide_eq_true hv] at e3
      by_cases hmm : m = getM ∨ m = postM ∨ m = putM
      · -- the method is one: whichever
        have HMM := Bx.mk hmm
        have gm : (sm.toList == [71, 69, 84]) = true ∨ (sm.toList == [71, 69, 84]) = false ∧ (sm.toList == [80, 79, 83, 84]) = true ∨ (sm.toList == [71, 69, 84]) = false ∧ (sm.toList == [80, 79, 83, 84]) = false ∧ (sm.toList == [80, 85, 84]) = true := by
          rw [m1, m2, m3]
          by_cases a1 : m = getM
          · exact .inl (decide_eq_true a1)
          · by_cases a2 : m = postM
            · exact .inr (.inl ⟨decide_eq_false a1, decide_eq_true a2⟩)
            · have a3 : m = putM := by rcases hmm with h | h | h; exact absurd h a1; exact absurd h a2; exact h
              exact .inr (.inr ⟨decide_eq_false a1, decide_eq_false a2, decide_eq_true a3⟩)
        have HTG : Bx (tgB t = (decide (1 ≤ t.length) && (decide (t.length ≤ 64) && (decide (t.getD 0 0 = 47) && t.all tgC)))) := ⟨rfl⟩
        have HVY : Bx (tgB t = true → fstV l = some (sm, st)) := ⟨fun h => by rw [HV.out, if_pos ⟨hv, hmm, h⟩]⟩
        have HVN : Bx (tgB t = false → fstV l = none) := ⟨fun h => by rw [HV.out, if_neg (fun hh => by rw [h] at hh; cases hh.2.2)]⟩
        clear m1 m2 m3 hmm hv HV
        go_upto_region 4 with fail
        go_cut [44] from 29 to 44 (fun c wx => c = .bool false ∧ w1 = wx)
        case first =>
          rcases gm with gm | ⟨gm, gm2⟩ | ⟨gm, gm2, gm3⟩
          · go_wp2_with fail
            go_meet
            exact ⟨rfl, rfl⟩
          · go_wp2_with fail
            go_meet
            exact ⟨rfl, rfl⟩
          · go_wp2_with fail
            go_meet
            exact ⟨rfl, rfl⟩
        case rest =>
          obtain ⟨rfl, rfl⟩ := hcut
          clear gm HMM
          by_cases t1 : 1 ≤ t.length
          · have u1 : ¬ (st.size : Int) < 1 := by have := HSZ.out; omega
            by_cases t2 : t.length ≤ 64
            · have u2 : ¬ (64 : Int) < (st.size : Int) := by have := HSZ.out; omega
              have hz0 : 0 < st.size := by have := HSZ.out; omega
              have hin0 : (((st[0]'hz0).toNat : Nat) : Int) = sb st 0 := sb_eq st 0 hz0
              have HC0 : Bx (sb st 0 = t.getD 0 0) := ⟨HSB.out 0 (by omega)⟩
              generalize sb st 0 = C0 at hin0 HC0
              by_cases t3 : C0 = 47
              · have u3 : (C0 != 47) = false := by simp [t3]
                have HTA : Bx (tgB t = t.all tgC) := ⟨by rw [HTG.out, decide_eq_true t1, decide_eq_true t2, decide_eq_true (by rw [← HC0.out]; exact t3)]; rfl⟩
                clear t3 HTG
                go_wp2_with fail
                go_loopw [7] (fun i wr => ∃ (k : Nat), k ≤ st.size ∧ i = .int .i64 k ∧ w1 = wr ∧ Bx (∀ j, j < k → tgC (t.getD j 0) = true)) (fun i _ => st.size - (intOf i).toNat)
                case atStart => exact ⟨0, Nat.zero_le _, rfl, rfl, ⟨fun j hj => by omega⟩⟩
                case round =>
                  obtain ⟨k, hk, rfl, rfl, HJ⟩ := hrel
                  by_cases hlt : k < st.size
                  · have hkI : (k : Int) < (st.size : Int) := by omega
                    have hin : (((st[k]'hlt).toNat : Nat) : Int) = sb st k := sb_eq st k hlt
                    have HC : Bx (sb st k = t.getD k 0) := ⟨HSB.out k (by have := HSZ.out; omega)⟩
                    have hbd := sb_byt st k
                    generalize sb st k = C at hin HC hbd
                    by_cases c97 : 97 ≤ C
                    · have v97 : C ≥ 97 := c97
                      have v48 : C ≥ 48 := by omega
                      have v57 : ¬ C ≤ 57 := by omega
                      by_cases c122 : C ≤ 122
                      · skip
                        have HJ2 : Bx (∀ j, j < k + 1 → tgC (t.getD j 0) = true) := ⟨all_step HJ.out (by rw [← HC.out, tgC_eq]; unfold smB dig; simp; omega)⟩
                        go_wp2
                        go_roundw
                        case rel => exact ⟨k + 1, by omega, by go_num, by first | rfl | trivial, HJ2⟩
                        case measure => simp [intOf]; omega
                      · have v45 : (C != 45) = true := by simp; omega
                        have v47 : (C != 47) = true := by simp; omega
                        have HE : Bx (fstV l = none) := ⟨HVN.out (by rw [HTA.out]; exact not_all_of (k := k) (by have := HSZ.out; omega) (by rw [← HC.out, tgC_eq]; unfold smB dig; simp; omega))⟩
                        go_wp2
                        go_ret
                        refine ⟨by unfold fstE; rw [HE.out]; rfl, ?_, Kept.of_below HB1.out⟩
                        unfold fstH; rw [HE.out]; exact HH1.out
                    · have v97 : ¬ C ≥ 97 := c97
                      by_cases c48 : 48 ≤ C
                      · have v48 : C ≥ 48 := c48
                        by_cases c57 : C ≤ 57
                        · skip
                          have HJ2 : Bx (∀ j, j < k + 1 → tgC (t.getD j 0) = true) := ⟨all_step HJ.out (by rw [← HC.out, tgC_eq]; unfold smB dig; simp; omega)⟩
                          go_wp2
                          go_roundw
                          case rel => exact ⟨k + 1, by omega, by go_num, by first | rfl | trivial, HJ2⟩
                          case measure => simp [intOf]; omega
                        · have v45 : (C != 45) = true := by simp; omega
                          have v47 : (C != 47) = true := by simp; omega
                          have HE : Bx (fstV l = none) := ⟨HVN.out (by rw [HTA.out]; exact not_all_of (k := k) (by have := HSZ.out; omega) (by rw [← HC.out, tgC_eq]; unfold smB dig; simp; omega))⟩
                          go_wp2
                          go_ret
                          refine ⟨by unfold fstE; rw [HE.out]; rfl, ?_, Kept.of_below HB1.out⟩
                          unfold fstH; rw [HE.out]; exact HH1.out
                      · have v48 : ¬ C ≥ 48 := c48
                        by_cases c45 : C = 45
                        · have v45 : (C != 45) = false := by simp [c45]
                          have HJ2 : Bx (∀ j, j < k + 1 → tgC (t.getD j 0) = true) := ⟨all_step HJ.out (by rw [← HC.out, tgC_eq]; unfold smB dig; simp; omega)⟩
                          clear c45
                          go_wp2
                          go_roundw
                          case rel => exact ⟨k + 1, by omega, by go_num, by first | rfl | trivial, HJ2⟩
                          case measure => simp [intOf]; omega
                        · have v45 : (C != 45) = true := by simp [c45]
                          by_cases c47 : C = 47
                          · have v47 : (C != 47) = false := by simp [c47]
                            have HJ2 : Bx (∀ j, j < k + 1 → tgC (t.getD j 0) = true) := ⟨all_step HJ.out (by rw [← HC.out, tgC_eq]; unfold smB dig; simp; omega)⟩
                            clear c45 c47
                            go_wp2
                            go_roundw
                            case rel => exact ⟨k + 1, by omega, by go_num, by first | rfl | trivial, HJ2⟩
                            case measure => simp [intOf]; omega
                          · have v47 : (C != 47) = true := by simp [c47]
                            have HE : Bx (fstV l = none) := ⟨HVN.out (by rw [HTA.out]; exact not_all_of (k := k) (by have := HSZ.out; omega) (by rw [← HC.out, tgC_eq]; unfold smB dig; simp; omega))⟩
                            go_wp2
                            go_ret
                            refine ⟨by unfold fstE; rw [HE.out]; rfl, ?_, Kept.of_below HB1.out⟩
                            unfold fstH; rw [HE.out]; exact HH1.out
                  · have hge : ¬ (k : Int) < (st.size : Int) := by omega
                    have HE : Bx (fstV l = some (sm, st)) := ⟨HVY.out (by rw [HTA.out]; exact all_of_getD fun j hj => HJ.out j (by have := HSZ.out; omega))⟩
                    have f4 := HH1.out.f 0
                    have k0 := HH1.out.c 0
                    have k1 : (w1.setCell ⟨g, 0, none⟩ (.string sm)).cell? ⟨g, 1, none⟩ = some (.string h.t) := (HH1.out.sM sm).c 1
                    have f5 := (HH1.out.sM sm).f 1
                    have HF : Bx (RH ((w1.setCell ⟨g, 0, none⟩ (.string sm)).setCell ⟨g, 1, none⟩ (.string st)) g (fstH h l) ∧ Kept (fun k => k = g) w ((w1.setCell ⟨g, 0, none⟩ (.string sm)).setCell ⟨g, 1, none⟩ (.string st))) := ⟨by
                      refine ⟨?_, kset1 (kset1 (Kept.of_below HB1.out) _ _) _ _⟩
                      have h5 := (HH1.out.sM sm).sT st
                      unfold fstH; rw [HE.out]; exact h5⟩
                    go_wp2_with fail
                    go_region
                    go_wp2
                    go_ret
                    exact ⟨by unfold fstE; rw [HE.out]; rfl, HF.out.1.keep rfl, HF.out.2.drew⟩
              · have u3 : (C0 != 47) = true := by simp [t3]
                have HE : Bx (fstV l = none) := ⟨HVN.out (by rw [HTG.out, decide_eq_false (fun h => t3 (by rw [HC0.out]; exact h) : ¬ t.getD 0 0 = 47)]; simp)⟩
                clear t3 HTG
                go_wp2
                go_ret
                refine ⟨by unfold fstE; rw [HE.out]; rfl, ?_, Kept.of_below HB1.out⟩
                unfold fstH; rw [HE.out]; exact HH1.out
            · have u2 : (64 : Int) < (st.size : Int) := by have := HSZ.out; omega
              have HE : Bx (fstV l = none) := ⟨HVN.out (by rw [HTG.out, decide_eq_false t2]; simp)⟩
              clear HTG
              go_wp2
              go_ret
              refine ⟨by unfold fstE; rw [HE.out]; rfl, ?_, Kept.of_below HB1.out⟩
              unfold fstH; rw [HE.out]; exact HH1.out
          · have u1 : (st.size : Int) < 1 := by have := HSZ.out; omega
            have HE : Bx (fstV l = none) := ⟨HVN.out (by rw [HTG.out, decide_eq_false t1]; simp)⟩
            clear HTG
            go_wp2
            go_ret
            refine ⟨by unfold fstE; rw [HE.out]; rfl, ?_, Kept.of_below HB1.out⟩
            unfold fstH; rw [HE.out]; exact HH1.out
      · have g1 : (sm.toList == [71, 69, 84]) = false := by rw [m1, decide_eq_false (fun h => hmm (.inl h))]
        have g2 : (sm.toList == [80, 79, 83, 84]) = false := by rw [m2, decide_eq_false (fun h => hmm (.inr (.inl h)))]
        have g3 : (sm.toList == [80, 85, 84]) = false := by rw [m3, decide_eq_false (fun h => hmm (.inr (.inr h)))]
        have HE : Bx (fstV l = none) := ⟨by rw [HV.out, if_neg (fun hh => hmm hh.2.1)]⟩
        clear HV m1 m2 m3 hmm
        go_wp2
        go_ret
        refine ⟨by unfold fstE; rw [HE.out]; rfl, ?_, Kept.of_below HB1.out⟩
        unfold fstH; rw [HE.out]; exact HH1.out
    · rw [decide_eq_false hv] at e3
      have HE : Bx (fstV l = none) := ⟨by rw [HV.out, if_neg (fun hh => hv hh.1)]⟩
      clear HV m1 m2 m3
      go_wp2
      go_ret
      refine ⟨by unfold fstE; rw [HE.out]; rfl, ?_, Kept.of_below HB1.out⟩
      unfold fstH; rw [HE.out]; exact HH1.out
  · have HE : Bx (fstV l = none) := ⟨by
      unfold fstV
      match hq : pcsI 32 l, h3 with
      | [], _ => rfl
      | [_], _ => rfl
      | [_, _], _ => rfl
      | [_, _, _], h => exact absurd rfl h
      | _ :: _ :: _ :: _ :: _, _ => rfl⟩
    generalize hq : (pcsI 32 l).map strOf = P at C0
    have hqn : ¬ P.length = 3 := by rw [← hq, List.length_map]; exact h3
    have hfl : ¬ (if (P.length : Int) ≤ 3 then P else []).length = 3 := by
      split
      · exact hqn
      · simp
    generalize (if (P.length : Int) ≤ 3 then P else []) = F at C0 hfl
    generalize decide ((P.length : Int) ≤ 3) = D at C0
    clear hq hqn h3 HB
    have hfi : ((F.length : Int) != 3) = true := by simp; omega
    clear hfl
    cases D with
    | true =>
      go_enter Tryz.func27, Tryz.ntmps27
      go_wp2_with fail
      refine C0.out.mono ?_
      rintro e w1 ⟨vv, rfl, ho, hb⟩
      have HB1 := Bx.mk hb
      obtain ⟨ao, cap, rfl⟩ := owns_slice ho
      have HH1 := Bx.mk (HH.out.below hb)
      clear ho hb
      go_wp2
      go_ret
      refine ⟨by unfold fstE; rw [HE.out]; rfl, ?_, Kept.of_below HB1.out⟩
      unfold fstH; rw [HE.out]; exact HH1.out
    | false =>
      go_enter Tryz.func27, Tryz.ntmps27
      go_wp2_with fail
      refine C0.out.mono ?_
      rintro e w1 ⟨vv, rfl, ho, hb⟩
      have HB1 := Bx.mk hb
      obtain ⟨ao, cap, rfl⟩ := owns_slice ho
      have HH1 := Bx.mk (HH.out.below hb)
      clear ho hb
      go_wp2
      go_ret
      refine ⟨by unfold fstE; rw [HE.out]; rfl, ?_, Kept.of_below HB1.out⟩
      unfold fstH; rw [HE.out]; exact HH1.out
end Go.Proofs.YtdameoejigpnhaaGreatDoor
namespace Go.Proofs.YtdameoejigpnhaaGreatDoor
open Go.RowKit
set_option linter.unusedVariables false

set_option maxRecDepth 100000 in
theorem ext_take (v : List Int) (k : Nat) : (strOf v).extract 0 k = strOf (v.take k) := by
  apply ba_ext
  rw [Lib.extract_data, strOf_data, strOf_data, Nat.sub_zero, List.drop_zero, List.map_take]
set_option maxRecDepth 100000 in
theorem ext_drop (v : List Int) (k : Nat) : (strOf v).extract k (strOf v).size = strOf (v.drop k) := by
  apply ba_ext
  rw [Lib.extract_data, strOf_data, strOf_data, List.map_drop, List.take_of_length_le]
  rw [List.length_drop, List.length_map, strOf_size]; omega
set_option maxRecDepth 100000 in
set_option maxHeartbeats 2000000 in
theorem rfur_any (g : Nat) (h : HD) (l : List Int) (w : World) (hm : RH w g h) (hl : Byt l) (hll : l.length ≤ 1000000) :
    Calls Tryz.prog 29 #[.pointer (some ⟨g, 0, none⟩), .string (strOf l)] w fun e w' => e = .returned (.int .i64 (furV h l).2) ∧ RH w' g (furV h l).1 ∧ Kept (fun k => k = g) w w' := by
  have C1 : Hid (Calls Tryz.prog 41 #[.string (strOf l)] w fun e w' => e = .returned (.int .i64 (nmV l)) ∧ Below w.heap.size w w') := rnamed_any l w hl hll
  have HH := Bx.mk hm
  clear hm
  cases hn : namI l with
  | none =>
    have HF : Bx (furV h l = (h, 4)) := ⟨by unfold furV; rw [hn]⟩
    have HNV : nmV l = -1 := by unfold nmV; rw [hn]
    rw [HNV] at C1
    generalize strOf l = s at C1
    clear HNV hn
    go_enter Tryz.func29, Tryz.ntmps29
    go_wp2_with fail
    refine C1.out.mono ?_
    rintro e w1 ⟨rfl, hb1⟩
    have HB1 := Bx.mk hb1
    clear hb1
    go_wp2
    go_ret
    exact ⟨by rw [HF.out]; rfl, by rw [HF.out]; exact HH.out.below HB1.out, Kept.of_below HB1.out⟩
  | some i =>
    have hi2 : i + 2 ≤ l.length := by
      unfold namI at hn
      split at hn
      · rename_i hc; cases hn; omega
      · cases hn
    have HF : Bx (furV h l = sayV h ((l.take i).map lowB) (l.drop (i + 2))) := ⟨by unfold furV; rw [hn]⟩
    have HNV : nmV l = (i : Int) := by unfold nmV; rw [hn]
    rw [HNV] at C1
    have hbt : Byt (l.take i) := hl.take i
    have hbd : Byt (l.drop (i + 2)) := fun c hc => hl c (List.mem_of_mem_drop hc)
    have C3 : Hid (∀ w', Calls Tryz.prog 42 #[.string (strOf (l.take i))] w' fun e w'' => e = .returned (.string (strOf ((l.take i).map lowB))) ∧ Below w'.heap.size w' w'') := fun w' => rsmall_any (l.take i) w' hbt (by rw [List.length_take]; omega)
    have x1 : (strOf l).extract 0 i = strOf (l.take i) := ext_take l i
    have x2 : (strOf l).extract ((i : Int) + 2).toNat (strOf l).size = strOf (l.drop (i + 2)) := ext_drop l (i + 2)
    have hsz : (strOf l).size = l.length := strOf_size l
    have z1 : (i : Int) ≤ ((strOf l).size : Int) := by rw [hsz]; omega
    have z2 : (i : Int) + 2 ≤ ((strOf l).size : Int) := by rw [hsz]; omega
    have z3 : (strOf l).size ≤ 1000000 := by rw [hsz]; exact hll
    have hvl : (l.drop (i + 2)).length ≤ 1000000 := by rw [List.length_drop]; omega
    have hnb := low_byt hbt
    have HBD := Bx.mk hbd
    clear hn HNV hbt hi2 hsz
    generalize l.drop (i + 2) = v at *
    generalize (l.take i).map lowB = nm at *
    generalize strOf (l.take i) = st at *
    generalize strOf l = s at *
    have e1 : ((strOf nm).toList == [97, 117, 116, 104, 111, 114, 105, 122, 97, 116, 105, 111, 110]) = decide (nm = authN) := lit_eq hnb authN (byt_dec (by decide)) _ rfl
    have e2 : ((strOf nm).toList == [99, 111, 110, 116, 101, 110, 116, 45, 108, 101, 110, 103, 116, 104]) = decide (nm = lenN) := lit_eq hnb lenN (byt_dec (by decide)) _ rfl
    have e3 : ((strOf nm).toList == [116, 114, 97, 110, 115, 102, 101, 114, 45, 101, 110, 99, 111, 100, 105, 110, 103]) = decide (nm = encN) := lit_eq hnb encN (byt_dec (by decide)) _ rfl
    generalize hsn : strOf nm = sn at *
    clear hsn hnb
    have z8 : IntKind.i64.wrap ((i : Int) + 2) = (i : Int) + 2 := IntWalk.i64_in _ (by omega)
    have z6 : (0 : Int) ≤ (i : Int) := by omega
    have z7 : (0 : Int) ≤ (i : Int) + 2 := by omega
    go_enter Tryz.func29, Tryz.ntmps29
    go_wp2_with fail
    refine C1.out.mono ?_
    rintro e w1 ⟨rfl, hb1⟩
    have HB1 := Bx.mk hb1
    have hl0 : Below w.heap.size w w1.drew := ⟨hb1.os, hb1.tape, hb1.output, hb1.size, hb1.block⟩
    clear hb1
    go_wp2_with fail
    go_region_held3 (fun W => Below w.heap.size w W) (first | (exact hl0) | (exact bstep (by assumption) hb6) | (assumption)) (first | (go_at_call 42; refine (C3.out _).mono ?_; rintro e6 w6 ⟨rfl, hb6⟩))
    rename_i hHeld
    have HB6 := Bx.mk hHeld
    have HH6 := Bx.mk (HH.out.below hHeld)
    clear hHeld hl0 hb6 z1 z2 z3 z6 z7 z8 x1 x2 C1 C3 HB1 hll
    have k4 : w6.cell? ⟨g, 4, none⟩ = some (.bool h.auth) := HH6.out.c 4
    have k5 : w6.cell? ⟨g, 5, none⟩ = some (.bool h.len) := HH6.out.c 5
    have k6 : w6.cell? ⟨g, 6, none⟩ = some (.bool h.enc) := HH6.out.c 6
    have f4 := HH6.out.f 4
    have f5 := HH6.out.f 5
    have f6 := HH6.out.f 6
    by_cases n1 : nm = authN
    · have hne2 : ¬ nm = lenN := by rw [n1]; decide
      have hne3 : ¬ nm = encN := by rw [n1]; decide
      rw [decide_eq_true n1] at e1
      rw [decide_eq_false hne2] at e2
      rw [decide_eq_false hne3] at e3
      have HG : Bx (furV h l = if h.auth = true ∨ v.take 7 ≠ bearV then (h, 4) else ({ h with auth := true, k := strOf (v.drop 7) }, 0)) := ⟨by rw [HF.out, n1]; unfold sayV; rw [if_pos rfl]⟩
      have hvs : (strOf v).size = v.length := strOf_size v
      have y1 : (strOf v).extract 0 7 = strOf (v.take 7) := ext_take v 7
      have y2 : (strOf v).extract 7 (strOf v).size = strOf (v.drop 7) := ext_drop v 7
      have y3 : ((strOf (v.take 7)).toList == [66, 101, 97, 114, 101, 114, 32]) = decide (v.take 7 = bearV) := lit_eq (hbd.take 7) bearV (byt_dec (by decide)) _ rfl
      clear n1 hne2 hne3 HF hbd
      cases ha : h.auth with
      | true =>
        rw [ha] at k4
        have HE : Bx (furV h l = (h, 4)) := ⟨by rw [HG.out, if_pos (.inl ha)]⟩
        clear HG ha y1 y2 y3 hvs
        generalize strOf v = sw
        go_wp2
        go_ret
        exact ⟨by rw [HE.out]; rfl, by rw [HE.out]; exact HH6.out, Kept.of_below HB6.out⟩
      | false =>
        rw [ha] at k4
        by_cases h7 : v.length < 7
        · have HE : Bx (furV h l = (h, 4)) := ⟨by rw [HG.out, if_pos (.inr (fun hh => by have := congrArg List.length hh; rw [List.length_take] at this; unfold bearV at this; simp at this; omega))]⟩
          have g7 : ((strOf v).size : Int) < 7 := by rw [hvs]; omega
          clear HG ha y1 y2 y3 hvs h7
          generalize strOf v = sw at *
          go_wp2
          go_ret
          exact ⟨by rw [HE.out]; rfl, by rw [HE.out]; exact HH6.out, Kept.of_below HB6.out⟩
        · have g7 : ¬ ((strOf v).size : Int) < 7 := by rw [hvs]; omega
          have g7b : (7 : Int) ≤ ((strOf v).size : Int) := by rw [hvs]; omega
          by_cases hb7 : v.take 7 = bearV
          · rw [decide_eq_true hb7] at y3
            have HE : Bx (furV h l = ({ h with auth := true, k := strOf (v.drop 7) }, 0)) := ⟨by rw [HG.out, if_neg (fun hh => hh.elim (fun q => by rw [ha] at q; cases q) (fun q => q hb7))]⟩
            clear HG ha hvs hb7 h7
            generalize strOf v = sw at *
            generalize strOf (v.take 7) = s7 at *
            generalize strOf (v.drop 7) = sd at *
            have k2 : (w6.setCell ⟨g, 4, none⟩ (.bool true)).cell? ⟨g, 2, none⟩ = some (.string h.k) := (HH6.out.sA true).c 2
            have f2 := (HH6.out.sA true).f 2
            have HFN : Bx (RH ((w6.setCell ⟨g, 4, none⟩ (.bool true)).setCell ⟨g, 2, none⟩ (.string sd)) g { h with auth := true, k := sd }) := ⟨(HH6.out.sA true).sK sd⟩
            have HKN : Bx (Kept (fun k => k = g) w ((w6.setCell ⟨g, 4, none⟩ (.bool true)).setCell ⟨g, 2, none⟩ (.string sd))) := ⟨kset1 (kset1 (Kept.of_below HB6.out) _ _) _ _⟩
            go_wp2
            go_ret
            exact ⟨by rw [HE.out]; rfl, by rw [HE.out]; exact HFN.out, HKN.out⟩
          · rw [decide_eq_false hb7] at y3
            have HE : Bx (furV h l = (h, 4)) := ⟨by rw [HG.out, if_pos (.inr hb7)]⟩
            clear HG ha hvs hb7 h7
            generalize strOf v = sw at *
            generalize strOf (v.take 7) = s7 at *
            go_wp2
            go_ret
            exact ⟨by rw [HE.out]; rfl, by rw [HE.out]; exact HH6.out, Kept.of_below HB6.out⟩
    · rw [decide_eq_false n1] at e1
      by_cases n3 : nm = encN
      · have hne2 : ¬ nm = lenN := by rw [n3]; decide
        rw [decide_eq_true n3] at e3
        rw [decide_eq_false hne2] at e2
        have HG : Bx (furV h l = if h.len = true ∨ h.enc = true ∨ v ≠ chkV then (h, 4) else ({ h with enc := true }, 0)) := ⟨by rw [HF.out, n3]; unfold sayV; rw [if_neg (by decide), if_pos rfl]⟩
        have y3 : ((strOf v).toList == [99, 104, 117, 110, 107, 101, 100]) = decide (v = chkV) := lit_eq hbd chkV (byt_dec (by decide)) _ rfl
        clear n1 n3 hne2 HF hbd
        generalize strOf v = sw at *
        cases ha : h.len with
        | true =>
          rw [ha] at k5
          have HE : Bx (furV h l = (h, 4)) := ⟨by rw [HG.out, if_pos (.inl ha)]⟩
          clear HG ha y3
          go_wp2
          go_ret
          exact ⟨by rw [HE.out]; rfl, by rw [HE.out]; exact HH6.out, Kept.of_below HB6.out⟩
        | false =>
          rw [ha] at k5
          cases hb : h.enc with
          | true =>
            rw [hb] at k6
            have HE : Bx (furV h l = (h, 4)) := ⟨by rw [HG.out, if_pos (.inr (.inl hb))]⟩
            clear HG ha hb y3
            go_wp2
            go_ret
            exact ⟨by rw [HE.out]; rfl, by rw [HE.out]; exact HH6.out, Kept.of_below HB6.out⟩
          | false =>
            rw [hb] at k6
            by_cases hc : v = chkV
            · rw [decide_eq_true hc] at y3
              have HE : Bx (furV h l = ({ h with enc := true }, 0)) := ⟨by rw [HG.out, if_neg]; simp [ha, hb, hc]⟩
              clear HG ha hb hc
              have HFN : Bx (RH (w6.setCell ⟨g, 6, none⟩ (.bool true)) g { h with enc := true }) := ⟨HH6.out.sE true⟩
              have HKN : Bx (Kept (fun k => k = g) w (w6.setCell ⟨g, 6, none⟩ (.bool true))) := ⟨kset1 (Kept.of_below HB6.out) _ _⟩
              go_wp2
              go_ret
              exact ⟨by rw [HE.out]; rfl, by rw [HE.out]; exact HFN.out, HKN.out⟩
            · rw [decide_eq_false hc] at y3
              have HE : Bx (furV h l = (h, 4)) := ⟨by rw [HG.out, if_pos (.inr (.inr hc))]⟩
              clear HG ha hb hc
              go_wp2
              go_ret
              exact ⟨by rw [HE.out]; rfl, by rw [HE.out]; exact HH6.out, Kept.of_below HB6.out⟩
      · rw [decide_eq_false n3] at e3
        by_cases n2 : nm = lenN
        · rw [decide_eq_true n2] at e2
          have C5 : Hid (Calls Tryz.prog 43 #[.string (strOf v)] w6 fun e w' => RdP (strOf v) e ∧ w' = w6) := refread_any (strOf v) w6 (by rw [strOf_size]; omega)
          unfold RdP at C5
          rw [rd_link v hbd] at C5
          have HS : Bx (furV h l = if h.len = true ∨ h.enc = true then (h, (4 : Int)) else match rdD v with | none => (h, (4 : Int)) | some n => if 9223372036854775807 < n then (h, 4) else if 2048 < n then (h, 5) else ({ h with len := true, n := n }, 0)) := ⟨by rw [HF.out, n2]; unfold sayV; rw [if_neg (by decide), if_neg (by decide), if_pos rfl]; rfl⟩
          clear n1 n3 n2 HF hbd
          obtain ⟨N, ok, C6, HE6⟩ : ∃ (N : Int) (ok : Bool), Hid (Calls Tryz.prog 43 #[.string (strOf v)] w6 fun e w' => e = .returned (.tuple #[.int .i64 N, .bool ok]) ∧ w' = w6) ∧ Bx (furV h l = if h.len = true ∨ h.enc = true ∨ ok = false then (h, (4 : Int)) else if 2048 < N then (h, 5) else ({ h with len := true, n := N.toNat }, 0)) ∧ Bx (ok = true → 0 ≤ N ∧ N < 9223372036854775808) := by
            cases hr : rdD v with
            | none =>
              rw [hr] at C5 HS
              exact ⟨0, false, C5, ⟨by rw [HS.out]; simp⟩, ⟨by simp⟩⟩
            | some n =>
              rw [hr] at C5 HS
              simp only at C5 HS
              by_cases h1 : n ≤ 9223372036854775807
              · rw [if_pos h1] at C5
                refine ⟨(n : Int), true, C5, ⟨?_⟩, ⟨fun _ => by omega⟩⟩
                rw [HS.out, if_neg (by omega : ¬ 9223372036854775807 < n)]
                by_cases h2 : h.len = true ∨ h.enc = true
                · rw [if_pos h2, if_pos (by rcases h2 with h2 | h2 <;> simp [h2])]
                · rw [if_neg h2, if_neg (show ¬ (h.len = true ∨ h.enc = true ∨ true = false) by simpa using h2)]
                  by_cases h3 : 2048 < n
                  · rw [if_pos h3, if_pos (by omega)]
                  · rw [if_neg h3, if_neg (by omega)]; rfl
              · rw [if_neg h1] at C5
                refine ⟨0, false, C5, ⟨?_⟩, ⟨by simp⟩⟩
                rw [HS.out, if_pos (by omega : 9223372036854775807 < n), ite_self, if_pos (by simp)]
          obtain ⟨HE6, HN6⟩ := HE6
          clear C5 HS
          generalize strOf v = sw at *
          cases ha : h.len with
          | true =>
            rw [ha] at k5
            have HE : Bx (furV h l = (h, 4)) := ⟨by rw [HE6.out, if_pos (.inl ha)]⟩
            clear HE6 HN6 ha
            go_wp2_with fail
            refine C6.out.mono ?_
            rintro e7 w7 ⟨rfl, rfl⟩
            go_wp2
            go_ret
            exact ⟨by rw [HE.out]; rfl, by rw [HE.out]; exact HH6.out, Kept.of_below HB6.out⟩
          | false =>
            rw [ha] at k5
            cases hb : h.enc with
            | true =>
              rw [hb] at k6
              have HE : Bx (furV h l = (h, 4)) := ⟨by rw [HE6.out, if_pos (.inr (.inl hb))]⟩
              clear HE6 HN6 ha hb
              go_wp2_with fail
              refine C6.out.mono ?_
              rintro e7 w7 ⟨rfl, rfl⟩
              go_wp2
              go_ret
              exact ⟨by rw [HE.out]; rfl, by rw [HE.out]; exact HH6.out, Kept.of_below HB6.out⟩
            | false =>
              rw [hb] at k6
              cases ok with
              | false =>
                have HE : Bx (furV h l = (h, 4)) := ⟨by rw [HE6.out, if_pos (.inr (.inr rfl))]⟩
                clear HE6 HN6 ha hb
                go_wp2_with fail
                refine C6.out.mono ?_
                rintro e7 w7 ⟨rfl, rfl⟩
                go_wp2
                go_ret
                exact ⟨by rw [HE.out]; rfl, by rw [HE.out]; exact HH6.out, Kept.of_below HB6.out⟩
              | true =>
                by_cases hN : 2048 < N
                · have HE : Bx (furV h l = (h, 5)) := ⟨by rw [HE6.out, if_neg (by simp [ha, hb]), if_pos hN]⟩
                  clear HE6 HN6 ha hb
                  go_wp2_with fail
                  refine C6.out.mono ?_
                  rintro e7 w7 ⟨rfl, rfl⟩
                  go_wp2
                  go_ret
                  exact ⟨by rw [HE.out]; rfl, by rw [HE.out]; exact HH6.out, Kept.of_below HB6.out⟩
                · have HE : Bx (furV h l = ({ h with len := true, n := N.toNat }, 0)) := ⟨by rw [HE6.out, if_neg (by simp [ha, hb]), if_neg hN]⟩
                  obtain ⟨m, rfl⟩ : ∃ m : Nat, N = (m : Int) := ⟨N.toNat, by have := (HN6.out rfl).1; omega⟩
                  rw [Int.toNat_natCast] at HE
                  clear HE6 HN6 ha hb
                  have k7 : (w6.setCell ⟨g, 5, none⟩ (.bool true)).cell? ⟨g, 7, none⟩ = some (.int .i64 (h.n : Int)) := (HH6.out.sL true).c 7
                  have f7 := (HH6.out.sL true).f 7
                  have k7a : w6.cell? ⟨g, 7, none⟩ = some (.int .i64 (h.n : Int)) := HH6.out.c 7
                  have f7a := HH6.out.f 7
                  have HFN : Bx (RH ((w6.setCell ⟨g, 5, none⟩ (.bool true)).setCell ⟨g, 7, none⟩ (.int .i64 (m : Int))) g { h with len := true, n := m }) := ⟨(HH6.out.sL true).sN m⟩
                  have HKN : Bx (Kept (fun k => k = g) w ((w6.setCell ⟨g, 5, none⟩ (.bool true)).setCell ⟨g, 7, none⟩ (.int .i64 (m : Int)))) := ⟨kset1 (kset1 (Kept.of_below HB6.out) _ _) _ _⟩
                  go_wp2_with fail
                  refine C6.out.mono ?_
                  rintro e7 w7 ⟨rfl, rfl⟩
                  go_wp2
                  go_ret
                  exact ⟨by rw [HE.out]; rfl, by rw [HE.out]; exact HFN.out, HKN.out⟩
        · rw [decide_eq_false n2] at e2
          have HE : Bx (furV h l = (h, 0)) := ⟨by rw [HF.out]; unfold sayV; rw [if_neg n1, if_neg n3, if_neg n2]⟩
          clear n1 n2 n3 HF hbd
          generalize strOf v = sw at *
          go_wp2
          go_ret
          exact ⟨by rw [HE.out]; rfl, by rw [HE.out]; exact HH6.out, Kept.of_below HB6.out⟩
end Go.Proofs.YtdameoejigpnhaaGreatDoor
