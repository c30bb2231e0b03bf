/- What the document's own Decode answers. -/
import Derived.Test.YtcghebgdieilgaaCDec
import Derived.Test.YtcghebgdieilgaaRCThr
import Derived.Test.YtcghebgdieilgaaRefVar
namespace Go.Proofs.Ytcghebgdieilgaa
open Go.RowKit
set_option linter.unusedVariables false

set_option maxRecDepth 100000 in
theorem unfold15_any (u : Int) (w : World) (h1 : 0 ≤ u) (h2 : u ≤ 18446744073709551615) :
    Calls Try.prog 39 #[.int .u64 u] w fun e w' => e = .returned (.int .i64 (zagV u)) ∧ w = w' := by
  unfold zagV
  by_cases h : u % 2 = 0
  · rw [if_pos h]
    have hb : (u % 2 == 0) = true := by simpa using h
    go_enter Try.func39, Try.ntmps39
    go_wp2
    go_ret
    exact ⟨by go_num, rfl⟩
  · rw [if_neg h]
    have hb : (u % 2 == 0) = false := by simpa using h
    go_enter Try.func39, Try.ntmps39
    go_wp2
    go_ret
    exact ⟨by go_num, rfl⟩
set_option maxRecDepth 100000 in
theorem rdK_rdC (l : List Int) : rdK l = if (rdC l).2.2 ≠ 0 then ([], (rdC l).2.2) else if (rdC l).2.1 < l.length then ([], 6) else if (thr (rdC l).1).2.2 ≠ 0 then ([], (thr (rdC l).1).2.2) else ((rdC l).1, 0) := rfl
set_option maxHeartbeats 4000000 in
set_option maxRecDepth 100000 in
theorem refdecode15_any (a : Option Addr) (len cap : Nat) (l : List Int) (w : World) (h : Bts w a len cap l) :
    Calls Try.prog 25 #[.slice a len cap] w (DkP l w) := by
  have H := Bx.mk h
  have HBY := Bx.mk h.byt
  have HLEN : Bx (l.length = len) := ⟨h.len_eq⟩
  have hm := Nat.le_trans h.le_cap h.cap_le
  unfold maxLen at hm
  have HUB := Bx.mk (rd_bd l 0 0 h.byt (by omega) (by omega) (by decide))
  have HKB := Bx.mk (rdn_bd h.byt)
  rw [HLEN.out] at HKB
  obtain ⟨i0, hi, hz0, hz1, hz2⟩ := info_parts Try.infoN
  clear h
  go_enter Try.func25, Try.ntmps25
  go_wp2_with fail
  refine (refreadvar_any a len cap l _ H.out).mono ?_
  rintro e wz ⟨rfl, rfl⟩
  unfold rdVal
  obtain ⟨u, HU⟩ : ∃ u, Bx ((rd l 0 0).1 = u) := ⟨_, ⟨rfl⟩⟩
  obtain ⟨r, HR⟩ : ∃ r, Bx ((rd l 0 0).2.2 = r) := ⟨_, ⟨rfl⟩⟩
  obtain ⟨p0, HP0⟩ : ∃ p0, Bx (rdn l = p0) := ⟨_, ⟨rfl⟩⟩
  rw [HU.out, HR.out, HKB.out.2, HP0.out]
  rw [HU.out] at HUB
  have hp0 : p0 ≤ len := by rw [← HP0.out]; exact HKB.out.1
  have HA : Bx (rdC l = if r ≠ 0 then ([], 0, r) else if 200 < u then ([], 0, 5) else sqF rdI l u.toNat p0) := ⟨by unfold rdC; rw [HR.out, HU.out, ← HP0.out]; rfl⟩
  clear HKB
  by_cases hr : r = 0
  · subst hr
    have hu0 := HUB.out.1
    by_cases hu : 200 < u
    · have HF : Bx (rdK l = ([], 5)) := ⟨by
        have h2 : rdC l = ([], 0, 5) := by rw [HA.out, if_neg (fun h => h rfl), if_pos hu]
        rw [rdK_rdC, h2]; rfl⟩
      go_wp2_with fail
      go_ret2
      exact dkp_no HF.out (Below.refl _ _)
    · obtain ⟨n, rfl⟩ : ∃ n : Nat, u = n := ⟨u.toNat, by omega⟩
      have hn : n ≤ 200 := by omega
      have HF : Bx (rdC l = sqF rdI l n p0) := ⟨by rw [HA.out, if_neg (fun h => h rfl), if_neg hu, Int.toNat_natCast]⟩
      have HC0 : Bx (sqC [] (sqF rdI l (n - 0) p0) = sqF rdI l n p0) := ⟨sqC_nil rdI l n p0⟩
      clear HA HU HUB hu0 HP0
      go_wp2_with fail
      go_loopw [5, 7] (fun q v wr => ∃ (p : Nat) (D : List Ic) (aD : Option Addr) (cD : Nat), D.length ≤ n ∧ p ≤ len ∧ q = .int .i64 p ∧ v = .slice aD D.length cD ∧ Bx (wr.ownsRow w.heap.size 52 2 (.slice aD D.length cD) D.length (D.flatMap icC)) ∧ Bx (Below w.heap.size w wr) ∧ Bx (sqC D (sqF rdI l (n - D.length) p) = sqF rdI l n p0)) (fun _ v _ => n - lenOf v)
      case atStart => exact ⟨p0, [], none, 0, Nat.zero_le _, hp0, rfl, rfl, ⟨World.ownsRow_nil _ _ _ _⟩, ⟨Below.refl _ _⟩, HC0⟩
      case round =>
        clear HC0 hp0
        obtain ⟨p, D, aD, cD, hmn, hpl, rfl, rfl, HO, HB, HC⟩ := hrel
        by_cases hlt : D.length < n
        · have hkI : ((D.length : Nat) : Int) < (n : Int) := by omega
          obtain ⟨r, HRN⟩ : ∃ r, Bx (n - D.length = r + 1) := ⟨n - D.length - 1, ⟨by omega⟩⟩
          rw [HRN.out] at HC
          by_cases hpe : p = len
          · have HEV : Bx (rdI (l.drop p) = (ic0, 0, 3)) := ⟨by unfold rdI; rw [if_pos (by rw [List.length_drop, HLEN.out]; omega)]⟩
            -- why there is none
            have HF2 : Bx (rdK l = ([], 3)) := ⟨by
              have h1 : (rdI (l.drop p)).2.2 = 3 := by rw [HEV.out]
              have h2 : rdC l = ([], 0, 3) := by rw [HF.out, ← HC.out]; rw [← h1]; exact sqC_bad rdI D l r p (by rw [h1]; decide)
              rw [rdK_rdC, h2]; simp only; rw [if_pos (by decide)]⟩
            have hpI : ((p : Int) == (len : Int)) = true := by simp; omega
            clear hpe
            go_wp2_with fail
            go_ret2
            exact dkp_no HF2.out HB.out
          · have hpl2 : p < len := by omega
            have hpI2 : (p : Int) < (len : Int) := by omega
            have hpI : ((p : Int) == (len : Int)) = false := by simp; omega
            have HDL0 : Bx ((l.drop p).length ≠ 0) := ⟨by rw [List.length_drop, HLEN.out]; omega⟩
            have HG0 : Bx ((l.drop p).getD 0 0 = l.getD p 0) := ⟨by rw [List.getD_eq_getElem?_getD, List.getElem?_drop, Nat.add_zero, ← List.getD_eq_getElem?_getD]⟩
            obtain ⟨b, off, rfl, _, hcl⟩ := (H.out.below HB.out).spot (by omega)
            have x0 := hcl p hpl2
            clear hcl
            have hb0 := HBY.out.getD p
            obtain ⟨c, HCC⟩ : ∃ c : Nat, Bx (l.getD p 0 = (c : Int)) := ⟨(l.getD p 0).toNat, ⟨by omega⟩⟩
            rw [HCC.out] at x0 hb0 HG0
            have hc255 : c ≤ 255 := by omega
            obtain ⟨g8, HGE⟩ : ∃ g8, Bx (g8 = wr.heap.size) := ⟨_, ⟨rfl⟩⟩
            have HG8 : Bx (w.heap.size ≤ g8) := ⟨by rw [HGE.out]; exact HB.out.size⟩
            have HNE : Bx (∀ j, (Value.slice aD D.length cD).ownBlock = some j → j ≠ g8) := ⟨fun j hj => by have := (HO.out.lt j hj).2; rw [HGE.out]; omega⟩
            have hba : Below wr.heap.size wr (wr.alloc (.cells #[.int .i64 (c : Int), .int .i64 0] 52)) := (Below.refl _ _).alloc (Nat.le_refl _) _
            have HE8 := Bx.mk (ib_new wr (c : Int) 0)
            rw [← HGE.out] at HE8
            replace HO := Bx.mk (owns_below HO.out hba)
            replace HB := Bx.mk (bstep HB.out hba)
            clear hb0 hba hpe
            go_upto_region 11 with fail
            rw [← HGE.out]
            generalize wr.alloc (.cells #[.int .i64 (c : Int), .int .i64 0] 52) = w2 at HE8 HO HB ⊢
            clear x0
            obtain ⟨y0, y1⟩ := HE8.out.at
            simp only at y0 y1
            cases his : isO (c : Int) with
            | false =>
              have HEV : Bx (rdI (l.drop p) = (ic0, 0, 15)) := ⟨by unfold rdI; rw [if_neg HDL0.out, HG0.out, if_pos his]⟩
              -- why there is none
              have HF2 : Bx (rdK l = ([], 15)) := ⟨by
                have h1 : (rdI (l.drop p)).2.2 = 15 := by rw [HEV.out]
                have h2 : rdC l = ([], 0, 15) := by rw [HF.out, ← HC.out]; rw [← h1]; exact sqC_bad rdI D l r p (by rw [h1]; decide)
                rw [rdK_rdC, h2]; simp only; rw [if_pos (by decide)]⟩
              go_wp2_with (go_at_call 27; refine (is15_any _ _).mono ?_; rintro e wz ⟨rfl, hw⟩; replace hw := hw.symm; subst hw; rw [his])
              go_ret2
              exact dkp_no HF2.out HB.out
            | true =>
              have hc19 : c ≤ 19 := by have := (isO_iff _).1 his; omega
              have HRD : Bx (rdI (l.drop p) = (if 0 < nkO (c : Int) then (if (rd (l.drop (p + 1)) 0 0).2.2 ≠ 0 then (ic0, 0, (rd (l.drop (p + 1)) 0 0).2.2) else (⟨(c : Int), zagV (rd (l.drop (p + 1)) 0 0).1⟩, 1 + (rd (l.drop (p + 1)) 0 0).2.1.toNat, 0)) else (⟨(c : Int), 0⟩, 1, 0))) := ⟨by
                conv => lhs; unfold rdI
                rw [if_neg HDL0.out, HG0.out, if_neg (by rw [his]; decide), List.drop_drop]⟩
              go_wp2_with (go_at_call 27; refine (is15_any _ _).mono ?_; rintro e wz ⟨rfl, hw⟩; replace hw := hw.symm; subst hw; rw [his])
              refine (table_any c _ hc19).mono ?_
              rintro e w3 ⟨rfl, hb3⟩
              replace HE8 := Bx.mk (HE8.out.below hb3)
              replace HO := Bx.mk (owns_below HO.out hb3)
              replace HB := Bx.mk (bstep HB.out hb3)
              clear hb3 y0 y1 his
              have hf := fun w => (row_fld (nkO (c : Int)) (tkO (c : Int)) (ptO (c : Int)) (thO (c : Int)) w).1
              by_cases hkk : 0 < nkO (c : Int)
              · rw [if_pos hkk] at HRD
                have hsl := run_sl_l (some ⟨b, off, none⟩) len cap (p + 1) ((p : Int) + 1) (by omega) (by omega)
                have HLR := Bx.mk ((H.out.rest (p + 1) (by omega)).below HB.out)
                generalize slA (some ⟨b, off, none⟩) (p + 1) cap = aR at hsl HLR
                go_wp2_with fail
                refine (refreadvar_any aR (len - (p + 1)) (cap - (p + 1)) (l.drop (p + 1)) _ HLR.out).mono ?_
                rintro e wz ⟨rfl, rfl⟩
                unfold rdVal
                have HUB := Bx.mk (rd_bd (l.drop (p + 1)) 0 0 (HBY.out.drop (p + 1)) (by omega) (by omega) (by decide))
                have HKB := Bx.mk (rdn_bd (HBY.out.drop (p + 1)))
                obtain ⟨u, HU⟩ : ∃ u, Bx ((rd (l.drop (p + 1)) 0 0).1 = u) := ⟨_, ⟨rfl⟩⟩
                obtain ⟨re, HR⟩ : ∃ re, Bx ((rd (l.drop (p + 1)) 0 0).2.2 = re) := ⟨_, ⟨rfl⟩⟩
                obtain ⟨kk, HN⟩ : ∃ kk, Bx (rdn (l.drop (p + 1)) = kk) := ⟨_, ⟨rfl⟩⟩
                rw [HU.out, HR.out, HKB.out.2, HN.out]
                rw [HU.out] at HUB
                have hkl : p + 1 + kk ≤ len := by have h1 := HKB.out.1; rw [HN.out, List.length_drop, HLEN.out] at h1; omega
                clear hsl HLR HKB hf hkk
                by_cases hr : re = 0
                · subst hr
                  have HEV : Bx (rdI (l.drop p) = (⟨(c : Int), zagV u⟩, 1 + kk, 0)) := ⟨by have h1 := HRD.out; rw [HR.out, HU.out] at h1; rw [h1, if_neg (fun h => h rfl)]; show (_, 1 + rdn (l.drop (p + 1)), _) = _; rw [HN.out]⟩
                  have HC2 : Bx (sqC (D ++ [⟨(c : Int), zagV u⟩]) (sqF rdI l (n - (D ++ [(⟨(c : Int), zagV u⟩ : Ic)]).length) (p + 1 + kk)) = sqF rdI l n p0) := ⟨by
                    have h1 := sqC_more rdI D l r p (by rw [HEV.out])
                    rw [HC.out, HEV.out] at h1
                    rw [List.length_append, List.length_singleton, show n - (D.length + 1) = r by have := HRN.out; omega, Nat.add_assoc]; exact h1.symm⟩
                  obtain ⟨z, HZ⟩ : ∃ z, Bx (zagV u = z) := ⟨_, ⟨rfl⟩⟩
                  rw [HZ.out] at HC2
                  go_wp2_with fail
                  refine (unfold15_any u _ HUB.out.1 HUB.out.2).mono ?_
                  rintro e wz ⟨rfl, rfl⟩
                  rw [HZ.out]
                  obtain ⟨_, k1⟩ := HE8.out.at
                  have kf := HE8.out.fr 1
                  replace HE8 := Bx.mk (HE8.out.set1 z)
                  replace HB : Bx (Below w.heap.size w (w3.setCell ⟨g8, 1, none⟩ (.int .i64 z))) := ⟨HB.out.setCell (p := ⟨g8, 1, none⟩) HG8.out _⟩
                  replace HO : Bx ((w3.setCell ⟨g8, 1, none⟩ (.int .i64 z)).ownsRow w.heap.size 52 2 (.slice aD D.length cD) D.length (D.flatMap icC)) := ⟨ownsRow_setCell_other HO.out (a := ⟨g8, 1, none⟩) (fun e => HNE.out g8 e rfl) _⟩
                  go_upto_region 19 with fail
                  generalize w3.setCell ⟨g8, 1, none⟩ (.int .i64 z) = w6 at HE8 HB HO ⊢
                  clear k1 kf
                  -- the instruction lies at g8: the list grows
                  have HFM : Bx (D.flatMap icC ++ [.int .i64 (c : Int), .int .i64 z] = (D ++ [(⟨(c : Int), z⟩ : Ic)]).flatMap icC) := ⟨by rw [List.flatMap_append]; rfl⟩
                  obtain ⟨k0, k1⟩ := HE8.out.at
                  simp only at k0 k1
                  have HNW := Bx.mk (World.news_of_block (heap_alloc_new w6 (.cells #[.int .i64 (c : Int), .int .i64 z] 52)))
                  have HOA := Bx.mk (HO.out.alloc (.cells #[.int .i64 (c : Int), .int .i64 z] 52))
                  have hbA : Below w6.heap.size w6 (w6.alloc (.cells #[.int .i64 (c : Int), .int .i64 z] 52)) := (Below.refl _ _).alloc (Nat.le_refl _) _
                  have HBA := Bx.mk (bstep HB.out hbA)
                  have HVB : Bx (∀ j, (Value.slice aD D.length cD).ownBlock = some j → w.heap.size ≤ j) := ⟨fun j hj => (HO.out.lt j hj).1⟩
                  clear hbA HO HB
                  go_wp2_with (at_builtin; refine wpList_append_own _ rfl _ _ 25 rfl w.heap.size 52 i0 (.agg #[.int .i64 0, .int .i64 0]) 2 16 Try.underlying25 hi hz0 hz1 hz2 rfl (by decide) _ D.length (D.flatMap icC) rfl HOA.out ⟨w6.heap.size, 0, none⟩ 1 1 [.int .i64 (c : Int), .int .i64 z] rfl rfl HNW.out (by simp [Value.oneCell']) (by unfold maxLen; omega) (by omega) HBA.out.size ?_)
                  intro v7 w7 hown7 hgr7 _
                  rw [HFM.out] at hown7
                  have HDL : Bx ((D ++ [(⟨(c : Int), z⟩ : Ic)]).length = D.length + 1) := ⟨by rw [List.length_append]; rfl⟩
                  have hO7 : w7.ownsRow w.heap.size 52 2 v7 (D ++ [(⟨(c : Int), z⟩ : Ic)]).length ((D ++ [(⟨(c : Int), z⟩ : Ic)]).flatMap icC) := by rw [HDL.out]; exact hown7
                  obtain ⟨a7, c7, rfl, _⟩ := Ls.of_owns icC_len hO7 rfl
                  have HO7 := Bx.mk hO7
                  have HB7 : Bx (Below w.heap.size w w7) := ⟨HBA.out.grown hgr7 HBA.out.size (fun j hj => HVB.out j hj)⟩
                  have hD1 := HDL.out
                  clear hown7 hgr7 HNW HOA HBA HFM HVB k0 k1 hO7
                  go_wp2_with fail
                  go_roundw
                  case rel => exact ⟨p + 1 + kk, D ++ [⟨(c : Int), z⟩], a7, c7, by rw [HDL.out]; omega, by omega, by go_num, rfl, HO7, HB7, HC2⟩
                  case measure => simp only [lenOf]; rw [hD1]; omega
                · have HEV : Bx (rdI (l.drop p) = (ic0, 0, re)) := ⟨by have h1 := HRD.out; rw [HR.out, HU.out] at h1; rw [h1, if_pos hr]⟩
                  have hrq : (re != 0) = true := by simpa using hr
                  -- why there is none
                  have HF2 : Bx (rdK l = ([], re)) := ⟨by
                    have h1 : (rdI (l.drop p)).2.2 = re := by rw [HEV.out]
                    have h2 : rdC l = ([], 0, re) := by rw [HF.out, ← HC.out]; rw [← h1]; exact sqC_bad rdI D l r p (by rw [h1]; exact hr)
                    rw [rdK_rdC, h2]; simp only; rw [if_pos (by exact hr)]⟩
                  clear hr
                  go_wp2_with fail
                  go_ret2
                  exact dkp_no HF2.out HB.out
              · rw [if_neg hkk] at HRD
                have HC2 : Bx (sqC (D ++ [⟨(c : Int), 0⟩]) (sqF rdI l (n - (D ++ [(⟨(c : Int), 0⟩ : Ic)]).length) (p + 1)) = sqF rdI l n p0) := ⟨by
                  have h1 := sqC_more rdI D l r p (by rw [HRD.out])
                  rw [HC.out, HRD.out] at h1
                  rw [List.length_append, List.length_singleton, show n - (D.length + 1) = r by have := HRN.out; omega]; exact h1.symm⟩
                -- the instruction lies at g8: the list grows
                have HFM : Bx (D.flatMap icC ++ [.int .i64 (c : Int), .int .i64 0] = (D ++ [(⟨(c : Int), 0⟩ : Ic)]).flatMap icC) := ⟨by rw [List.flatMap_append]; rfl⟩
                obtain ⟨k0, k1⟩ := HE8.out.at
                simp only at k0 k1
                have HNW := Bx.mk (World.news_of_block (heap_alloc_new w3 (.cells #[.int .i64 (c : Int), .int .i64 0] 52)))
                have HOA := Bx.mk (HO.out.alloc (.cells #[.int .i64 (c : Int), .int .i64 0] 52))
                have hbA : Below w3.heap.size w3 (w3.alloc (.cells #[.int .i64 (c : Int), .int .i64 0] 52)) := (Below.refl _ _).alloc (Nat.le_refl _) _
                have HBA := Bx.mk (bstep HB.out hbA)
                have HVB : Bx (∀ j, (Value.slice aD D.length cD).ownBlock = some j → w.heap.size ≤ j) := ⟨fun j hj => (HO.out.lt j hj).1⟩
                clear hbA HO HB
                go_wp2_with (at_builtin; refine wpList_append_own _ rfl _ _ 25 rfl w.heap.size 52 i0 (.agg #[.int .i64 0, .int .i64 0]) 2 16 Try.underlying25 hi hz0 hz1 hz2 rfl (by decide) _ D.length (D.flatMap icC) rfl HOA.out ⟨w3.heap.size, 0, none⟩ 1 1 [.int .i64 (c : Int), .int .i64 0] rfl rfl HNW.out (by simp [Value.oneCell']) (by unfold maxLen; omega) (by omega) HBA.out.size ?_)
                intro v7 w7 hown7 hgr7 _
                rw [HFM.out] at hown7
                have HDL : Bx ((D ++ [(⟨(c : Int), 0⟩ : Ic)]).length = D.length + 1) := ⟨by rw [List.length_append]; rfl⟩
                have hO7 : w7.ownsRow w.heap.size 52 2 v7 (D ++ [(⟨(c : Int), 0⟩ : Ic)]).length ((D ++ [(⟨(c : Int), 0⟩ : Ic)]).flatMap icC) := by rw [HDL.out]; exact hown7
                obtain ⟨a7, c7, rfl, _⟩ := Ls.of_owns icC_len hO7 rfl
                have HO7 := Bx.mk hO7
                have HB7 : Bx (Below w.heap.size w w7) := ⟨HBA.out.grown hgr7 HBA.out.size (fun j hj => HVB.out j hj)⟩
                have hD1 := HDL.out
                clear hown7 hgr7 HNW HOA HBA HFM HVB k0 k1 hO7
                go_wp2_with fail
                go_roundw
                case rel => exact ⟨p + 1, D ++ [⟨(c : Int), 0⟩], a7, c7, by rw [HDL.out]; omega, by omega, by go_num, rfl, HO7, HB7, HC2⟩
                case measure => simp only [lenOf]; rw [hD1]; omega
        · have hDn : D.length = n := by omega
          have HDN := Bx.mk hDn
          have hkI : ¬ ((D.length : Nat) : Int) < (n : Int) := by omega
          have HF2 : Bx (rdC l = (D, p, 0)) := ⟨by rw [HF.out, ← HC.out, HDN.out, Nat.sub_self]; exact sqC_end rdI D l p⟩
          have HH : Bx (rdK l = if p < l.length then ([], 6) else if (thr D).2.2 ≠ 0 then ([], (thr D).2.2) else (D, 0)) := ⟨by rw [rdK_rdC, HF2.out]; simp only; rw [if_neg (fun h => h rfl)]⟩
          clear HF2 HC HF hDn
          by_cases hrest : p < len
          · have HFR : Bx (rdK l = ([], 6)) := ⟨by rw [HH.out, if_pos (by rw [HLEN.out]; exact hrest)]⟩
            have hpI : (p : Int) < (len : Int) := by omega
            go_wp2_with fail
            go_ret2
            exact dkp_no HFR.out HB.out
          · rw [if_neg (by rw [HLEN.out]; exact hrest)] at HH
            have hpI : ¬ (p : Int) < (len : Int) := by omega
            obtain ⟨_, _, e, hED⟩ := Ls.of_owns icC_len HO.out rfl
            cases e
            have HED := Bx.mk hED
            clear hED
            go_wp2_with fail
            refine (refcheck15_any aD D.length cD D _ HED.out).mono ?_
            rintro e w2 ⟨rfl, hb2⟩
            have HO2 := Bx.mk (owns_below HO.out hb2)
            have HB2 := Bx.mk (bstep HB.out hb2)
            clear hb2
            generalize (thr D).2.1 = pl
            generalize (thr D).2.2 = rr at HH ⊢
            by_cases hrr : rr = 0
            · subst hrr
              have HFY : Bx (rdK l = (D, 0)) := ⟨by rw [HH.out, if_neg (fun h => h rfl)]⟩
              go_wp2_with fail
              go_ret2
              exact dkp_yes HFY.out HO2.out HB2.out
            · have HFN : Bx (rdK l = ([], rr)) := ⟨by rw [HH.out, if_pos hrr]⟩
              have hrq : (rr != 0) = true := by simpa using hrr
              clear hrr HH
              go_wp2_with fail
              go_ret2
              exact dkp_no HFN.out HB2.out
  · have HF : Bx (rdK l = ([], r)) := ⟨by
      have h2 : rdC l = ([], 0, r) := by rw [HA.out, if_pos hr]
      rw [rdK_rdC, h2]; simp only; rw [if_pos hr]⟩
    have hrq : (r != 0) = true := by simpa using hr
    clear hr
    go_wp2_with fail
    go_ret2
    exact dkp_no HF.out (Below.refl _ _)
end Go.Proofs.Ytcghebgdieilgaa
