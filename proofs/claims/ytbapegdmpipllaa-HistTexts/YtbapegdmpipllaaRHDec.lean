/- What the document's own Decode answers. -/
import Derived.Test.YtbapegdmpipllaaHDec
import Derived.Test.YtbapegdmpipllaaRHCheck
import Derived.Test.YtbapegdmpipllaaRefVar
namespace Go.Proofs.Ytbapegdmpipllaa
open Go.RowKit
set_option linter.unusedVariables false

set_option maxRecDepth 100000 in
theorem unfold_any (u : Int) (w : World) (h1 : 0 ≤ u) (h2 : u ≤ 18446744073709551615) :
    Calls Try.prog 35 #[.int .u64 u] w fun e w' => e = .returned (.int .i64 (zagV u)) ∧ w = w' := by
  unfold zagV
  by_cases h : u % 2 = 0
  · rw [if_pos h]
    have hb : (u % 2 == 0) = true := by simpa using h
    go_enter Try.func35, Try.ntmps35
    go_wp2
    go_ret
    exact ⟨by go_num, rfl⟩
  · rw [if_neg h]
    have hb : (u % 2 == 0) = false := by simpa using h
    go_enter Try.func35, Try.ntmps35
    go_wp2
    go_ret
    exact ⟨by go_num, rfl⟩
set_option maxHeartbeats 4000000 in
set_option maxRecDepth 100000 in
theorem refdecode_any (a : Option Addr) (len cap : Nat) (l : List Int) (w : World) (h : Bts w a len cap l) :
    Calls Try.prog 19 #[.slice a len cap] w (DeP l w) := by
  have H := Bx.mk h
  have HBY := Bx.mk h.byt
  have HLEN : Bx (l.length = len) := ⟨h.len_eq⟩
  have hm := Nat.le_trans h.le_cap h.cap_le
  unfold maxLen at hm
  have HUB := Bx.mk (rd_bd l 0 0 h.byt (by omega) (by omega) (by decide))
  have HKB := Bx.mk (rdn_bd h.byt)
  rw [HLEN.out] at HKB
  obtain ⟨i0, hi, hz0, hz1, hz2⟩ := info_parts Try.infoE
  clear h
  go_enter Try.func19, Try.ntmps19
  go_wp2_with fail
  refine (refreadvar_any a len cap l _ H.out).mono ?_
  rintro e wz ⟨rfl, rfl⟩
  unfold rdVal
  obtain ⟨u, HU⟩ : ∃ u, Bx ((rd l 0 0).1 = u) := ⟨_, ⟨rfl⟩⟩
  obtain ⟨r, HR⟩ : ∃ r, Bx ((rd l 0 0).2.2 = r) := ⟨_, ⟨rfl⟩⟩
  obtain ⟨p0, HP0⟩ : ∃ p0, Bx (rdn l = p0) := ⟨_, ⟨rfl⟩⟩
  rw [HU.out, HR.out, HKB.out.2, HP0.out]
  rw [HU.out] at HUB
  have hp0 : p0 ≤ len := by rw [← HP0.out]; exact HKB.out.1
  have HA : Bx (rdA l = if r ≠ 0 then ([], 0, r) else if 128 < u then ([], 0, 5) else rdF l u.toNat p0) := ⟨by unfold rdA; rw [HR.out, HU.out, HP0.out]⟩
  clear HKB
  by_cases hr : r = 0
  · subst hr
    have hu0 := HUB.out.1
    by_cases hu : 128 < u
    · have HF : Bx (rdH l = ([], 5)) := ⟨by
        have h2 : rdA l = ([], 0, 5) := by rw [HA.out, if_neg (fun h => h rfl), if_pos hu]
        rw [rdH_rdA, h2]; rfl⟩
      go_wp2_with fail
      go_ret2
      exact dep_no HF.out (Below.refl _ _)
    · obtain ⟨n, rfl⟩ : ∃ n : Nat, u = n := ⟨u.toNat, by omega⟩
      have hn : n ≤ 128 := by omega
      have HF : Bx (rdA l = rdF l n p0) := ⟨by rw [HA.out, if_neg (fun h => h rfl), if_neg hu, Int.toNat_natCast]⟩
      have HC0 : Bx (cnt [] (rdF l (n - 0) p0) = rdF l n p0) := ⟨cnt_nil l n p0⟩
      clear HA HU HUB hu0 HP0
      go_wp2_with fail
      go_loopw [5, 7, 8] (fun q v i wr => ∃ (m p : Nat) (D : List Ev), m ≤ n ∧ p ≤ len ∧ D.length = m ∧ i = .int .u64 m ∧ q = .int .i64 p ∧ Bx (wr.ownsRow w.heap.size 55 4 v D.length (D.flatMap evC)) ∧ Bx (Below w.heap.size w wr) ∧ Bx (cnt D (rdF l (n - m) p) = rdF l n p0)) (fun _ _ i _ => n - (intOf i).toNat)
      case atStart => exact ⟨0, p0, [], Nat.zero_le _, hp0, rfl, rfl, rfl, ⟨World.ownsRow_nil _ _ _ _⟩, ⟨Below.refl _ _⟩, HC0⟩
      case round =>
        clear HC0 hp0
        obtain ⟨m, p, D, hmn, hpl, hDm, rfl, rfl, HO, HB, HC⟩ := hrel
        obtain ⟨vO, hvO⟩ : ∃ x, x = u7 := ⟨_, rfl⟩
        subst hvO
        have HDM : Bx (D.length = m) := ⟨hDm⟩
        clear hDm
        by_cases hlt : m < n
        · have hkI : (m : Int) < (n : Int) := by omega
          obtain ⟨r, HRN⟩ : ∃ r, Bx (n - m = r + 1) := ⟨n - m - 1, ⟨by omega⟩⟩
          have HRM : Bx (n - (m + 1) = r) := ⟨by have := HRN.out; omega⟩
          rw [HRN.out] at HC
          by_cases hpe : p = len
          · have HEV : Bx (rdE (l.drop p) = (ev0, 0, 3)) := ⟨by unfold rdE; rw [if_pos (by rw [List.length_drop, HLEN.out]; omega)]⟩
            -- why there is none
            have HF2 : Bx (rdH l = ([], 3)) := ⟨by
              have h1 : (rdE (l.drop p)).2.2 = 3 := by rw [HEV.out]
              have h2 : rdA l = ([], 0, 3) := by rw [HF.out, ← HC.out]; rw [← h1]; exact cnt_bad D l r p (by rw [h1]; decide)
              rw [rdH_rdA, h2]; simp only; rw [if_pos (by decide)]⟩
            have hpI : (len : Int) ≤ (p : Int) := by omega
            clear hpe
            go_wp2_with fail
            go_ret2
            exact dep_no HF2.out HB.out
          · have hpl2 : p < len := by omega
            have hpI : ¬ (len : Int) ≤ (p : Int) := by omega
            have HDL0 : Bx ((l.drop p).length ≠ 0) := ⟨by rw [List.length_drop, HLEN.out]; omega⟩
            have HG0 : Bx ((l.drop p).getD 0 0 = l.getD p 0) := ⟨by rw [List.getD_eq_getElem?_getD, List.getElem?_drop, Nat.add_zero, ← List.getD_eq_getElem?_getD]⟩
            obtain ⟨b, off, rfl, _, hcl⟩ := (H.out.below HB.out).spot (by omega)
            have x0 := hcl p hpl2
            clear hcl
            have hb0 := HBY.out.getD p
            obtain ⟨c, HCC⟩ : ∃ c : Nat, Bx (l.getD p 0 = (c : Int)) := ⟨(l.getD p 0).toNat, ⟨by omega⟩⟩
            rw [HCC.out] at x0 hb0 HG0
            have hc255 : c ≤ 255 := by omega
            clear hb0
            by_cases h31 : 31 < c
            · have HEV : Bx (rdE (l.drop p) = (ev0, 0, 4)) := ⟨by unfold rdE; rw [if_neg HDL0.out, HG0.out, if_pos (by omega)]⟩
              -- why there is none
              have HF2 : Bx (rdH l = ([], 4)) := ⟨by
                have h1 : (rdE (l.drop p)).2.2 = 4 := by rw [HEV.out]
                have h2 : rdA l = ([], 0, 4) := by rw [HF.out, ← HC.out]; rw [← h1]; exact cnt_bad D l r p (by rw [h1]; decide)
                rw [rdH_rdA, h2]; simp only; rw [if_pos (by decide)]⟩
              have h31I : (31 : Int) < (c : Int) := by omega
              go_wp2_with fail
              go_ret2
              exact dep_no HF2.out HB.out
            · have h31I : ¬ (31 : Int) < (c : Int) := by omega
              obtain ⟨g10, HGE⟩ : ∃ g10, Bx (g10 = wr.heap.size) := ⟨_, ⟨rfl⟩⟩
              have HG10 : Bx (w.heap.size ≤ g10) := ⟨by rw [HGE.out]; exact HB.out.size⟩
              have HNE : Bx (∀ j, vO.ownBlock = some j → j ≠ g10) := ⟨fun j hj => by have := (HO.out.lt j hj).2; rw [HGE.out]; omega⟩
              by_cases hodd : c % 2 = 1
              · have hoI : ((c : Int) % 2 == 1) = true := by simp; omega
                have hba : Below wr.heap.size wr (wr.alloc (.cells #[.int .i64 ((c : Int) / 2), .bool true, .int .i64 0, .int .i64 0] 55)) := (Below.refl _ _).alloc (Nat.le_refl _) _
                have HE10 := Bx.mk (eb_new wr ((c : Int) / 2) true 0 0)
                rw [← HGE.out] at HE10
                replace HO := Bx.mk (owns_below HO.out hba)
                replace HB := Bx.mk (bstep HB.out hba)
                have HRD0 : Bx (rdE (l.drop p) = (if (l.drop p).length ≤ 1 then (ev0, 0, 3) else if 15 < (l.drop p).getD 1 0 then (ev0, 0, 4) else
     if (rd ((l.drop p).drop 2) 0 0).2.2 ≠ 0 then (ev0, 0, (rd ((l.drop p).drop 2) 0 0).2.2) else (⟨(c : Int) / 2, true, (l.drop p).getD 1 0, zagV (rd ((l.drop p).drop 2) 0 0).1⟩, 2 + (rd ((l.drop p).drop 2) 0 0).2.1.toNat, 0))) := ⟨by
                  conv => lhs; unfold rdE
                  rw [if_neg HDL0.out, HG0.out, if_neg (by omega), if_pos (by omega)]⟩
                have HG1 : Bx ((l.drop p).getD 1 0 = l.getD (p + 1) 0) := ⟨by rw [List.getD_eq_getElem?_getD, List.getElem?_drop, ← List.getD_eq_getElem?_getD]⟩
                clear hba
                go_upto_region 17 with fail
                rw [← HGE.out]
                generalize wr.alloc (.cells #[.int .i64 ((c : Int) / 2), .bool true, .int .i64 0, .int .i64 0] 55) = w2 at HE10 HO HB ⊢
                obtain ⟨_, y1, y2, _⟩ := HE10.out.at
                simp only at y1 y2
                have yf := HE10.out.fr 2
                by_cases hp1 : p + 1 = len
                · have HEV : Bx (rdE (l.drop p) = (ev0, 0, 3)) := ⟨by rw [HRD0.out, if_pos (by rw [List.length_drop, HLEN.out]; omega)]⟩
                  -- why there is none
                  have HF2 : Bx (rdH l = ([], 3)) := ⟨by
                    have h1 : (rdE (l.drop p)).2.2 = 3 := by rw [HEV.out]
                    have h2 : rdA l = ([], 0, 3) := by rw [HF.out, ← HC.out]; rw [← h1]; exact cnt_bad D l r p (by rw [h1]; decide)
                    rw [rdH_rdA, h2]; simp only; rw [if_pos (by decide)]⟩
                  have hp1I : (len : Int) ≤ (p : Int) + 1 := by omega
                  clear hp1
                  go_wp2_with fail
                  go_ret2
                  exact dep_no HF2.out HB.out
                · have hp1I : ¬ (len : Int) ≤ (p : Int) + 1 := by omega
                  obtain ⟨_, _, e, _, hc2⟩ := (H.out.below HB.out).spot (by omega)
                  cases e
                  have x1 := hc2 (p + 1) (by omega)
                  clear hc2
                  have hb1 := HBY.out.getD (p + 1)
                  obtain ⟨o, HOO⟩ : ∃ o : Nat, Bx (l.getD (p + 1) 0 = (o : Int)) := ⟨(l.getD (p + 1) 0).toNat, ⟨by omega⟩⟩
                  rw [HOO.out] at x1 hb1 HG1
                  have ho255 : o ≤ 255 := by omega
                  clear hb1
                  by_cases h15 : 15 < o
                  · have HEV : Bx (rdE (l.drop p) = (ev0, 0, 4)) := ⟨by rw [HRD0.out, if_neg (by rw [List.length_drop, HLEN.out]; omega), HG1.out, if_pos (by omega)]⟩
                    -- why there is none
                    have HF2 : Bx (rdH l = ([], 4)) := ⟨by
                      have h1 : (rdE (l.drop p)).2.2 = 4 := by rw [HEV.out]
                      have h2 : rdA l = ([], 0, 4) := by rw [HF.out, ← HC.out]; rw [← h1]; exact cnt_bad D l r p (by rw [h1]; decide)
                      rw [rdH_rdA, h2]; simp only; rw [if_pos (by decide)]⟩
                    have h15I : (15 : Int) < (o : Int) := by omega
                    go_wp2_with fail
                    go_ret2
                    exact dep_no HF2.out HB.out
                  · have h15I : ¬ (15 : Int) < (o : Int) := by omega
                    have HRD : Bx (rdE (l.drop p) = (if (rd (l.drop (p + 2)) 0 0).2.2 ≠ 0 then (ev0, 0, (rd (l.drop (p + 2)) 0 0).2.2) else (⟨(c : Int) / 2, true, (o : Int), zagV (rd (l.drop (p + 2)) 0 0).1⟩, 2 + (rd (l.drop (p + 2)) 0 0).2.1.toNat, 0))) := ⟨by rw [HRD0.out, if_neg (by rw [List.length_drop, HLEN.out]; omega), HG1.out, if_neg (by omega), List.drop_drop]⟩
                    replace HO : Bx ((w2.setCell ⟨g10, 2, none⟩ (.int .i64 (o : Int))).ownsRow w.heap.size 55 4 vO D.length (D.flatMap evC)) := ⟨ownsRow_setCell_other HO.out (a := ⟨g10, 2, none⟩) (fun e => HNE.out g10 e rfl) _⟩
                    replace HE10 := Bx.mk (HE10.out.set2 (o : Int))
                    replace HB : Bx (Below w.heap.size w (w2.setCell ⟨g10, 2, none⟩ (.int .i64 (o : Int)))) := ⟨HB.out.setCell (p := ⟨g10, 2, none⟩) HG10.out _⟩
                    clear HRD0
                    go_upto_region 23 with fail
                    generalize w2.setCell ⟨g10, 2, none⟩ (.int .i64 (o : Int)) = w3 at HE10 HO HB ⊢
                    clear y1 y2 yf x0 x1
                    -- the number behind the head, from the world w3
                    have hsl := run_sl_l (some ⟨b, off, none⟩) len cap (p + 2) ((p : Int) + 1 + 1) (by omega) (by omega)
                    have HLR := Bx.mk ((H.out.rest (p + 2) (by omega)).below HB.out)
                    generalize slA (some ⟨b, off, none⟩) (p + 2) cap = aR at hsl HLR
                    go_wp2_with fail
                    refine (refreadvar_any aR (len - (p + 2)) (cap - (p + 2)) (l.drop (p + 2)) _ HLR.out).mono ?_
                    rintro e wz ⟨rfl, rfl⟩
                    unfold rdVal
                    have HUB := Bx.mk (rd_bd (l.drop (p + 2)) 0 0 (HBY.out.drop (p + 2)) (by omega) (by omega) (by decide))
                    have HKB := Bx.mk (rdn_bd (HBY.out.drop (p + 2)))
                    obtain ⟨u, HU⟩ : ∃ u, Bx ((rd (l.drop (p + 2)) 0 0).1 = u) := ⟨_, ⟨rfl⟩⟩
                    obtain ⟨re, HR⟩ : ∃ re, Bx ((rd (l.drop (p + 2)) 0 0).2.2 = re) := ⟨_, ⟨rfl⟩⟩
                    obtain ⟨kk, HN⟩ : ∃ kk, Bx (rdn (l.drop (p + 2)) = kk) := ⟨_, ⟨rfl⟩⟩
                    rw [HU.out, HR.out, HKB.out.2, HN.out]
                    rw [HU.out] at HUB
                    have hkl : p + 2 + kk ≤ len := by have h1 := HKB.out.1; rw [HN.out, List.length_drop, HLEN.out] at h1; omega
                    clear hsl HLR HKB
                    by_cases hr : re = 0
                    · subst hr
                      have HEV : Bx (rdE (l.drop p) = (⟨(c : Int) / 2, true, (o : Int), zagV u⟩, 2 + kk, 0)) := ⟨by have h1 := HRD.out; rw [HR.out, HU.out] at h1; rw [h1, if_neg (fun h => h rfl)]; show (_, 2 + rdn (l.drop (p + 2)), _) = _; rw [HN.out]⟩
                      have HC2 : Bx (cnt (D ++ [⟨(c : Int) / 2, true, (o : Int), zagV u⟩]) (rdF l (n - (m + 1)) (p + 2 + kk)) = rdF l n p0) := ⟨by
                        have h1 := cnt_more D l r p (by rw [HEV.out])
                        rw [HC.out, HEV.out] at h1
                        rw [HRM.out, Nat.add_assoc]; exact h1.symm⟩
                      obtain ⟨z, HZ⟩ : ∃ z, Bx (zagV u = z) := ⟨_, ⟨rfl⟩⟩
                      rw [HZ.out] at HC2
                      go_wp2_with fail
                      refine (unfold_any u _ HUB.out.1 HUB.out.2).mono ?_
                      rintro e wz ⟨rfl, rfl⟩
                      rw [HZ.out]
                      obtain ⟨_, _, _, k3⟩ := HE10.out.at
                      have kf := HE10.out.fr 3
                      have HE3 := Bx.mk (HE10.out.set3 z)
                      have HB3 : Bx (Below w.heap.size w (w3.setCell ⟨g10, 3, none⟩ (.int .i64 z))) := ⟨HB.out.setCell (p := ⟨g10, 3, none⟩) HG10.out _⟩
                      have HO3 : Bx ((w3.setCell ⟨g10, 3, none⟩ (.int .i64 z)).ownsRow w.heap.size 55 4 vO D.length (D.flatMap evC)) := ⟨ownsRow_setCell_other HO.out (a := ⟨g10, 3, none⟩) (fun e => HNE.out g10 e rfl) _⟩
                      go_upto_region 29 with fail
                      generalize w3.setCell ⟨g10, 3, none⟩ (.int .i64 z) = w6 at HE3 HB3 HO3 ⊢
                      clear k3 kf HE10 HO HB
                      obtain ⟨k0, k1, k2, k3⟩ := HE3.out.at
                      simp only at k0 k1 k2 k3
                      have HFM : Bx (D.flatMap evC ++ [.int .i64 ((c : Int) / 2), .bool true, .int .i64 (o : Int), .int .i64 z] = (D ++ [(⟨(c : Int) / 2, true, (o : Int), z⟩ : Ev)]).flatMap evC) := ⟨by rw [List.flatMap_append]; rfl⟩
                      have HNW := Bx.mk (World.news_of_block (heap_alloc_new w6 (.cells #[.int .i64 ((c : Int) / 2), .bool true, .int .i64 (o : Int), .int .i64 z] 55)))
                      have HOA := Bx.mk (HO3.out.alloc (.cells #[.int .i64 ((c : Int) / 2), .bool true, .int .i64 (o : Int), .int .i64 z] 55))
                      have hbA : Below w6.heap.size w6 (w6.alloc (.cells #[.int .i64 ((c : Int) / 2), .bool true, .int .i64 (o : Int), .int .i64 z] 55)) := (Below.refl _ _).alloc (Nat.le_refl _) _
                      have HBA := Bx.mk (bstep HB3.out hbA)
                      have HVB : Bx (∀ j, vO.ownBlock = some j → w.heap.size ≤ j) := ⟨fun j hj => (HO3.out.lt j hj).1⟩
                      have hDl : D.length ≤ 128 := by rw [HDM.out]; omega
                      clear hbA HO3 HB3
                      go_wp2_with (at_builtin; refine wpList_append_own _ rfl _ _ 22 rfl w.heap.size 55 i0 (.agg #[.int .i64 0, .bool false, .int .i64 0, .int .i64 0]) 4 32 Try.underlying22 hi hz0 hz1 hz2 rfl (by decide) _ D.length (D.flatMap evC) rfl HOA.out ⟨w6.heap.size, 0, none⟩ 1 1 [.int .i64 ((c : Int) / 2), .bool true, .int .i64 (o : Int), .int .i64 z] rfl rfl HNW.out (by simp [Value.oneCell']) (by unfold maxLen; omega) (by omega) HBA.out.size ?_)
                      intro v7 w7 hown7 hgr7 _
                      rw [HFM.out] at hown7
                      have HO7 : Bx (w7.ownsRow w.heap.size 55 4 v7 (D ++ [(⟨(c : Int) / 2, true, (o : Int), z⟩ : Ev)]).length ((D ++ [(⟨(c : Int) / 2, true, (o : Int), z⟩ : Ev)]).flatMap evC)) := ⟨by rw [List.length_append]; exact hown7⟩
                      have HB7 : Bx (Below w.heap.size w w7) := ⟨HBA.out.grown hgr7 HBA.out.size (fun j hj => HVB.out j hj)⟩
                      have HDL : Bx ((D ++ [(⟨(c : Int) / 2, true, (o : Int), z⟩ : Ev)]).length = m + 1) := ⟨by rw [List.length_append, HDM.out]; rfl⟩
                      clear hown7 hgr7 HNW HOA HBA HFM HVB k0 k1 k2 k3
                      go_wp2_with fail
                      go_roundw
                      case rel => exact ⟨m + 1, p + 2 + kk, D ++ [⟨(c : Int) / 2, true, (o : Int), z⟩], by omega, by omega, HDL.out, by go_num, by go_num, HO7, HB7, HC2⟩
                      case measure => simp [intOf]; omega
                    · have HEV : Bx (rdE (l.drop p) = (ev0, 0, re)) := ⟨by have h1 := HRD.out; rw [HR.out, HU.out] at h1; rw [h1, if_pos hr]⟩
                      have hrq : (re != 0) = true := by simpa using hr
                      -- why there is none
                      have HF2 : Bx (rdH l = ([], re)) := ⟨by
                        have h1 : (rdE (l.drop p)).2.2 = re := by rw [HEV.out]
                        have h2 : rdA l = ([], 0, re) := by rw [HF.out, ← HC.out]; rw [← h1]; exact cnt_bad D l r p (by rw [h1]; exact hr)
                        rw [rdH_rdA, h2]; simp only; rw [if_pos (by exact hr)]⟩
                      clear hr
                      go_wp2_with fail
                      go_ret2
                      exact dep_no HF2.out HB.out
              · have hoI : ((c : Int) % 2 == 1) = false := by simp; omega
                have hba : Below wr.heap.size wr (wr.alloc (.cells #[.int .i64 ((c : Int) / 2), .bool false, .int .i64 0, .int .i64 0] 55)) := (Below.refl _ _).alloc (Nat.le_refl _) _
                have HE10 := Bx.mk (eb_new wr ((c : Int) / 2) false 0 0)
                rw [← HGE.out] at HE10
                replace HO := Bx.mk (owns_below HO.out hba)
                replace HB := Bx.mk (bstep HB.out hba)
                have HRD : Bx (rdE (l.drop p) = (if (rd (l.drop (p + 1)) 0 0).2.2 ≠ 0 then (ev0, 0, (rd (l.drop (p + 1)) 0 0).2.2) else (⟨(c : Int) / 2, false, 0, zagV (rd (l.drop (p + 1)) 0 0).1⟩, 1 + (rd (l.drop (p + 1)) 0 0).2.1.toNat, 0))) := ⟨by
                  conv => lhs; unfold rdE
                  rw [if_neg HDL0.out, HG0.out, if_neg (by omega), if_neg (by omega), List.drop_drop]⟩
                clear hba
                go_upto_region 17 with fail
                rw [← HGE.out]
                generalize wr.alloc (.cells #[.int .i64 ((c : Int) / 2), .bool false, .int .i64 0, .int .i64 0] 55) = w2 at HE10 HO HB ⊢
                obtain ⟨_, y1, _, _⟩ := HE10.out.at
                simp only at y1
                clear x0
                -- the number behind the head, from the world w2
                have hsl := run_sl_l (some ⟨b, off, none⟩) len cap (p + 1) ((p : Int) + 1) (by omega) (by omega)
                have HLR := Bx.mk ((H.out.rest (p + 1) (by omega)).below HB.out)
                generalize slA (some ⟨b, off, none⟩) (p + 1) cap = aR at hsl HLR
                go_wp2_with fail
                refine (refreadvar_any aR (len - (p + 1)) (cap - (p + 1)) (l.drop (p + 1)) _ HLR.out).mono ?_
                rintro e wz ⟨rfl, rfl⟩
                unfold rdVal
                have HUB := Bx.mk (rd_bd (l.drop (p + 1)) 0 0 (HBY.out.drop (p + 1)) (by omega) (by omega) (by decide))
                have HKB := Bx.mk (rdn_bd (HBY.out.drop (p + 1)))
                obtain ⟨u, HU⟩ : ∃ u, Bx ((rd (l.drop (p + 1)) 0 0).1 = u) := ⟨_, ⟨rfl⟩⟩
                obtain ⟨re, HR⟩ : ∃ re, Bx ((rd (l.drop (p + 1)) 0 0).2.2 = re) := ⟨_, ⟨rfl⟩⟩
                obtain ⟨kk, HN⟩ : ∃ kk, Bx (rdn (l.drop (p + 1)) = kk) := ⟨_, ⟨rfl⟩⟩
                rw [HU.out, HR.out, HKB.out.2, HN.out]
                rw [HU.out] at HUB
                have hkl : p + 1 + kk ≤ len := by have h1 := HKB.out.1; rw [HN.out, List.length_drop, HLEN.out] at h1; omega
                clear hsl HLR HKB
                by_cases hr : re = 0
                · subst hr
                  have HEV : Bx (rdE (l.drop p) = (⟨(c : Int) / 2, false, 0, zagV u⟩, 1 + kk, 0)) := ⟨by have h1 := HRD.out; rw [HR.out, HU.out] at h1; rw [h1, if_neg (fun h => h rfl)]; show (_, 1 + rdn (l.drop (p + 1)), _) = _; rw [HN.out]⟩
                  have HC2 : Bx (cnt (D ++ [⟨(c : Int) / 2, false, 0, zagV u⟩]) (rdF l (n - (m + 1)) (p + 1 + kk)) = rdF l n p0) := ⟨by
                    have h1 := cnt_more D l r p (by rw [HEV.out])
                    rw [HC.out, HEV.out] at h1
                    rw [HRM.out, Nat.add_assoc]; exact h1.symm⟩
                  obtain ⟨z, HZ⟩ : ∃ z, Bx (zagV u = z) := ⟨_, ⟨rfl⟩⟩
                  rw [HZ.out] at HC2
                  go_wp2_with fail
                  refine (unfold_any u _ HUB.out.1 HUB.out.2).mono ?_
                  rintro e wz ⟨rfl, rfl⟩
                  rw [HZ.out]
                  obtain ⟨_, _, _, k3⟩ := HE10.out.at
                  have kf := HE10.out.fr 3
                  have HE3 := Bx.mk (HE10.out.set3 z)
                  have HB3 : Bx (Below w.heap.size w (w2.setCell ⟨g10, 3, none⟩ (.int .i64 z))) := ⟨HB.out.setCell (p := ⟨g10, 3, none⟩) HG10.out _⟩
                  have HO3 : Bx ((w2.setCell ⟨g10, 3, none⟩ (.int .i64 z)).ownsRow w.heap.size 55 4 vO D.length (D.flatMap evC)) := ⟨ownsRow_setCell_other HO.out (a := ⟨g10, 3, none⟩) (fun e => HNE.out g10 e rfl) _⟩
                  go_upto_region 29 with fail
                  generalize w2.setCell ⟨g10, 3, none⟩ (.int .i64 z) = w6 at HE3 HB3 HO3 ⊢
                  clear k3 kf HE10 HO HB
                  obtain ⟨k0, k1, k2, k3⟩ := HE3.out.at
                  simp only at k0 k1 k2 k3
                  have HFM : Bx (D.flatMap evC ++ [.int .i64 ((c : Int) / 2), .bool false, .int .i64 0, .int .i64 z] = (D ++ [(⟨(c : Int) / 2, false, 0, z⟩ : Ev)]).flatMap evC) := ⟨by rw [List.flatMap_append]; rfl⟩
                  have HNW := Bx.mk (World.news_of_block (heap_alloc_new w6 (.cells #[.int .i64 ((c : Int) / 2), .bool false, .int .i64 0, .int .i64 z] 55)))
                  have HOA := Bx.mk (HO3.out.alloc (.cells #[.int .i64 ((c : Int) / 2), .bool false, .int .i64 0, .int .i64 z] 55))
                  have hbA : Below w6.heap.size w6 (w6.alloc (.cells #[.int .i64 ((c : Int) / 2), .bool false, .int .i64 0, .int .i64 z] 55)) := (Below.refl _ _).alloc (Nat.le_refl _) _
                  have HBA := Bx.mk (bstep HB3.out hbA)
                  have HVB : Bx (∀ j, vO.ownBlock = some j → w.heap.size ≤ j) := ⟨fun j hj => (HO3.out.lt j hj).1⟩
                  have hDl : D.length ≤ 128 := by rw [HDM.out]; omega
                  clear hbA HO3 HB3
                  go_wp2_with (at_builtin; refine wpList_append_own _ rfl _ _ 22 rfl w.heap.size 55 i0 (.agg #[.int .i64 0, .bool false, .int .i64 0, .int .i64 0]) 4 32 Try.underlying22 hi hz0 hz1 hz2 rfl (by decide) _ D.length (D.flatMap evC) rfl HOA.out ⟨w6.heap.size, 0, none⟩ 1 1 [.int .i64 ((c : Int) / 2), .bool false, .int .i64 0, .int .i64 z] rfl rfl HNW.out (by simp [Value.oneCell']) (by unfold maxLen; omega) (by omega) HBA.out.size ?_)
                  intro v7 w7 hown7 hgr7 _
                  rw [HFM.out] at hown7
                  have HO7 : Bx (w7.ownsRow w.heap.size 55 4 v7 (D ++ [(⟨(c : Int) / 2, false, 0, z⟩ : Ev)]).length ((D ++ [(⟨(c : Int) / 2, false, 0, z⟩ : Ev)]).flatMap evC)) := ⟨by rw [List.length_append]; exact hown7⟩
                  have HB7 : Bx (Below w.heap.size w w7) := ⟨HBA.out.grown hgr7 HBA.out.size (fun j hj => HVB.out j hj)⟩
                  have HDL : Bx ((D ++ [(⟨(c : Int) / 2, false, 0, z⟩ : Ev)]).length = m + 1) := ⟨by rw [List.length_append, HDM.out]; rfl⟩
                  clear hown7 hgr7 HNW HOA HBA HFM HVB k0 k1 k2 k3
                  go_wp2_with fail
                  go_roundw
                  case rel => exact ⟨m + 1, p + 1 + kk, D ++ [⟨(c : Int) / 2, false, 0, z⟩], by omega, by omega, HDL.out, by go_num, by go_num, HO7, HB7, HC2⟩
                  case measure => simp [intOf]; omega
                · have HEV : Bx (rdE (l.drop p) = (ev0, 0, re)) := ⟨by have h1 := HRD.out; rw [HR.out, HU.out] at h1; rw [h1, if_pos hr]⟩
                  have hrq : (re != 0) = true := by simpa using hr
                  -- why there is none
                  have HF2 : Bx (rdH l = ([], re)) := ⟨by
                    have h1 : (rdE (l.drop p)).2.2 = re := by rw [HEV.out]
                    have h2 : rdA l = ([], 0, re) := by rw [HF.out, ← HC.out]; rw [← h1]; exact cnt_bad D l r p (by rw [h1]; exact hr)
                    rw [rdH_rdA, h2]; simp only; rw [if_pos (by exact hr)]⟩
                  clear hr
                  go_wp2_with fail
                  go_ret2
                  exact dep_no HF2.out HB.out
        · obtain rfl : m = n := by omega
          have hkI : ¬ (m : Int) < (m : Int) := by omega
          have HF2 : Bx (rdA l = (D, p, 0)) := ⟨by rw [HF.out, ← HC.out, Nat.sub_self]; exact cnt_end D l p⟩
          have HH : Bx (rdH l = if p < l.length then ([], 6) else if (chk D).2 ≠ 0 then ([], (chk D).2) else (D, 0)) := ⟨by rw [rdH_rdA, HF2.out]; simp only; rw [if_neg (fun h => h rfl)]⟩
          clear HF2 HC HF
          by_cases hrest : p < len
          · have HFR : Bx (rdH l = ([], 6)) := ⟨by rw [HH.out, if_pos (by rw [HLEN.out]; exact hrest)]⟩
            have hpI : (p : Int) < (len : Int) := by omega
            go_wp2_with fail
            go_ret2
            exact dep_no HFR.out HB.out
          · rw [if_neg (by rw [HLEN.out]; exact hrest)] at HH
            have hpI : ¬ (p : Int) < (len : Int) := by omega
            obtain ⟨aD, cD, rfl, hED⟩ := Ls.of_owns evC_len HO.out rfl
            have HED := Bx.mk hED
            clear hED
            go_wp2_with fail
            refine (refcheck_any aD D.length cD D _ HED.out).mono ?_
            rintro e w2 ⟨rfl, hb2⟩
            have HO2 := Bx.mk (owns_below HO.out hb2)
            have HB2 := Bx.mk (bstep HB.out hb2)
            clear hb2
            generalize (chk D).2 = rr at HH ⊢
            by_cases hrr : rr = 0
            · subst hrr
              have HFY : Bx (rdH l = (D, 0)) := ⟨by rw [HH.out, if_neg (fun h => h rfl)]⟩
              go_wp2_with fail
              go_ret2
              exact dep_yes HFY.out HO2.out HB2.out
            · have HFN : Bx (rdH l = ([], rr)) := ⟨by rw [HH.out, if_pos hrr]⟩
              have hrq : (rr != 0) = true := by simpa using hrr
              clear hrr HH
              go_wp2_with fail
              go_ret2
              exact dep_no HFN.out HB2.out
  · have HF : Bx (rdH l = ([], r)) := ⟨by
      have h2 : rdA l = ([], 0, r) := by rw [HA.out, if_pos hr]
      rw [rdH_rdA, h2]; simp only; rw [if_pos hr]⟩
    have hrq : (r != 0) = true := by simpa using hr
    clear hr
    go_wp2_with fail
    go_ret2
    exact dep_no HF.out (Below.refl _ _)
end Go.Proofs.Ytbapegdmpipllaa
