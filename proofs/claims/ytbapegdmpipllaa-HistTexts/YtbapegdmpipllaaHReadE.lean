/- An event, read. -/
import Derived.Test.YtbapegdmpipllaaHRead
namespace Go.Proofs.Ytbapegdmpipllaa
open Go.RowKit
set_option linter.unusedVariables false

/-- what readEvent answers -/
def EvP (l : List Int) (len cap : Nat) (v w : World) (e : Ending) (w' : World) : Prop := Below w.heap.size w w' ∧
  (((rdE l).2.2 ≠ 0 ∧ e = .returned (.tuple #[.agg #[.int .i64 0, .bool false, .int .i64 0, .int .i64 0], .slice none 0 0, .int .i64 (rdE l).2.2])) ∨
  ((rdE l).2.2 = 0 ∧ ∃ a', e = .returned (.tuple #[.agg #[.int .i64 (rdE l).1.c, .bool (rdE l).1.k, .int .i64 (rdE l).1.o, .int .i64 (rdE l).1.v], .slice a' (len - (rdE l).2.1) (cap - (rdE l).2.1), .int .i64 0]) ∧ Bts v a' (len - (rdE l).2.1) (cap - (rdE l).2.1) (l.drop (rdE l).2.1)))
set_option maxRecDepth 100000 in
theorem evp_no {l : List Int} {len cap : Nat} {u w w' : World} {r : Int} (h : rdE l = (ev0, 0, r)) (hr : r ≠ 0) (hb : Below w.heap.size w w') : EvP l len cap u w (.returned (.tuple #[.agg #[.int .i64 0, .bool false, .int .i64 0, .int .i64 0], .slice none 0 0, .int .i64 r])) w' := by
  unfold EvP; rw [h]; exact ⟨hb, .inl ⟨hr, rfl⟩⟩
set_option maxRecDepth 100000 in
theorem evp_yes {l : List Int} {len cap m : Nat} {u w w' : World} {c o v : Int} {k : Bool} {a' : Option Addr} (h : rdE l = (⟨c, k, o, v⟩, m, 0)) (hb : Below w.heap.size w w') (hB : Bts u a' (len - m) (cap - m) (l.drop m)) : EvP l len cap u w (.returned (.tuple #[.agg #[.int .i64 c, .bool k, .int .i64 o, .int .i64 v], .slice a' (len - m) (cap - m), .int .i64 0])) w' := by
  unfold EvP; rw [h]; exact ⟨hb, .inr ⟨rfl, a', rfl, hB⟩⟩
set_option maxHeartbeats 4000000 in
set_option maxRecDepth 100000 in
theorem revent_any (a : Option Addr) (len cap : Nat) (l : List Int) (v w : World) (h : Bts v a len cap l) (hvw : Below v.heap.size v w) :
    Calls Try.prog 39 #[.slice a len cap] w (EvP l len cap v w) := by
  have HLEN : Bx (l.length = len) := ⟨h.len_eq⟩
  have HBY := Bx.mk h.byt
  have hm := Nat.le_trans h.le_cap h.cap_le
  unfold maxLen at hm
  obtain ⟨g2, HGE⟩ : ∃ g2, Bx (g2 = w.heap.size) := ⟨_, ⟨rfl⟩⟩
  have HG2 : Bx (w.heap.size ≤ g2) := ⟨by rw [HGE.out]; exact Nat.le_refl _⟩
  have hba : Below w.heap.size w (w.alloc (.cells #[.int .i64 0, .bool false, .int .i64 0, .int .i64 0] 55)) := (Below.refl _ _).alloc (Nat.le_refl _) _
  have HE2 := Bx.mk (eb_new w 0 false 0 0)
  rw [← HGE.out] at HE2
  have HB := Bx.mk hba
  have HL := Bx.mk ((h.below hvw).below hba)
  have HL0 := Bx.mk h
  have HVW := Bx.mk hvw
  clear h hba hvw
  go_enter Try.func39, Try.ntmps39
  go_wp2_with fail
  rw [← HGE.out]
  generalize w.alloc (.cells #[.int .i64 0, .bool false, .int .i64 0, .int .i64 0] 55) = w0 at HE2 HB HL ⊢
  by_cases h0 : len = 0
  · subst h0
    have HF : Bx (rdE l = (ev0, 0, 3)) := ⟨by unfold rdE; rw [if_pos HLEN.out]⟩
    refine (rbyte_short a cap 31 _).mono ?_
    rintro e wz ⟨rfl, rfl⟩
    -- nothing is answered but why
    obtain ⟨c0, c1, c2, c3⟩ := HE2.out.at
    have f0 := HE2.out.fr 0
    have f1 := HE2.out.fr 1
    have f2 := HE2.out.fr 2
    have f3 := HE2.out.fr 3
    have HZ := Bx.mk (HE2.out.put 0 false 0 0)
    have HBZ : Bx (Below w.heap.size w ((((w0.setCell ⟨g2, 0, none⟩ (.int .i64 0)).setCell ⟨g2, 1, none⟩ (.bool false)).setCell ⟨g2, 2, none⟩ (.int .i64 0)).setCell ⟨g2, 3, none⟩ (.int .i64 0))) := ⟨(((HB.out.setCell (p := ⟨g2, 0, none⟩) HG2.out _).setCell (p := ⟨g2, 1, none⟩) HG2.out _).setCell (p := ⟨g2, 2, none⟩) HG2.out _).setCell (p := ⟨g2, 3, none⟩) HG2.out _⟩
    go_wp2_with fail
    generalize (((w0.setCell ⟨g2, 0, none⟩ (.int .i64 0)).setCell ⟨g2, 1, none⟩ (.bool false)).setCell ⟨g2, 2, none⟩ (.int .i64 0)).setCell ⟨g2, 3, none⟩ (.int .i64 0) = w9 at HZ HBZ ⊢
    obtain ⟨d0, d1, d2, d3⟩ := HZ.out.at
    exact bodyPost_ret (v := .tuple #[.agg #[.int .i64 0, .bool false, .int .i64 0, .int .i64 0], .slice none 0 0, .int .i64 3]) (by simp [results, Try.results39, go_sem, d0, d1, d2, d3]) rfl (evp_no HF.out (by decide) HBZ.out)
  · have hpos : 0 < len := by omega
    by_cases h31 : 31 < l.getD 0 0
    · have HF : Bx (rdE l = (ev0, 0, 4)) := ⟨by unfold rdE; rw [if_neg (by rw [HLEN.out]; exact h0), if_pos h31]⟩
      refine (rbyte_form a len cap l 31 _ HL.out hpos h31).mono ?_
      rintro e wz ⟨rfl, rfl⟩
      -- nothing is answered but why
      obtain ⟨c0, c1, c2, c3⟩ := HE2.out.at
      have f0 := HE2.out.fr 0
      have f1 := HE2.out.fr 1
      have f2 := HE2.out.fr 2
      have f3 := HE2.out.fr 3
      have HZ := Bx.mk (HE2.out.put 0 false 0 0)
      have HBZ : Bx (Below w.heap.size w ((((w0.setCell ⟨g2, 0, none⟩ (.int .i64 0)).setCell ⟨g2, 1, none⟩ (.bool false)).setCell ⟨g2, 2, none⟩ (.int .i64 0)).setCell ⟨g2, 3, none⟩ (.int .i64 0))) := ⟨(((HB.out.setCell (p := ⟨g2, 0, none⟩) HG2.out _).setCell (p := ⟨g2, 1, none⟩) HG2.out _).setCell (p := ⟨g2, 2, none⟩) HG2.out _).setCell (p := ⟨g2, 3, none⟩) HG2.out _⟩
      go_wp2_with fail
      generalize (((w0.setCell ⟨g2, 0, none⟩ (.int .i64 0)).setCell ⟨g2, 1, none⟩ (.bool false)).setCell ⟨g2, 2, none⟩ (.int .i64 0)).setCell ⟨g2, 3, none⟩ (.int .i64 0) = w9 at HZ HBZ ⊢
      obtain ⟨d0, d1, d2, d3⟩ := HZ.out.at
      exact bodyPost_ret (v := .tuple #[.agg #[.int .i64 0, .bool false, .int .i64 0, .int .i64 0], .slice none 0 0, .int .i64 4]) (by simp [results, Try.results39, go_sem, d0, d1, d2, d3]) rfl (evp_no HF.out (by decide) HBZ.out)
    · refine (rbyte_ok a len cap l 31 v _ HL0.out (bstep HVW.out HB.out) hpos h31).mono ?_
      rintro e w1 ⟨a1, rfl, hb1, q1, hq1⟩
      have hbq : Below w0.heap.size w0 w1 := by rw [hq1]; exact below_drewN (Below.refl _ _) q1
      replace HE2 := Bx.mk (HE2.out.below hbq)
      replace HB := Bx.mk (bstep HB.out hbq)
      have HL1 := Bx.mk hb1
      have hb0 := HBY.out.getD 0
      obtain ⟨c, HC⟩ : ∃ c : Nat, Bx (l.getD 0 0 = (c : Int)) := ⟨(l.getD 0 0).toNat, ⟨by omega⟩⟩
      have hc31 : c ≤ 31 := by rw [HC.out] at h31; omega
      rw [HC.out]
      clear hq1 hbq hb1 HL hb0
      obtain ⟨g7, HG7E⟩ : ∃ g7, Bx (g7 = w1.heap.size) := ⟨_, ⟨rfl⟩⟩
      have HNE : Bx (g2 ≠ g7) := ⟨by have := HE2.out.lt; rw [HG7E.out]; omega⟩
      have HG7 : Bx (w.heap.size ≤ g7) := ⟨by rw [HG7E.out]; exact HB.out.size⟩
      by_cases hodd : c % 2 = 1
      · have hoI : ((c : Int) % 2 == 1) = true := by simp; omega
        have hba : Below w1.heap.size w1 (w1.alloc (.cells #[.int .i64 ((c : Int) / 2), .bool true, .int .i64 0, .int .i64 0] 55)) := (Below.refl _ _).alloc (Nat.le_refl _) _
        have HE7 := Bx.mk (eb_new w1 ((c : Int) / 2) true 0 0)
        rw [← HG7E.out] at HE7
        replace HE2 := Bx.mk (HE2.out.below hba)
        replace HB := Bx.mk (bstep HB.out hba)
        have HRD0 : Bx (rdE l = (if l.length ≤ 1 then (ev0, 0, 3) else if 15 < l.getD 1 0 then (ev0, 0, 4) else
     if (rd (l.drop 2) 0 0).2.2 ≠ 0 then (ev0, 0, (rd (l.drop 2) 0 0).2.2) else (⟨(c : Int) / 2, true, l.getD 1 0, zagV (rd (l.drop 2) 0 0).1⟩, 2 + (rd (l.drop 2) 0 0).2.1.toNat, 0))) := ⟨by
          conv => lhs; unfold rdE
          rw [if_neg (by rw [HLEN.out]; exact h0), HC.out, if_neg (by omega), if_pos (by omega)]⟩
        clear hba
        go_wp2_with fail
        rw [← HG7E.out]
        generalize w1.alloc (.cells #[.int .i64 ((c : Int) / 2), .bool true, .int .i64 0, .int .i64 0] 55) = w2 at HE7 HE2 HB ⊢
        obtain ⟨_, _, k2, _⟩ := HE7.out.at
        have kf := HE7.out.fr 2
        by_cases h1 : len = 1
        · subst h1
          have HF : Bx (rdE l = (ev0, 0, 3)) := ⟨by rw [HRD0.out, if_pos (by rw [HLEN.out]; exact Nat.le_refl _)]⟩
          replace HE2 := Bx.mk (HE2.out.other HNE.out 2 (.int .i64 0))
          replace HB : Bx (Below w.heap.size w (w2.setCell ⟨g7, 2, none⟩ (.int .i64 0))) := ⟨HB.out.setCell (p := ⟨g7, 2, none⟩) HG7.out _⟩
          refine (rbyte_short a1 (cap - 1) 15 _).mono ?_
          rintro e wz ⟨rfl, rfl⟩
          go_upto_region 7 with fail
          generalize w2.setCell ⟨g7, 2, none⟩ (.int .i64 0) = w3 at HE2 HB ⊢
          clear k2 kf HE7
          -- nothing is answered but why
          obtain ⟨c0, c1, c2, c3⟩ := HE2.out.at
          have f0 := HE2.out.fr 0
          have f1 := HE2.out.fr 1
          have f2 := HE2.out.fr 2
          have f3 := HE2.out.fr 3
          have HZ := Bx.mk (HE2.out.put 0 false 0 0)
          have HBZ : Bx (Below w.heap.size w ((((w3.setCell ⟨g2, 0, none⟩ (.int .i64 0)).setCell ⟨g2, 1, none⟩ (.bool false)).setCell ⟨g2, 2, none⟩ (.int .i64 0)).setCell ⟨g2, 3, none⟩ (.int .i64 0))) := ⟨(((HB.out.setCell (p := ⟨g2, 0, none⟩) HG2.out _).setCell (p := ⟨g2, 1, none⟩) HG2.out _).setCell (p := ⟨g2, 2, none⟩) HG2.out _).setCell (p := ⟨g2, 3, none⟩) HG2.out _⟩
          go_wp2_with fail
          generalize (((w3.setCell ⟨g2, 0, none⟩ (.int .i64 0)).setCell ⟨g2, 1, none⟩ (.bool false)).setCell ⟨g2, 2, none⟩ (.int .i64 0)).setCell ⟨g2, 3, none⟩ (.int .i64 0) = w9 at HZ HBZ ⊢
          obtain ⟨d0, d1, d2, d3⟩ := HZ.out.at
          exact bodyPost_ret (v := .tuple #[.agg #[.int .i64 0, .bool false, .int .i64 0, .int .i64 0], .slice none 0 0, .int .i64 3]) (by simp [results, Try.results39, go_sem, d0, d1, d2, d3]) rfl (evp_no HF.out (by decide) HBZ.out)
        · have hp1 : 0 < len - 1 := by omega
          have HG1 : Bx ((l.drop 1).getD 0 0 = l.getD 1 0) := ⟨by rw [List.getD_eq_getElem?_getD, List.getElem?_drop, ← List.getD_eq_getElem?_getD]⟩
          by_cases h15 : 15 < l.getD 1 0
          · have HF : Bx (rdE l = (ev0, 0, 4)) := ⟨by rw [HRD0.out, if_neg (by rw [HLEN.out]; omega), if_pos h15]⟩
            refine (rbyte_form a1 (len - 1) (cap - 1) (l.drop 1) 15 _ (HL1.out.below (bstep HVW.out HB.out)) hp1 (by rw [HG1.out]; exact h15)).mono ?_
            rintro e wz ⟨rfl, rfl⟩
            replace HE2 := Bx.mk (HE2.out.other HNE.out 2 (.int .i64 0))
            replace HB : Bx (Below w.heap.size w (w2.setCell ⟨g7, 2, none⟩ (.int .i64 0))) := ⟨HB.out.setCell (p := ⟨g7, 2, none⟩) HG7.out _⟩
            go_upto_region 7 with fail
            generalize w2.setCell ⟨g7, 2, none⟩ (.int .i64 0) = w3 at HE2 HB ⊢
            clear k2 kf HE7
            -- nothing is answered but why
            obtain ⟨c0, c1, c2, c3⟩ := HE2.out.at
            have f0 := HE2.out.fr 0
            have f1 := HE2.out.fr 1
            have f2 := HE2.out.fr 2
            have f3 := HE2.out.fr 3
            have HZ := Bx.mk (HE2.out.put 0 false 0 0)
            have HBZ : Bx (Below w.heap.size w ((((w3.setCell ⟨g2, 0, none⟩ (.int .i64 0)).setCell ⟨g2, 1, none⟩ (.bool false)).setCell ⟨g2, 2, none⟩ (.int .i64 0)).setCell ⟨g2, 3, none⟩ (.int .i64 0))) := ⟨(((HB.out.setCell (p := ⟨g2, 0, none⟩) HG2.out _).setCell (p := ⟨g2, 1, none⟩) HG2.out _).setCell (p := ⟨g2, 2, none⟩) HG2.out _).setCell (p := ⟨g2, 3, none⟩) HG2.out _⟩
            go_wp2_with fail
            generalize (((w3.setCell ⟨g2, 0, none⟩ (.int .i64 0)).setCell ⟨g2, 1, none⟩ (.bool false)).setCell ⟨g2, 2, none⟩ (.int .i64 0)).setCell ⟨g2, 3, none⟩ (.int .i64 0) = w9 at HZ HBZ ⊢
            obtain ⟨d0, d1, d2, d3⟩ := HZ.out.at
            exact bodyPost_ret (v := .tuple #[.agg #[.int .i64 0, .bool false, .int .i64 0, .int .i64 0], .slice none 0 0, .int .i64 4]) (by simp [results, Try.results39, go_sem, d0, d1, d2, d3]) rfl (evp_no HF.out (by decide) HBZ.out)
          · refine (rbyte_ok a1 (len - 1) (cap - 1) (l.drop 1) 15 v _ HL1.out (bstep HVW.out HB.out) hp1 (by rw [HG1.out]; exact h15)).mono ?_
            rintro e w3 ⟨a3, rfl, hb3, q3, hq3⟩
            have hbq : Below w2.heap.size w2 w3 := by rw [hq3]; exact below_drewN (Below.refl _ _) q3
            replace HE2 := Bx.mk (HE2.out.below hbq)
            replace HE7 := Bx.mk (HE7.out.below hbq)
            replace HB := Bx.mk (bstep HB.out hbq)
            rw [HG1.out]
            obtain ⟨o, HO⟩ : ∃ o, Bx (l.getD 1 0 = o) := ⟨_, ⟨rfl⟩⟩
            have HRD : Bx (rdE l = (if (rd (l.drop 2) 0 0).2.2 ≠ 0 then (ev0, 0, (rd (l.drop 2) 0 0).2.2) else (⟨(c : Int) / 2, true, o, zagV (rd (l.drop 2) 0 0).1⟩, 2 + (rd (l.drop 2) 0 0).2.1.toNat, 0))) := ⟨by rw [HRD0.out, if_neg (by rw [HLEN.out]; omega), if_neg h15, HO.out]⟩
            rw [HO.out]
            have HLR : Bx (Bts v a3 (len - 2) (cap - 2) (l.drop 2)) := ⟨by rw [List.drop_drop, Nat.sub_sub, Nat.sub_sub] at hb3; exact hb3⟩
            have HLE2 : Bx (len - 1 - 1 = len - 2 ∧ cap - 1 - 1 = cap - 2) := ⟨⟨Nat.sub_sub _ _ _, Nat.sub_sub _ _ _⟩⟩
            rw [HLE2.out.1, HLE2.out.2]
            clear k2 kf hbq hq3 hb3 HRD0 h15 HG1 HL1
            obtain ⟨_, _, k2, _⟩ := HE7.out.at
            have kf := HE7.out.fr 2
            replace HE2 := Bx.mk (HE2.out.other HNE.out 2 (.int .i64 o))
            replace HE7 := Bx.mk (HE7.out.set2 o)
            replace HB : Bx (Below w.heap.size w (w3.setCell ⟨g7, 2, none⟩ (.int .i64 o))) := ⟨HB.out.setCell (p := ⟨g7, 2, none⟩) HG7.out _⟩
            go_upto_region 7 with fail
            generalize w3.setCell ⟨g7, 2, none⟩ (.int .i64 o) = w4 at HE2 HE7 HB ⊢
            clear k2 kf
            go_wp2_with fail
            -- the number, from the world w4; the event lies at g7, the answer's variable at g2
            refine (rnum_any _ _ _ _ v _ HLR.out (bstep HVW.out HB.out)).mono ?_
            rintro e w5 ⟨a5, rfl, hb5, q5, hq5⟩
            have hbq : Below w4.heap.size w4 w5 := by rw [hq5]; exact below_drewN (Below.refl _ _) q5
            replace HE2 := Bx.mk (HE2.out.below hbq)
            replace HE7 := Bx.mk (HE7.out.below hbq)
            replace HB := Bx.mk (bstep HB.out hbq)
            have HL5 := Bx.mk hb5
            have HUB := Bx.mk (rd_bd (l.drop 2) 0 0 (HBY.out.drop 2) (by omega) (by omega) (by decide))
            clear hbq hq5 hb5 HLR
            obtain ⟨u, HU⟩ : ∃ u, Bx ((rd (l.drop 2) 0 0).1 = u) := ⟨_, ⟨rfl⟩⟩
            obtain ⟨r, HR⟩ : ∃ r, Bx ((rd (l.drop 2) 0 0).2.2 = r) := ⟨_, ⟨rfl⟩⟩
            obtain ⟨n, HN⟩ : ∃ n, Bx (rdn (l.drop 2) = n) := ⟨_, ⟨rfl⟩⟩
            rw [HU.out, HR.out, HN.out]
            rw [HN.out] at HL5
            rw [HU.out] at HUB
            by_cases hr : r = 0
            · subst hr
              have HF : Bx (rdE l = (⟨(c : Int) / 2, true, o, zagV u⟩, 2 + n, 0)) := ⟨by have h1 := HRD.out; rw [HR.out, HU.out] at h1; rw [h1, if_neg (fun h => h rfl)]; show (_, 2 + rdn (l.drop 2), _) = _; rw [HN.out]⟩
              go_wp2_with fail
              refine (zag_any u _ HUB.out.1 HUB.out.2).mono ?_
              rintro e wz ⟨rfl, rfl⟩
              obtain ⟨k0, k1, k2, k3⟩ := HE7.out.at
              have kf := HE7.out.fr 3
              obtain ⟨z, HZZ⟩ : ∃ z, Bx (zagV u = z) := ⟨_, ⟨rfl⟩⟩
              rw [HZZ.out] at HF ⊢
              have HE73 := Bx.mk (HE7.out.set3 z)
              have HE23 := Bx.mk (HE2.out.other HNE.out 3 (.int .i64 z))
              have HB3 : Bx (Below w.heap.size w (w5.setCell ⟨g7, 3, none⟩ (.int .i64 z))) := ⟨HB.out.setCell (p := ⟨g7, 3, none⟩) HG7.out _⟩
              go_upto_region 13 with fail
              generalize w5.setCell ⟨g7, 3, none⟩ (.int .i64 z) = w6 at HE73 HE23 HB3 ⊢
              clear k0 k1 k2 k3 kf HE7 HE2 HB
              obtain ⟨k0, k1, k2, k3⟩ := HE73.out.at
              obtain ⟨c0, c1, c2, c3⟩ := HE23.out.at
              have f0 := HE23.out.fr 0
              have f1 := HE23.out.fr 1
              have f2 := HE23.out.fr 2
              have f3 := HE23.out.fr 3
              have HZ := Bx.mk (HE23.out.put ((c : Int) / 2) true o z)
              have HBZ : Bx (Below w.heap.size w ((((w6.setCell ⟨g2, 0, none⟩ (.int .i64 ((c : Int) / 2))).setCell ⟨g2, 1, none⟩ (.bool true)).setCell ⟨g2, 2, none⟩ (.int .i64 o)).setCell ⟨g2, 3, none⟩ (.int .i64 z))) := ⟨(((HB3.out.setCell (p := ⟨g2, 0, none⟩) HG2.out _).setCell (p := ⟨g2, 1, none⟩) HG2.out _).setCell (p := ⟨g2, 2, none⟩) HG2.out _).setCell (p := ⟨g2, 3, none⟩) HG2.out _⟩
              go_wp2_with fail
              generalize (((w6.setCell ⟨g2, 0, none⟩ (.int .i64 ((c : Int) / 2))).setCell ⟨g2, 1, none⟩ (.bool true)).setCell ⟨g2, 2, none⟩ (.int .i64 o)).setCell ⟨g2, 3, none⟩ (.int .i64 z) = w9 at HZ HBZ ⊢
              obtain ⟨d0, d1, d2, d3⟩ := HZ.out.at
              have HL9 : Bx (Bts v a5 (len - (2 + n)) (cap - (2 + n)) (l.drop (2 + n))) := ⟨by have h1 := HL5.out; rw [List.drop_drop, Nat.sub_sub, Nat.sub_sub] at h1; exact h1⟩
              have HLE : Bx (len - 2 - n = len - (2 + n) ∧ cap - 2 - n = cap - (2 + n)) := ⟨⟨Nat.sub_sub _ _ _, Nat.sub_sub _ _ _⟩⟩
              rw [HLE.out.1, HLE.out.2]
              exact bodyPost_ret (v := .tuple #[.agg #[.int .i64 ((c : Int) / 2), .bool true, .int .i64 o, .int .i64 z], .slice a5 (len - (2 + n)) (cap - (2 + n)), .int .i64 0]) (by simp [results, Try.results39, go_sem, d0, d1, d2, d3]) rfl (evp_yes HF.out HBZ.out HL9.out)
            · have HF : Bx (rdE l = (ev0, 0, r)) := ⟨by have h1 := HRD.out; rw [HR.out, HU.out] at h1; rw [h1, if_pos hr]⟩
              have hrq : (r != 0) = true := by simpa using hr
              have HNZ : Bx (r ≠ 0) := ⟨hr⟩
              clear hr
              -- nothing is answered but why
              obtain ⟨c0, c1, c2, c3⟩ := HE2.out.at
              have f0 := HE2.out.fr 0
              have f1 := HE2.out.fr 1
              have f2 := HE2.out.fr 2
              have f3 := HE2.out.fr 3
              have HZ := Bx.mk (HE2.out.put 0 false 0 0)
              have HBZ : Bx (Below w.heap.size w ((((w5.setCell ⟨g2, 0, none⟩ (.int .i64 0)).setCell ⟨g2, 1, none⟩ (.bool false)).setCell ⟨g2, 2, none⟩ (.int .i64 0)).setCell ⟨g2, 3, none⟩ (.int .i64 0))) := ⟨(((HB.out.setCell (p := ⟨g2, 0, none⟩) HG2.out _).setCell (p := ⟨g2, 1, none⟩) HG2.out _).setCell (p := ⟨g2, 2, none⟩) HG2.out _).setCell (p := ⟨g2, 3, none⟩) HG2.out _⟩
              go_wp2_with fail
              generalize (((w5.setCell ⟨g2, 0, none⟩ (.int .i64 0)).setCell ⟨g2, 1, none⟩ (.bool false)).setCell ⟨g2, 2, none⟩ (.int .i64 0)).setCell ⟨g2, 3, none⟩ (.int .i64 0) = w9 at HZ HBZ ⊢
              obtain ⟨d0, d1, d2, d3⟩ := HZ.out.at
              exact bodyPost_ret (v := .tuple #[.agg #[.int .i64 0, .bool false, .int .i64 0, .int .i64 0], .slice none 0 0, .int .i64 r]) (by simp [results, Try.results39, go_sem, d0, d1, d2, d3]) rfl (evp_no HF.out HNZ.out HBZ.out)
      · have hoI : ((c : Int) % 2 == 1) = false := by simp; omega
        have hba : Below w1.heap.size w1 (w1.alloc (.cells #[.int .i64 ((c : Int) / 2), .bool false, .int .i64 0, .int .i64 0] 55)) := (Below.refl _ _).alloc (Nat.le_refl _) _
        have HE7 := Bx.mk (eb_new w1 ((c : Int) / 2) false 0 0)
        rw [← HG7E.out] at HE7
        replace HE2 := Bx.mk (HE2.out.below hba)
        replace HB := Bx.mk (bstep HB.out hba)
        have HRD : Bx (rdE l = (if (rd (l.drop 1) 0 0).2.2 ≠ 0 then (ev0, 0, (rd (l.drop 1) 0 0).2.2) else (⟨(c : Int) / 2, false, 0, zagV (rd (l.drop 1) 0 0).1⟩, 1 + (rd (l.drop 1) 0 0).2.1.toNat, 0))) := ⟨by
          conv => lhs; unfold rdE
          rw [if_neg (by rw [HLEN.out]; exact h0), HC.out, if_neg (by omega), if_neg (by omega)]⟩
        have HLR := HL1
        clear hba
        go_wp2_with fail
        rw [← HG7E.out]
        generalize w1.alloc (.cells #[.int .i64 ((c : Int) / 2), .bool false, .int .i64 0, .int .i64 0] 55) = w2 at HE7 HE2 HB ⊢
        -- the number, from the world w2; the event lies at g7, the answer's variable at g2
        refine (rnum_any _ _ _ _ v _ HLR.out (bstep HVW.out HB.out)).mono ?_
        rintro e w5 ⟨a5, rfl, hb5, q5, hq5⟩
        have hbq : Below w2.heap.size w2 w5 := by rw [hq5]; exact below_drewN (Below.refl _ _) q5
        replace HE2 := Bx.mk (HE2.out.below hbq)
        replace HE7 := Bx.mk (HE7.out.below hbq)
        replace HB := Bx.mk (bstep HB.out hbq)
        have HL5 := Bx.mk hb5
        have HUB := Bx.mk (rd_bd (l.drop 1) 0 0 (HBY.out.drop 1) (by omega) (by omega) (by decide))
        clear hbq hq5 hb5 HLR
        obtain ⟨u, HU⟩ : ∃ u, Bx ((rd (l.drop 1) 0 0).1 = u) := ⟨_, ⟨rfl⟩⟩
        obtain ⟨r, HR⟩ : ∃ r, Bx ((rd (l.drop 1) 0 0).2.2 = r) := ⟨_, ⟨rfl⟩⟩
        obtain ⟨n, HN⟩ : ∃ n, Bx (rdn (l.drop 1) = n) := ⟨_, ⟨rfl⟩⟩
        rw [HU.out, HR.out, HN.out]
        rw [HN.out] at HL5
        rw [HU.out] at HUB
        by_cases hr : r = 0
        · subst hr
          have HF : Bx (rdE l = (⟨(c : Int) / 2, false, 0, zagV u⟩, 1 + n, 0)) := ⟨by have h1 := HRD.out; rw [HR.out, HU.out] at h1; rw [h1, if_neg (fun h => h rfl)]; show (_, 1 + rdn (l.drop 1), _) = _; rw [HN.out]⟩
          go_wp2_with fail
          refine (zag_any u _ HUB.out.1 HUB.out.2).mono ?_
          rintro e wz ⟨rfl, rfl⟩
          obtain ⟨k0, k1, k2, k3⟩ := HE7.out.at
          have kf := HE7.out.fr 3
          obtain ⟨z, HZZ⟩ : ∃ z, Bx (zagV u = z) := ⟨_, ⟨rfl⟩⟩
          rw [HZZ.out] at HF ⊢
          have HE73 := Bx.mk (HE7.out.set3 z)
          have HE23 := Bx.mk (HE2.out.other HNE.out 3 (.int .i64 z))
          have HB3 : Bx (Below w.heap.size w (w5.setCell ⟨g7, 3, none⟩ (.int .i64 z))) := ⟨HB.out.setCell (p := ⟨g7, 3, none⟩) HG7.out _⟩
          go_upto_region 13 with fail
          generalize w5.setCell ⟨g7, 3, none⟩ (.int .i64 z) = w6 at HE73 HE23 HB3 ⊢
          clear k0 k1 k2 k3 kf HE7 HE2 HB
          obtain ⟨k0, k1, k2, k3⟩ := HE73.out.at
          obtain ⟨c0, c1, c2, c3⟩ := HE23.out.at
          have f0 := HE23.out.fr 0
          have f1 := HE23.out.fr 1
          have f2 := HE23.out.fr 2
          have f3 := HE23.out.fr 3
          have HZ := Bx.mk (HE23.out.put ((c : Int) / 2) false 0 z)
          have HBZ : Bx (Below w.heap.size w ((((w6.setCell ⟨g2, 0, none⟩ (.int .i64 ((c : Int) / 2))).setCell ⟨g2, 1, none⟩ (.bool false)).setCell ⟨g2, 2, none⟩ (.int .i64 0)).setCell ⟨g2, 3, none⟩ (.int .i64 z))) := ⟨(((HB3.out.setCell (p := ⟨g2, 0, none⟩) HG2.out _).setCell (p := ⟨g2, 1, none⟩) HG2.out _).setCell (p := ⟨g2, 2, none⟩) HG2.out _).setCell (p := ⟨g2, 3, none⟩) HG2.out _⟩
          go_wp2_with fail
          generalize (((w6.setCell ⟨g2, 0, none⟩ (.int .i64 ((c : Int) / 2))).setCell ⟨g2, 1, none⟩ (.bool false)).setCell ⟨g2, 2, none⟩ (.int .i64 0)).setCell ⟨g2, 3, none⟩ (.int .i64 z) = w9 at HZ HBZ ⊢
          obtain ⟨d0, d1, d2, d3⟩ := HZ.out.at
          have HL9 : Bx (Bts v a5 (len - (1 + n)) (cap - (1 + n)) (l.drop (1 + n))) := ⟨by have h1 := HL5.out; rw [List.drop_drop, Nat.sub_sub, Nat.sub_sub] at h1; exact h1⟩
          have HLE : Bx (len - 1 - n = len - (1 + n) ∧ cap - 1 - n = cap - (1 + n)) := ⟨⟨Nat.sub_sub _ _ _, Nat.sub_sub _ _ _⟩⟩
          rw [HLE.out.1, HLE.out.2]
          exact bodyPost_ret (v := .tuple #[.agg #[.int .i64 ((c : Int) / 2), .bool false, .int .i64 0, .int .i64 z], .slice a5 (len - (1 + n)) (cap - (1 + n)), .int .i64 0]) (by simp [results, Try.results39, go_sem, d0, d1, d2, d3]) rfl (evp_yes HF.out HBZ.out HL9.out)
        · have HF : Bx (rdE l = (ev0, 0, r)) := ⟨by have h1 := HRD.out; rw [HR.out, HU.out] at h1; rw [h1, if_pos hr]⟩
          have hrq : (r != 0) = true := by simpa using hr
          have HNZ : Bx (r ≠ 0) := ⟨hr⟩
          clear hr
          -- nothing is answered but why
          obtain ⟨c0, c1, c2, c3⟩ := HE2.out.at
          have f0 := HE2.out.fr 0
          have f1 := HE2.out.fr 1
          have f2 := HE2.out.fr 2
          have f3 := HE2.out.fr 3
          have HZ := Bx.mk (HE2.out.put 0 false 0 0)
          have HBZ : Bx (Below w.heap.size w ((((w5.setCell ⟨g2, 0, none⟩ (.int .i64 0)).setCell ⟨g2, 1, none⟩ (.bool false)).setCell ⟨g2, 2, none⟩ (.int .i64 0)).setCell ⟨g2, 3, none⟩ (.int .i64 0))) := ⟨(((HB.out.setCell (p := ⟨g2, 0, none⟩) HG2.out _).setCell (p := ⟨g2, 1, none⟩) HG2.out _).setCell (p := ⟨g2, 2, none⟩) HG2.out _).setCell (p := ⟨g2, 3, none⟩) HG2.out _⟩
          go_wp2_with fail
          generalize (((w5.setCell ⟨g2, 0, none⟩ (.int .i64 0)).setCell ⟨g2, 1, none⟩ (.bool false)).setCell ⟨g2, 2, none⟩ (.int .i64 0)).setCell ⟨g2, 3, none⟩ (.int .i64 0) = w9 at HZ HBZ ⊢
          obtain ⟨d0, d1, d2, d3⟩ := HZ.out.at
          exact bodyPost_ret (v := .tuple #[.agg #[.int .i64 0, .bool false, .int .i64 0, .int .i64 0], .slice none 0 0, .int .i64 r]) (by simp [results, Try.results39, go_sem, d0, d1, d2, d3]) rfl (evp_no HF.out HNZ.out HBZ.out)
end Go.Proofs.Ytbapegdmpipllaa
