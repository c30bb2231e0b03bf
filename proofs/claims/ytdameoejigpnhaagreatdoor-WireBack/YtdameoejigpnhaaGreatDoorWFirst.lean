/- What the first line says. -/
import Derived.Test.YtdameoejigpnhaaGreatDoorWLine2
namespace Go.Proofs.YtdameoejigpnhaaGreatDoor
open Go.RowKit
set_option linter.unusedVariables false

def fstE (l : List Int) : Int := match fstV l with | none => 4 | some _ => 0
def fstH (h : HD) (l : List Int) : HD := match fstV l with | none => h | some (m, t) => { h with m := m, t := t }
set_option maxRecDepth 100000 in
theorem pcs_byt (c : Int) : ∀ (l : List Int), Byt l → ∀ p ∈ pcsI c l, Byt p ∧ p.length ≤ l.length
  | [], _, p, hp => by
    simp [pcsI] at hp
    subst hp
    exact ⟨Byt.nil, Nat.le_refl _⟩
  | a :: r, hl, p, hp => by
    have ih := pcs_byt c r (fun d hd => hl d (by simp [hd]))
    have ha := hl a (by simp)
    unfold pcsI at hp
    split at hp
    · rcases List.mem_cons.1 hp with rfl | hp
      · exact ⟨Byt.nil, by simp⟩
      · have := ih p hp; exact ⟨this.1, by simp; omega⟩
    · split at hp
      · rename_i q qs he
        rcases List.mem_cons.1 hp with rfl | hp
        · have := ih q (by rw [he]; simp); exact ⟨Byt.cons ha this.1, by simp; omega⟩
        · have := ih p (by rw [he]; simp [hp]); exact ⟨this.1, by simp; omega⟩
      · simp at hp; subst hp; exact ⟨Byt.cons ha Byt.nil, by simp⟩
set_option maxRecDepth 100000 in
theorem sv_get (P : List ByteArray) (j : Nat) : (sv P)[j]? = (P[j]?).map Value.string := by unfold sv; rw [List.getElem?_map]
set_option maxRecDepth 100000 in
set_option maxHeartbeats 1000000 in
theorem wfirst_any (g : Nat) (own : Nat → Prop) (h : HD) (l : List Int) (cnt : Nat) (line : List Int) (LV : Value) (cr : Bool) (w : World) (hm : Hm w g own (hmOf h 0 cnt line LV cr)) (hl : Byt l) (hll : l.length ≤ 1000000) :
    Calls Tryz.prog 54 #[.pointer (some ⟨g, 1, none⟩), .string (strOf l)] w fun e w' => e = .returned (.int .i64 (fstE l)) ∧ Hm w' g own (hmOf (fstH h l) 0 cnt line LV cr) ∧ Kept own w w' := by
  have C0 : Hid (Calls Tryz.prog 62 #[.string (strOf l), .int .u8 32, .int .i64 3] w (FP (cb 32) (strOf l) 3 w)) := fields_any (strOf l) 32 3 w (by rw [strOf_size]; omega)
  unfold FP fOk fL at C0
  rw [pcs_link 32 (by decide) l hl] at C0
  have HH := Bx.mk hm
  have HB := Bx.mk (pcs_byt 32 l hl)
  have hgl := hm.lt g hm.og
  clear hm
  by_cases h3 : (pcsI 32 l).length = 3
  · obtain ⟨m, t, v, hp⟩ : ∃ m t v, pcsI 32 l = [m, t, v] := by
      match hq : pcsI 32 l, h3 with
      | [m, t, v], _ => exact ⟨m, t, v, rfl⟩
    rw [hp] at C0 HB
    have hbm := HB.out m (by simp)
    have hbt := HB.out t (by simp)
    have hbv := HB.out v (by simp)
    have HV : Bx (fstV l = if v = versM ∧ (m = getM ∨ m = postM ∨ m = putM) ∧ tgB t = true then some (strOf m, strOf t) else none) := ⟨by unfold fstV; rw [hp]⟩
    rw [if_pos (by simp)] at C0
    have C1 : Hid (∀ wr, Calls Tryz.prog 63 #[.string (strOf m)] wr fun e w' => e = .returned (.bool (mthB m)) ∧ w' = wr) := fun wr => wmethod_any m wr hbm.1
    have C2 : Hid (∀ wr, Calls Tryz.prog 64 #[.string (strOf t)] wr fun e w' => e = .returned (.bool (tgB t)) ∧ w' = wr) := fun wr => wtarget_any t wr hbt.1 (by omega)
    have e3 : ((strOf v).toList == [72, 84, 84, 80, 47, 49, 46, 49]) = decide (v = versM) := lit_eq hbv.1 versM (byt_dec (by decide)) _ rfl
    have HMT : Bx ((mthB m = true) ↔ (m = getM ∨ m = postM ∨ m = putM)) := ⟨by unfold mthB; simp only [Bool.or_eq_true, decide_eq_true_eq]; exact ⟨fun h => by rcases h with h | h | h <;> simp [h], fun h => by rcases h with h | h | h <;> simp [h]⟩⟩
    have HVB : Bx (fstV l = if (mthB m && tgB t && decide (v = versM)) = true then some (strOf m, strOf t) else none) := ⟨by
      have hi : (v = versM ∧ (m = getM ∨ m = postM ∨ m = putM) ∧ tgB t = true) ↔ ((mthB m && tgB t && decide (v = versM)) = true) := by
        rw [← HMT.out]
        simp only [Bool.and_eq_true, decide_eq_true_eq]
        exact ⟨fun ⟨a, b, c⟩ => ⟨⟨b, c⟩, a⟩, fun ⟨⟨b, c⟩, a⟩ => ⟨a, b, c⟩⟩
      rw [HV.out]
      by_cases hz : v = versM ∧ (m = getM ∨ m = postM ∨ m = putM) ∧ tgB t = true
      · rw [if_pos hz, if_pos (hi.1 hz)]
      · rw [if_neg hz, if_neg (fun k => hz (hi.2 k))]⟩
    generalize mthB m = b1 at C1 HVB
    generalize tgB t = b2 at C2 HVB
    generalize decide (v = versM) = b3 at e3 HVB
    simp only [List.map_cons, List.map_nil] at C0
    clear hp h3 hbm hbt hbv HV HMT HB
    generalize hsm : strOf m = sm at *
    generalize hst : strOf t = st at *
    generalize hsv : strOf v = sw at *
    generalize strOf l = s at *
    clear hsm hst hsv
    -- the three pieces lie in a new row
    cases b1 with
    | false =>
      have HE : Bx (fstV l = none) := ⟨by rw [HVB.out]; rfl⟩
      go_enter Tryz.func54, Tryz.ntmps54
      go_wp2_with fail
      refine C0.out.mono ?_
      rintro e w1 ⟨vv, rfl, ho, hb⟩
      have HB1 := Bx.mk hb
      obtain ⟨g2, cap, rfl, hg2, _⟩ := owns_form ho (by simp)
      have d0 : w1.cell? ⟨g2, 0, none⟩ = some (.string sm) := by rw [ho.cellAt 0 (by simp)]; rfl
      have d1 : w1.cell? ⟨g2, 1, none⟩ = some (.string st) := by rw [ho.cellAt 1 (by simp)]; rfl
      have d2 : w1.cell? ⟨g2, 2, none⟩ = some (.string sw) := by rw [ho.cellAt 2 (by simp)]; rfl
      have hne : g2 ≠ g := by omega
      clear ho hb
      go_wp2_with fail
      refine (C1.out _).mono ?_
      rintro e w' ⟨rfl, rfl⟩
      go_wp2
      go_ret
      refine ⟨by unfold fstE; rw [HE.out]; rfl, ?_, Kept.of_below HB1.out⟩
      unfold fstH; rw [HE.out]; exact HH.out.below HB1.out
    | true =>
      cases b2 with
      | false =>
        have HE : Bx (fstV l = none) := ⟨by rw [HVB.out]; rfl⟩
        go_enter Tryz.func54, Tryz.ntmps54
        go_wp2_with fail
        refine C0.out.mono ?_
        rintro e w1 ⟨vv, rfl, ho, hb⟩
        have HB1 := Bx.mk hb
        obtain ⟨g2, cap, rfl, hg2, _⟩ := owns_form ho (by simp)
        have d0 : w1.cell? ⟨g2, 0, none⟩ = some (.string sm) := by rw [ho.cellAt 0 (by simp)]; rfl
        have d1 : w1.cell? ⟨g2, 1, none⟩ = some (.string st) := by rw [ho.cellAt 1 (by simp)]; rfl
        have d2 : w1.cell? ⟨g2, 2, none⟩ = some (.string sw) := by rw [ho.cellAt 2 (by simp)]; rfl
        have hne : g2 ≠ g := by omega
        clear ho hb
        go_wp2_with fail
        refine (C1.out _).mono ?_
        rintro e w' ⟨rfl, rfl⟩
        go_wp2_with fail
        refine (C2.out _).mono ?_
        rintro e w' ⟨rfl, rfl⟩
        go_wp2
        go_ret
        refine ⟨by unfold fstE; rw [HE.out]; rfl, ?_, Kept.of_below HB1.out⟩
        unfold fstH; rw [HE.out]; exact HH.out.below HB1.out
      | true =>
        cases b3 with
        | false =>
          have HE : Bx (fstV l = none) := ⟨by rw [HVB.out]; rfl⟩
          go_enter Tryz.func54, Tryz.ntmps54
          go_wp2_with fail
          refine C0.out.mono ?_
          rintro e w1 ⟨vv, rfl, ho, hb⟩
          have HB1 := Bx.mk hb
          obtain ⟨g2, cap, rfl, hg2, _⟩ := owns_form ho (by simp)
          have d0 : w1.cell? ⟨g2, 0, none⟩ = some (.string sm) := by rw [ho.cellAt 0 (by simp)]; rfl
          have d1 : w1.cell? ⟨g2, 1, none⟩ = some (.string st) := by rw [ho.cellAt 1 (by simp)]; rfl
          have d2 : w1.cell? ⟨g2, 2, none⟩ = some (.string sw) := by rw [ho.cellAt 2 (by simp)]; rfl
          have hne : g2 ≠ g := by omega
          clear ho hb
          go_wp2_with fail
          refine (C1.out _).mono ?_
          rintro e w' ⟨rfl, rfl⟩
          go_wp2_with fail
          refine (C2.out _).mono ?_
          rintro e w' ⟨rfl, rfl⟩
          go_wp2
          go_ret
          refine ⟨by unfold fstE; rw [HE.out]; rfl, ?_, Kept.of_below HB1.out⟩
          unfold fstH; rw [HE.out]; exact HH.out.below HB1.out
        | true =>
          have HE : Bx (fstV l = some (sm, st)) := ⟨by rw [HVB.out]; rfl⟩
          go_enter Tryz.func54, Tryz.ntmps54
          go_wp2_with fail
          refine C0.out.mono ?_
          rintro e w1 ⟨vv, rfl, ho, hb⟩
          have HB1 := Bx.mk hb
          obtain ⟨g2, cap, rfl, hg2, _⟩ := owns_form ho (by simp)
          have d0 : w1.cell? ⟨g2, 0, none⟩ = some (.string sm) := by rw [ho.cellAt 0 (by simp)]; rfl
          have d1 : w1.cell? ⟨g2, 1, none⟩ = some (.string st) := by rw [ho.cellAt 1 (by simp)]; rfl
          have d2 : w1.cell? ⟨g2, 2, none⟩ = some (.string sw) := by rw [ho.cellAt 2 (by simp)]; rfl
          have hne : g2 ≠ g := by omega
          clear ho hb
          go_wp2_with fail
          refine (C1.out _).mono ?_
          rintro e w' ⟨rfl, rfl⟩
          go_wp2_with fail
          refine (C2.out _).mono ?_
          rintro e w' ⟨rfl, rfl⟩
          have HH2 : Bx (Hm w' g own (hmOf h 0 cnt line LV cr)) := ⟨HH.out.below HB1.out⟩
          have c4 := HH2.out.c4
          have f4 := HH2.out.fz 4
          have c5 := (HH2.out.sM sm).c5
          have f5 := (HH2.out.sM sm).fz 5
          have HF : Bx (Hm ((w'.setCell ⟨g, 4, none⟩ (.string sm)).setCell ⟨g, 5, none⟩ (.string st)) g own (hmOf (fstH h l) 0 cnt line LV cr) ∧ Kept own w ((w'.setCell ⟨g, 4, none⟩ (.string sm)).setCell ⟨g, 5, none⟩ (.string st))) := ⟨by
            refine ⟨?_, (HH2.out.sM sm).kset' (HH2.out.kset' (Kept.of_below HB1.out) _ _) _ _⟩
            have h5 := (HH2.out.sM sm).sT st
            unfold fstH; rw [HE.out]; exact h5⟩
          go_wp2_with fail
          go_region
          go_wp2
          go_ret
          exact ⟨by unfold fstE; rw [HE.out]; rfl, Bk.keep HF.out.1 (fun _ _ => rfl) (Nat.le_refl _), HF.out.2.drew⟩
  · have HE : Bx (fstV l = none) := ⟨by
      unfold fstV
      match hq : pcsI 32 l, h3 with
      | [], _ => rfl
      | [_], _ => rfl
      | [_, _], _ => rfl
      | [_, _, _], h => exact absurd rfl h
      | _ :: _ :: _ :: _ :: _, _ => rfl⟩
    generalize hq : (pcsI 32 l).map strOf = P at C0
    have hqn : ¬ P.length = 3 := by rw [← hq, List.length_map]; exact h3
    have hfl : ¬ (if (P.length : Int) ≤ 3 then P else []).length = 3 := by
      split
      · exact hqn
      · simp
    generalize (if (P.length : Int) ≤ 3 then P else []) = F at C0 hfl
    generalize decide ((P.length : Int) ≤ 3) = D at C0
    clear hq hqn h3 HB
    have hfi : ((F.length : Int) != 3) = true := by simp; omega
    clear hfl
    go_enter Tryz.func54, Tryz.ntmps54
    go_wp2_with fail
    refine C0.out.mono ?_
    rintro e w1 ⟨vv, rfl, ho, hb⟩
    have HB1 := Bx.mk hb
    obtain ⟨ao, cap, rfl⟩ := owns_slice ho
    clear ho hb
    go_wp2
    go_ret
    refine ⟨by unfold fstE; rw [HE.out]; rfl, ?_, Kept.of_below HB1.out⟩
    unfold fstH; rw [HE.out]; exact HH.out.below HB1.out
end Go.Proofs.YtdameoejigpnhaaGreatDoor
