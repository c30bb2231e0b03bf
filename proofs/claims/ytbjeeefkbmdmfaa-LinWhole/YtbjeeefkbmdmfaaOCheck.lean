/- What Check answers; the law's lives. -/
import Derived.Test.YtbjeeefkbmdmfaaOPlay
namespace Go.Proofs.Ytbjeeefkbmdmfaa
open Go.RowKit
set_option linter.unusedVariables false

set_option maxHeartbeats 4000000 in
set_option maxRecDepth 100000 in
theorem check17_any (aL a b : Option Addr) (nL cL n c m d : Nat) (l : List Ic) (fu : Int) (ops : List Opr) (o : List Int) (w : World) (hI : Ics w aL nL cL l) (hl : IcsK l) (hf : V64 fu) (h : Ors w a n c ops) (hO : OrsK ops) (h2 : Ivs w b m d o) :
    Calls Try.prog 24 #[.slice aL nL cL, .int .i64 fu, .slice a n c, .slice b m d] w fun e w' => e = .returned (.int .i64 (ordE l fu ops o)) ∧ Below w.heap.size w w' := by
  have H := Bx.mk h
  have H2 := Bx.mk h2
  have HI := Bx.mk hI
  have HL := Bx.mk hl
  have HOR := Bx.mk hO
  have HFU := Bx.mk hf
  have HLEN : Bx (ops.length = n) := ⟨h.len_eq⟩
  have hn := Nat.le_trans h.le_cap h.cap_le
  unfold maxLen at hn
  have HE : Bx (ordE l fu ops o = if (thr l).2.2 ≠ 0 then (thr l).2.2 else if fu < 0 ∨ 10000 < fu then 2 else if 64 < ops.length then 5 else if ordA ops.length o = false then 2 else if ordN ops o = true then 9 else if ordT ops o = true then 17 else doesF l fu ops o Z4) := ⟨rfl⟩
  obtain ⟨R, HR⟩ : ∃ R, Bx (ordE l fu ops o = R) := ⟨_, ⟨rfl⟩⟩
  rw [HR.out] at HE ⊢
  clear h h2 hI hl hO hf HR
  go_enter Try.func24, Try.ntmps24
  go_wp2_with fail
  by_cases hok : (thr l).2.2 = 0
  · have HOK := Bx.mk hok
    refine (vnew_yes _ _ _ _ _ HI.out hok).mono ?_
    rintro e w1 ⟨gm, gc, cc, rfl, hm1, _, _, hb1⟩
    have HM := Bx.mk hm1
    have HB1 := Bx.mk hb1
    rw [if_neg (fun k => k hok)] at HE
    clear hm1 hb1 hok
    by_cases hf1 : fu < 0
    · have HF : Bx (R = 2) := ⟨by rw [HE.out, if_pos (.inl hf1)]⟩
      go_wp2_with fail
      go_ret
      exact ⟨by rw [HF.out]; rfl, HB1.out⟩
    have hf1d : decide (fu < 0) = false := by simpa using hf1
    by_cases hf2 : 10000 < fu
    · have HF : Bx (R = 2) := ⟨by rw [HE.out, if_pos (.inr hf2)]⟩
      go_wp2_with fail
      go_ret
      exact ⟨by rw [HF.out]; rfl, HB1.out⟩
    have hf2d : decide (10000 < fu) = false := by simpa using hf2
    rw [if_neg (by omega)] at HE
    by_cases hf3 : 64 < n
    · have HF : Bx (R = 5) := ⟨by rw [HE.out, if_pos (by rw [HLEN.out]; exact hf3)]⟩
      have hf3I : (64 : Int) < (n : Int) := by omega
      go_wp2_with fail
      go_ret
      exact ⟨by rw [HF.out]; rfl, HB1.out⟩
    have hf3I : ¬ (64 : Int) < (n : Int) := by omega
    rw [if_neg (by rw [HLEN.out]; exact hf3)] at HE
    have HI2 := Bx.mk (H2.out.below HB1.out)
    go_wp2_with fail
    refine (once_any b m d n o _ HI2.out (by omega)).mono ?_
    rintro e w2 ⟨rfl, hb2⟩
    have HB2 := Bx.mk (bstep HB1.out hb2)
    have HM2 := Bx.mk (HM.out.below hb2)
    rw [HLEN.out] at HE
    clear hb2 HI2
    cases hA : ordA n o with
    | false =>
      have HF : Bx (R = 2) := ⟨by rw [HE.out, if_pos hA]⟩
      clear hA
      go_wp2_with fail
      go_ret
      exact ⟨by rw [HF.out]; rfl, HB2.out⟩
    | true =>
      rw [if_neg (by rw [hA]; decide)] at HE
      have HPL : Bx (PlN ops.length o) := ⟨by rw [HLEN.out]; exact pln_of hA⟩
      have HO2 := Bx.mk (H.out.below HB2.out)
      have HI2 := Bx.mk (H2.out.below HB2.out)
      clear hA
      go_wp2_with fail
      refine (alldone_any a b n c m d ops o _ HO2.out HI2.out).mono ?_
      rintro e w3 ⟨rfl, hb3⟩
      have HB3 := Bx.mk (bstep HB2.out hb3)
      have HM3 := Bx.mk (HM2.out.below hb3)
      clear hb3 HI2 HO2
      cases hN : ordN ops o with
      | true =>
        have HF : Bx (R = 9) := ⟨by rw [HE.out, if_pos hN]⟩
        clear hN
        go_wp2_with fail
        go_ret
        exact ⟨by rw [HF.out]; rfl, HB3.out⟩
      | false =>
        rw [if_neg (by rw [hN]; decide)] at HE
        have HO3 := Bx.mk (H.out.below HB3.out)
        have HI3 := Bx.mk (H2.out.below HB3.out)
        clear hN
        go_wp2_with fail
        refine (intime_any a b n c m d ops o _ HO3.out HI3.out HPL.out).mono ?_
        rintro e w4 ⟨rfl, hb4⟩
        have HB4 := Bx.mk (bstep HB3.out hb4)
        have HM4 := Bx.mk (HM3.out.below hb4)
        clear hb4 HI3 HO3
        cases hT : ordT ops o with
        | true =>
          have HF : Bx (R = 17) := ⟨by rw [HE.out, if_pos hT]⟩
          clear hT
          go_wp2_with fail
          go_ret
          exact ⟨by rw [HF.out]; rfl, HB4.out⟩
        | false =>
          rw [if_neg (by rw [hT]; decide)] at HE
          have HO4 := Bx.mk (H.out.below HB4.out)
          have HI4 := Bx.mk (H2.out.below HB4.out)
          clear hT
          go_wp2_with fail
          refine (play_any gm gc cc l fu a b n c m d ops o _ HM4.out HL.out HFU.out HO4.out HOR.out HI4.out HPL.out).mono ?_
          rintro e w5 ⟨rfl, hb5⟩
          rw [← HE.out]
          have HB5 := Bx.mk (bstep HB4.out hb5)
          clear hb5
          go_wp2_with fail
          go_ret
          exact ⟨rfl, HB5.out⟩
  · refine (vnew_no _ _ _ _ _ HI.out hok).mono ?_
    rintro e w1 ⟨rfl, hb1⟩
    have HB1 := Bx.mk hb1
    have HF : Bx (R = (thr l).2.2) := ⟨by rw [HE.out, if_pos hok]⟩
    have hq : ((thr l).2.2 != 0) = true := by simpa using hok
    obtain ⟨er, HER⟩ : ∃ er, Bx ((thr l).2.2 = er) := ⟨_, ⟨rfl⟩⟩
    rw [HER.out] at hq HF ⊢
    clear hb1 hok
    go_wp2_with fail
    go_ret
    exact ⟨by rw [HF.out]; rfl, HB1.out⟩
end Go.Proofs.Ytbjeeefkbmdmfaa
