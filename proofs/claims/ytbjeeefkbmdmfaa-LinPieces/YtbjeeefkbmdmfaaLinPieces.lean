/- LinPieces: in whatever pieces a search goes it tells the same, does no more tries at a time than it may, and tells nothing ahead of its end. -/
import Derived.Test.YtbjeeefkbmdmfaaRows
import Derived.Test.YtbjeeefkbmdmfaaOrIn
import Derived.Test.YtbjeeefkbmdmfaaTmPieces
import Derived.Test.YtbjeeefkbmdmfaaLnh
import Derived.Test.YtbjeeefkbmdmfaaRLin7
import Derived.Test.YtbjeeefkbmdmfaaODone
import Derived.Test.YtbjeeefkbmdmfaaSma
import Derived.WalkKit
import Derived.ProofKit
import Derived.OpenShut
import Derived.ShutString
import Derived.ChangeOld
import Derived.Below
namespace Go.Proofs.Ytbjeeefkbmdmfaa.linPieces
open Go.ChangeShapes Go.WideShapes Go.ChangeAt Go.RowKit
open Go.ChangeMaps (open_string shut_string)
set_option linter.unusedVariables false

theorem own : ownKnob Try.prog.godebug = none := by kernel_rfl
theorem laidOut : laidOutB Try.prog = true := by kernel_rfl


set_option maxRecDepth 100000 in
set_option maxHeartbeats 8000000 in
theorem walk (a0 : Option Addr) (len0 cap0 : Nat) (l : List Ic) (fuel : Int) (budget : Int) (a3 : Option Addr) (len3 cap3 : Nat) (ops : List Opr) (a4 : Option Addr) (len4 cap4 : Nat) (pieces : List Int) (w : World) (hl : IcsI w a0 len0 cap0 l) (hfuel : I64 fuel) (hbudget : I64 budget) (hops : OrsI w a3 len3 cap3 ops) (hpieces : IvsI w a4 len4 cap4 pieces) :
    Calls Try.prog 4 #[.slice a0 len0 cap0, .int .i64 fuel, .int .i64 budget, .slice a3 len3 cap3, .slice a4 len4 cap4] w fun e w' => e = .returned (.bool true) ∧ Below w.heap.size w w' := by
  have HPC := Bx.mk hpieces.1
  clear hpieces
  have HL := Bx.mk hl.1
  have HLK := Bx.mk hl.2
  have HOP := Bx.mk hops.1
  have HOPK := Bx.mk hops.2
  clear hl hops
  go_enter Try.func4, Try.ntmps4
  go_wp2_with fail
  refine (few15_any a0 len0 cap0 l _ HL.out).mono ?_
  rintro e w1 ⟨v1, rfl, ho1, hb1⟩
  obtain ⟨L, HLL⟩ : ∃ L, Bx (l.take 210 = L) := ⟨_, ⟨rfl⟩⟩
  have HLK1 : Bx (IcsK L) := ⟨by rw [← HLL.out]; exact HLK.out.take 210⟩
  rw [HLL.out] at ho1
  obtain ⟨aL, cL, rfl, hE1⟩ := Ls.of_owns icC_len ho1 rfl
  have HE1 := Bx.mk hE1
  have HB1 := Bx.mk hb1
  have HOP1 := Bx.mk (HOP.out.below hb1)
  clear ho1 hE1 hb1 HL HLK HLL HOP
  go_wp2_with fail
  refine (few17_any a3 len3 cap3 8 ops _ HOP1.out (by decide) (by decide)).mono ?_
  rintro e w2 ⟨v2, rfl, ho2, hb2⟩
  obtain ⟨O, HOO⟩ : ∃ O, Bx (ops.take 8 = O) := ⟨_, ⟨rfl⟩⟩
  have HOK1 : Bx (OrsK O) := ⟨by rw [← HOO.out]; exact HOPK.out.take 8⟩
  have HON : Bx (O.length ≤ 8) := ⟨by rw [← HOO.out, List.length_take]; omega⟩
  rw [HOO.out] at ho2
  have HOW2 := Bx.mk ho2
  obtain ⟨aO, cO, rfl, hE2⟩ := Ls.of_owns orC_len ho2 rfl
  have HO2 := Bx.mk hE2
  have HE2 := Bx.mk (HE1.out.below hb2)
  have HB2 := Bx.mk (bstep HB1.out hb2)
  clear ho2 hE2 hb2 HE1 HB1 HOP1 HOPK HOO
  have HPC2 := Bx.mk (HPC.out.below HB2.out)
  clear HPC
  go_wp2_with fail
  refine (least_any fuel 0 300 _).mono ?_
  rintro e wq ⟨rfl, hw⟩
  subst hw
  have hfb := least_bd fuel 0 300 (by decide)
  generalize leastV fuel 0 300 = f at hfb ⊢
  go_wp2_with fail
  refine (least_any budget 0 400 _).mono ?_
  rintro e wq ⟨rfl, hw⟩
  subst hw
  have hgb := least_bd budget 0 400 (by decide)
  generalize leastV budget 0 400 = g at hgb ⊢
  have HGB := Bx.mk hgb
  clear hfb hgb
  go_wp2_with fail
  by_cases hne : linE L f g O = 0
  · have HK := Bx.mk (linE_ok hne)
    clear hne
    refine (whole_yes HE2.out HLK1.out HO2.out HOK1.out HK.out).mono ?_
    rintro e w3 ⟨aW, cW, rfl, hoW, hb3⟩
    obtain ⟨R, HR⟩ : ∃ R, Bx (vdR L f g O = R) := ⟨_, ⟨rfl⟩⟩
    rw [HR.out] at hoW ⊢
    obtain ⟨mw, HMW⟩ : ∃ m, Bx (R.o.length = m) := ⟨_, ⟨rfl⟩⟩
    obtain ⟨kR, HKR⟩ : ∃ kR : Nat, Bx (vdK R = kR) := ⟨_, ⟨rfl⟩⟩
    obtain ⟨tq, HTQ⟩ : ∃ t : Nat, Bx (R.t = t) := ⟨_, ⟨rfl⟩⟩
    rw [HMW.out] at hoW
    rw [HMW.out, HKR.out, HTQ.out]
    have hb4 : Below w3.heap.size w3 (w3.alloc (.cells #[.int .i64 (kR : Nat), .slice aW mw cW, .int .i64 (tq : Nat)] 39)) := (Below.refl _ _).alloc (Nat.le_refl _) _
    obtain ⟨aY, cY, eY, hI4⟩ := Ls.of_owns ivC_len (owns_below hoW hb4) (by rw [orI_len, HMW.out])
    cases eY
    have HI4 := Bx.mk hI4
    have HE4 := Bx.mk (HE2.out.below (bstep hb3 hb4))
    have HO4 := Bx.mk (HO2.out.below (bstep hb3 hb4))
    have HB4 := Bx.mk (bstep HB2.out (bstep hb3 hb4))
    have HPC4 := Bx.mk (HPC2.out.below (bstep hb3 hb4))
    have HR4 := Bx.mk (heap_alloc_new w3 (.cells #[.int .i64 (kR : Nat), .slice aW mw cW, .int .i64 (tq : Nat)] 39))
    clear hoW hb3 hb4 hI4 HE2 HO2 HB2 HPC2
    go_upto_region 4 with fail
    generalize w3.alloc (.cells #[.int .i64 (kR : Nat), .slice aW mw cW, .int .i64 (tq : Nat)] 39) = w4 at HE4 HO4 HB4 HR4 HI4 HPC4 ⊢
    generalize w3.heap.size = gw at HR4 ⊢
    go_wp2_with fail
    refine (new18_yes HE4.out HLK1.out HO4.out HOK1.out HK.out).mono ?_
    rintro e w5 ⟨D, vF, F, M, kd, vO, o, rfl, hD, hdk, hnd, hta, hb5⟩
    have HDK := Bx.mk hdk
    have HND := Bx.mk hnd
    have HRE : Bx (tR D = R) := ⟨by unfold tR; rw [hD.1, hD.2.1, hD.2.2.1, hD.2.2.2, HR.out]⟩
    have HBU : Bx (tB D ≤ 400) := ⟨by unfold tB; rw [hD.2.2.1]; have := HGB.out; omega⟩
    obtain ⟨N, HN⟩ : ∃ N, Bx (w4.heap.size = N) := ⟨_, ⟨rfl⟩⟩
    rw [HN.out] at HND
    have HI5 : Bx (PcI D N w5 w5 vF 0) := ⟨⟨_, _, _, _, _, hta⟩, Below.refl _ _, by rw [← HN.out]; exact hb5.size⟩
    have HG5 : Bx (gw < N) := ⟨by rw [← HN.out]; exact (Array.getElem?_eq_some_iff.1 HR4.out).1⟩
    have HR5 := Bx.mk (up_row _ _ HR4.out hb5)
    have HIW5 := Bx.mk (HI4.out.below hb5)
    have HIWN : Bx (∀ p, aW = some p → 0 < mw → p.block < N) := ⟨by rw [← HN.out]; exact HI4.out.blk18⟩
    have HPC5 := Bx.mk (HPC4.out.below hb5)
    have HPCN : Bx (∀ p, a4 = some p → 0 < len4 → p.block < N) := ⟨by rw [← HN.out]; exact HPC4.out.blk18⟩
    have HB5 := Bx.mk (bstep HB4.out hb5)
    have HWN : Bx (w.heap.size ≤ N) := ⟨by rw [← HN.out]; exact HB4.out.size⟩
    clear hD hdk hnd hta hb5 HE4 HO4 HB4 HR4 HI4 HPC4 HN HOW2
    go_upto_if 67 with fail
    go_cut [4] from 65 to 67 (fun s wx => ∃ m : Nat, s = .slice a4 m cap4 ∧ wx = w5 ∧ Bx (m ≤ 200 ∧ m ≤ len4))
    case first =>
      by_cases hlt : 200 < len4
      · have hltI : (200 : Int) < (len4 : Int) := by omega
        obtain ⟨b, off, rfl, _, _⟩ := HPC5.out.spot (by omega)
        have hcl := HPC5.out.le_cap
        have hsl := ivs_cut b off len4 cap4 200 (by omega)
        go_wp2_with fail
        go_meet
        case rel => exact ⟨200, rfl, rfl, ⟨Nat.le_refl _, by omega⟩⟩
      · have hltI : ¬ (200 : Int) < (len4 : Int) := by omega
        go_wp2_with fail
        go_meet
        case rel => exact ⟨len4, rfl, rfl, ⟨by omega, Nat.le_refl _⟩⟩
    obtain ⟨m, rfl, hwc, HMM⟩ := hcut
    obtain rfl : w5 = wc := hwc.symm
    clear hwc
    have HPM := Bx.mk (HPC5.out.take m HMM.out.2)
    have HPMN : Bx (∀ p, a4 = some p → 0 < m → p.block < N) := ⟨fun p e hp => HPCN.out p e (by have := HMM.out.2; omega)⟩
    have hm200 := HMM.out.1
    generalize pieces.take m = P at HPM
    clear HPC5 HPCN HMM
    go_wp2_with fail
    go_loopw [15] (fun i wr => ∃ (j k : Nat) (v : Value), i = .int .i64 j ∧ j ≤ m + 1 ∧ Bx (j = m + 1 → stopS (tS D) (tP D) (tB D) k = true) ∧ Bx (PcI D N w5 wr v k)) (fun i _ => m + 1 - (intOf i).toNat)
    case atStart => exact ⟨0, 0, vF, rfl, by omega, ⟨fun h => by omega⟩, HI5⟩
    case round =>
      clear HI5
      obtain ⟨j, k, v, rfl, hjm, HEN, HI⟩ := hrel
      by_cases hle : j ≤ m
      · have hjI : (j : Int) ≤ (m : Int) := by omega
        obtain ⟨F1, M1, kd1, vO1, o1, hA⟩ := HI.out.ta
        have HA := Bx.mk hA
        have HPW := Bx.mk (HI.out.iv HPM.out HPMN.out)
        clear hA
        go_upto_if 79 with fail
        go_cut [16] from 70 to 134 (fun s wx => ∃ p : Int, s = .int .i64 p ∧ wx = wr ∧ Bx (-1 ≤ p ∧ p ≤ 500 ∧ (j = m → p = 500)))
        case first =>
          by_cases hlt : j < m
          · have hltI : (j : Int) < (m : Int) := by omega
            obtain ⟨b, off, rfl, _, x0⟩ := HPW.out.iv j hlt 0
            generalize P.getD j 0 = x at x0
            go_wp2_with fail
            refine (least_any x (-1) 500 _).mono ?_
            rintro e wq ⟨rfl, hw⟩
            subst hw
            have hxb := least_bd x (-1) 500 (by decide)
            generalize leastV x (-1) 500 = y at hxb ⊢
            go_wp2_with fail
            go_meet
            case rel => exact ⟨y, rfl, rfl, ⟨hxb.1, hxb.2, fun h => by omega⟩⟩
          · have hltI : ¬ (j : Int) < (m : Int) := by omega
            go_wp2_with fail
            go_meet
            case rel => exact ⟨500, rfl, rfl, ⟨by decide, by decide, fun _ => rfl⟩⟩
        obtain ⟨p, rfl, hwc, HPP⟩ := hcut
        obtain rfl : wr = wc := hwc.symm
        clear hwc
        have HPV : Bx (V64 p) := ⟨by have := HPP.out; unfold V64; omega⟩
        go_wp2_with fail
        refine (tries_any HA.out.tm).mono ?_
        rintro e wz ⟨rfl, hw⟩
        obtain rfl : wr = wz := hw.symm
        clear hw
        go_wp2_with fail
        refine (go_any HA.out HDK.out p HPV.out).mono ?_
        rintro e w6 ⟨v6, rfl, hta6, hk6, ha6⟩
        have HI6 := Bx.mk (HI.out.go HND.out hk6 hta6)
        have HBD := Bx.mk (go_bd (s := tS D) (p0 := tP D) (B := tB D) p.toNat k)
        have HALL : Bx (j = m → stopS (tS D) (tP D) (tB D) (goF (tS D) (tP D) (tB D) p.toNat k) = true) := ⟨fun e => go_all HA.out.tk (by have := HBU.out; rw [HPP.out.2.2 e]; show tB D ≤ k + 500; omega)⟩
        have HKL : Bx (goF (tS D) (tP D) (tB D) p.toNat k ≤ 400) := ⟨Nat.le_trans (go_tk _ HA.out.tk).1 HBU.out⟩
        clear hk6 ha6 HA HI HPW
        obtain ⟨F6, M6, kd6, vO6, o6, hA6⟩ := hta6
        obtain ⟨k', HK'⟩ : ∃ k', Bx (goF (tS D) (tP D) (tB D) p.toNat k = k') := ⟨_, ⟨rfl⟩⟩
        rw [HK'.out] at HI6 HBD HALL HKL hA6 ⊢
        have hk4 := HKL.out
        have hkk := HBD.out.1
        obtain ⟨q, HQ⟩ : ∃ q : Nat, Bx (p.toNat = q) := ⟨_, ⟨rfl⟩⟩
        have hpq : (p < 0 ∧ q = 0) ∨ (¬ p < 0 ∧ p = (q : Int)) := by have := HQ.out; omega
        have hmx : (if p < 0 then (0 : Int) else p) = (q : Int) := by split <;> omega
        clear hpq
        obtain ⟨d, HDD⟩ : ∃ d : Nat, Bx (k' - k = d) := ⟨_, ⟨rfl⟩⟩
        have hsub : (k' : Int) - (k : Int) = (d : Int) := by have := HDD.out; omega
        have hdq : d ≤ q := by have := HDD.out; have := HBD.out.2.1; rw [HQ.out] at this; omega
        have hd4 : d ≤ 400 := by have := HDD.out; omega
        have hwd : IntKind.i64.wrap ((k' : Int) - (k : Int)) = (d : Int) := by rw [hsub, w64_wrap]; exact w64_id (by unfold V64; omega)
        have hnl : ¬ (k' : Int) < (k : Int) := by omega
        cases hs : stopS (tS D) (tP D) (tB D) k' with
        | true =>
          have HST := Bx.mk hs
          have HOV : Bx (decide (kd6 ≠ 0) = true) := ⟨by rw [hA6.over]; exact hs⟩
          have HT6 := Bx.mk hA6.tm
          have HOL : Bx (o6.length ≤ 64) := ⟨by
            rw [(hA6.told hs).2.1, HRE.out, ← HR.out]
            exact Nat.le_trans (vd_len _ _ _ _) HK.out.few⟩
          have HKN : Bx (kd6 ≠ 0) := ⟨of_decide_eq_true HOV.out⟩
          clear hs hA6
          go_wp2_with fail
          refine (ver_over HT6.out HDK.out HKN.out HOL.out).mono ?_
          rintro e w7 ⟨aV, cV, rfl, _, hb7⟩
          generalize o6.length = mo
          have hb8 : Below w7.heap.size w7 (w7.alloc (.cells #[.int .i64 kd6, .slice aV mo cV, .int .i64 (k' : Nat)] 39)) := (Below.refl _ _).alloc (Nat.le_refl _) _
          have HI8 := Bx.mk ((HI6.out.below hb7).below hb8)
          have HT8 := Bx.mk ((HT6.out.below hb7).below hb8)
          have HX8 := Bx.mk (heap_alloc_new w7 (.cells #[.int .i64 kd6, .slice aV mo cV, .int .i64 (k' : Nat)] 39))
          clear hb7 hb8 HI6 HT6
          go_upto_region 18 with fail
          generalize w7.alloc (.cells #[.int .i64 kd6, .slice aV mo cV, .int .i64 (k' : Nat)] 39) = w8 at HI8 HT8 HX8 ⊢
          generalize w7.heap.size = g19 at HX8 ⊢
          have y0 := cell_of_row _ g19 0 _ _ (0, 0) HX8.out
          go_wp2_with fail
          refine (over_any HT8.out).mono ?_
          rintro e wz ⟨rfl, hw⟩
          obtain rfl : w8 = wz := hw.symm
          clear hw
          rw [HOV.out]
          go_wp2_with fail
          refine (tries_any HT8.out).mono ?_
          rintro e wz ⟨rfl, hw⟩
          obtain rfl : w8 = wz := hw.symm
          clear hw
          go_wp2_with fail
          refine (tries_any HT8.out).mono ?_
          rintro e wz ⟨rfl, hw⟩
          obtain rfl : w8 = wz := hw.symm
          clear hw
          clear y0 HX8 HT8
          go_wp2_with fail
          go_roundw
          case rel => exact ⟨j + 1, k', v6, by go_num, by omega, ⟨fun _ => HST.out⟩, HI8⟩
          case measure => simp [intOf]; omega
        | false =>
          have HNM : Bx (j + 1 = m + 1 → stopS (tS D) (tP D) (tB D) k' = true) := ⟨fun e => HALL.out (by omega)⟩
          have hkd : kd6 = 0 := by
            rcases hA6.st with ⟨_, h1, _⟩ | ⟨h1, _⟩
            · exact h1
            · rw [hs] at h1; cases h1
          subst hkd
          have HOV : Bx (decide ((0 : Int) ≠ 0) = false) := ⟨by decide⟩
          have HT6 := Bx.mk hA6.tm
          have hdq2 : d = q := by
            have h1 := HDD.out
            have h2 := HBD.out.2.2
            rw [HQ.out] at h2
            rcases h2 with h2 | h2
            · rw [hs] at h2; cases h2
            · omega
          subst hdq2
          have hqq : ((d : Int) != (d : Int)) = false := by simp
          clear hs hA6
          go_wp2_with fail
          refine (ver_open HT6.out).mono ?_
          rintro e w7 ⟨rfl, hb7⟩
          have hb8 : Below w7.heap.size w7 (w7.alloc (.cells #[.int .i64 0, .slice none 0 0, .int .i64 0] 39)) := (Below.refl _ _).alloc (Nat.le_refl _) _
          have HI8 := Bx.mk ((HI6.out.below hb7).below hb8)
          have HT8 := Bx.mk ((HT6.out.below hb7).below hb8)
          have HX8 := Bx.mk (heap_alloc_new w7 (.cells #[.int .i64 0, .slice none 0 0, .int .i64 0] 39))
          clear hb7 hb8 HI6 HT6
          go_upto_region 18 with fail
          generalize w7.alloc (.cells #[.int .i64 0, .slice none 0 0, .int .i64 0] 39) = w8 at HI8 HT8 HX8 ⊢
          generalize w7.heap.size = g19 at HX8 ⊢
          have y0 := cell_of_row _ g19 0 _ _ (0, 0) HX8.out
          go_wp2_with fail
          refine (over_any HT8.out).mono ?_
          rintro e wz ⟨rfl, hw⟩
          obtain rfl : w8 = wz := hw.symm
          clear hw
          rw [HOV.out]
          go_wp2_with fail
          refine (tries_any HT8.out).mono ?_
          rintro e wz ⟨rfl, hw⟩
          obtain rfl : w8 = wz := hw.symm
          clear hw
          go_wp2_with fail
          refine (tries_any HT8.out).mono ?_
          rintro e wz ⟨rfl, hw⟩
          obtain rfl : w8 = wz := hw.symm
          clear hw
          go_wp2_with fail
          refine (tries_any HT8.out).mono ?_
          rintro e wz ⟨rfl, hw⟩
          obtain rfl : w8 = wz := hw.symm
          clear hw HT8
          go_wp2_with fail
          go_roundw
          case rel => exact ⟨j + 1, k', v6, by go_num, by omega, HNM, HI8⟩
          case measure => simp [intOf]; omega
      · have hjI : ¬ (j : Int) ≤ (m : Int) := by omega
        have HST := Bx.mk (HEN.out (by omega))
        obtain ⟨wo, hwo⟩ : ∃ wo, wo = wr := ⟨_, rfl⟩
        subst hwo
        obtain ⟨F1, M1, kd1, vO1, o1, hA⟩ := HI.out.ta
        have e1 := (hA.told HST.out).1
        have e2 := (hA.told HST.out).2.1
        have e3 := (hA.told HST.out).2.2
        rw [HRE.out] at e1 e2 e3
        rw [HKR.out] at e1
        rw [HTQ.out] at e3
        subst e1 e2 e3
        have HT1 := Bx.mk hA.tm
        have HON1 := Bx.mk HI.out.le
        have HNW := Bx.mk HI.out.nn
        have HKN : Bx (((kR : Nat) : Int) ≠ 0) := ⟨by rw [← HKR.out]; have := vdk_pos R; omega⟩
        have HOL : Bx (R.o.length ≤ 64) := ⟨by rw [← HR.out]; exact Nat.le_trans (vd_len _ _ _ _) HK.out.few⟩
        have HLO : Bx (D.g < wo.heap.size ∧ (∀ j, v.ownBlock = some j → j < wo.heap.size) ∧ (∀ j, vO1.ownBlock = some j → j < wo.heap.size)) := ⟨hA.tm.lt, fun j e => (hA.tm.ltF j e).2, fun j e => (hA.tm.od.lt j e).2⟩
        clear hA
        go_wp2_with fail
        refine (ver_over HT1.out HDK.out HKN.out HOL.out).mono ?_
        rintro e w7 ⟨aV, cV, rfl, hoV, hb7⟩
        rw [HMW.out] at hoV ⊢
        have hb8 : Below w7.heap.size w7 (w7.alloc (.cells #[.int .i64 (kR : Nat), .slice aV mw cV, .int .i64 (k : Nat)] 39)) := (Below.refl _ _).alloc (Nat.le_refl _) _
        have HOV8 := Bx.mk (owns_below hoV hb8)
        have HI8 := Bx.mk ((HI.out.below hb7).below hb8)
        have HT8 := Bx.mk ((HT1.out.below hb7).below hb8)
        have HX8 := Bx.mk (heap_alloc_new w7 (.cells #[.int .i64 (kR : Nat), .slice aV mw cV, .int .i64 (k : Nat)] 39))
        have HSZ : Bx (wo.heap.size ≤ w7.heap.size) := ⟨hb7.size⟩
        clear hoV hb7 hb8 HT1
        go_upto_region 23 with fail
        generalize w7.alloc (.cells #[.int .i64 (kR : Nat), .slice aV mw cV, .int .i64 (k : Nat)] 39) = w8 at HI8 HT8 HX8 HOV8 ⊢
        generalize w7.heap.size = gx at HX8 HSZ ⊢
        have HV8 := Bx.mk (HI8.out.row HR5.out HG5.out)
        obtain ⟨aY, cY, eY, hIV8⟩ := Ls.of_owns ivC_len HOV8.out (by rw [orI_len, HMW.out])
        cases eY
        have HIV8 := Bx.mk hIV8
        have HIW8 := Bx.mk (HI8.out.iv HIW5.out HIWN.out)
        have x0 := cell_of_row _ gw 0 _ _ (0, 0) HV8.out
        have x1 := cell_of_row _ gw 1 _ _ (0, 0) HV8.out
        have x2 := cell_of_row _ gw 2 _ _ (0, 0) HV8.out
        have y0 := cell_of_row _ gx 0 _ _ (0, 0) HX8.out
        have y1 := cell_of_row _ gx 1 _ _ (0, 0) HX8.out
        have y2 := cell_of_row _ gx 2 _ _ (0, 0) HX8.out
        clear hIV8 HI
        go_wp2_with fail
        refine (refsame18_yes _ _ _ _ _ _ _ _ (orI R.o) _ HIV8.out HIW8.out).mono ?_
        rintro e w9 ⟨rfl, hb9⟩
        have HOV9 := Bx.mk (owns_below HOV8.out hb9)
        have HI9 := Bx.mk (HI8.out.below hb9)
        have HT9 := Bx.mk (HT8.out.below hb9)
        have HX9 := Bx.mk (up_row _ _ HX8.out hb9)
        clear hb9 x0 x1 x2 y0 y1 y2 HIV8 HIW8 HV8 HOV8 HI8 HT8 HX8
        have hm8 : mw ≤ 64 := by rw [← HMW.out]; exact HOL.out
        go_wp2_with fail
        go_loopw [23] (fun i wx => ∃ j : Nat, j ≤ mw ∧ i = .int .i64 j ∧ Bx (∃ xs, wx.ownsRow wo.heap.size 3 1 (.slice aV mw cV) mw xs) ∧ Bx (Kept (fun k => (Value.slice aV mw cV).ownBlock = some k) w9 wx)) (fun i _ => mw - (intOf i).toNat)
        case atStart => exact ⟨0, Nat.zero_le _, rfl, ⟨_, HOV9.out⟩, ⟨Kept.refl _ _⟩⟩
        case round =>
          obtain ⟨j2, hj2, rfl, HXS, HKP⟩ := hrel
          have HXR : Bx (wr.heap[gx]? = some (.cells #[.int .i64 (kR : Nat), .slice aV mw cV, .int .i64 (k : Nat)] 39 (0, 0))) := ⟨(HKP.out.block gx (Array.getElem?_eq_some_iff.1 HX9.out).1 (own_off HOV9.out HX9.out (by decide))).trans HX9.out⟩
          have y1 := cell_of_row _ gx 1 _ _ (0, 0) HXR.out
          by_cases hlt : j2 < mw
          · have hltI : (j2 : Int) < (mw : Int) := by omega
            obtain ⟨xs, hX⟩ := HXS.out
            obtain ⟨gV, cap, e, _, _⟩ := owns_form hX (by omega)
            cases e
            obtain ⟨v0, z0⟩ := iv_there hX hlt
            have f0 := iv_froz hX j2
            have HX2 : Bx (∃ xs, (wr.setCell ⟨gV, j2, none⟩ (.int .i64 (-1))).ownsRow wo.heap.size 3 1 (.slice (some ⟨gV, 0, none⟩) mw cV) mw xs) := ⟨_, (World.ownsRow.stored hX j2 (.int .i64 (-1))).1⟩
            have HKP2 : Bx (Kept (fun k => (Value.slice (some ⟨gV, 0, none⟩) mw cV).ownBlock = some k) w9 (wr.setCell ⟨gV, j2, none⟩ (.int .i64 (-1)))) := ⟨HKP.out.setCell (g := gV) (.inl rfl) _ _⟩
            clear hX HXS HKP
            go_wp2_with fail
            go_roundw
            case rel => exact ⟨j2 + 1, by omega, by go_num, HX2, HKP2⟩
            case measure => simp [intOf]; omega
          · have hltI : ¬ (j2 : Int) < (mw : Int) := by omega
            obtain ⟨wl, hwl⟩ : ∃ wl, wl = wr := ⟨_, rfl⟩
            subst hwl
            have HGE : Bx (∀ k, (Value.slice aV mw cV).ownBlock = some k → wo.heap.size ≤ k) := ⟨fun k e => (HOV9.out.lt k e).1⟩
            have HTL : Bx (Tm D wl v F1 M1 k (kR : Nat) vO1 R.o) := ⟨HT9.out.keep HKP.out.size (fun i hl e => HKP.out.block i hl (fun e2 => by
              have h1 := HGE.out i e2
              have h2 := HLO.out
              rcases e with e | e | e
              · omega
              · have := h2.2.1 i e; omega
              · have := h2.2.2 i e; omega)) HDK.out⟩
            have HBL : Bx (Below N w5 wl) := ⟨HI9.out.bl.trans (HKP.out.low (B := N) (fun i e => Nat.le_trans HON1.out (HGE.out i e)) HI9.out.le)⟩
            clear HXS HKP HXR HT9 HX9 HOV9 HI9
            go_wp2_with fail
            clear y1
            refine (ver_over HTL.out HDK.out HKN.out HOL.out).mono ?_
            rintro e wv ⟨aZ, cZ, rfl, hoZ, hbv⟩
            rw [HMW.out] at hoZ ⊢
            have hba : Below wv.heap.size wv (wv.alloc (.cells #[.int .i64 (kR : Nat), .slice aZ mw cZ, .int .i64 (k : Nat)] 39)) := (Below.refl _ _).alloc (Nat.le_refl _) _
            have HBA : Bx (Below N w5 (wv.alloc (.cells #[.int .i64 (kR : Nat), .slice aZ mw cZ, .int .i64 (k : Nat)] 39))) := ⟨HBL.out.trans ((bstep hbv hba).mono (Nat.le_trans HNW.out HBL.out.size))⟩
            obtain ⟨aY2, cY2, eY2, hIZ⟩ := Ls.of_owns ivC_len (owns_below hoZ hba) (by rw [orI_len, HMW.out])
            cases eY2
            have HIZ := Bx.mk hIZ
            have HZ := Bx.mk (heap_alloc_new wv (.cells #[.int .i64 (kR : Nat), .slice aZ mw cZ, .int .i64 (k : Nat)] 39))
            clear hoZ hbv hba hIZ HBL HTL
            go_upto_region 30 with fail
            generalize wv.alloc (.cells #[.int .i64 (kR : Nat), .slice aZ mw cZ, .int .i64 (k : Nat)] 39) = wa at HBA HIZ HZ ⊢
            generalize wv.heap.size = gz at HZ ⊢
            have HWA : Bx (wa.heap[gw]? = some (.cells #[.int .i64 (kR : Nat), .slice aW mw cW, .int .i64 (k : Nat)] 39 (0, 0))) := ⟨(HBA.out.block gw HG5.out).trans HR5.out⟩
            have HIWA : Bx (Ivs wa aW mw cW (orI R.o)) := ⟨HIW5.out.low (N := N) HIWN.out (fun i hi _ => HBA.out.block i hi) HBA.out.size⟩
            have HB : Bx (Below w.heap.size w wa) := ⟨HB5.out.trans (HBA.out.mono HWN.out)⟩
            have x0 := cell_of_row _ gw 0 _ _ (0, 0) HWA.out
            have x1 := cell_of_row _ gw 1 _ _ (0, 0) HWA.out
            have x2 := cell_of_row _ gw 2 _ _ (0, 0) HWA.out
            have y0 := cell_of_row _ gz 0 _ _ (0, 0) HZ.out
            have y1 := cell_of_row _ gz 1 _ _ (0, 0) HZ.out
            have y2 := cell_of_row _ gz 2 _ _ (0, 0) HZ.out
            go_wp2_with fail
            refine (refsame18_yes _ _ _ _ _ _ _ _ (orI R.o) _ HIZ.out HIWA.out).mono ?_
            rintro e wy ⟨rfl, hby⟩
            have HBY := Bx.mk (bstep HB.out hby)
            clear HB hby x0 x1 x2 y0 y1 y2
            have HB := HBY
            go_wp2_with fail
            refine (lives18_any _).mono ?_
            rintro e wL ⟨rfl, hbL⟩
            have hfin := bstep HB.out hbL
            clear hbL
            go_wp2_with fail
            go_ret
            exact ⟨rfl, hfin⟩
  · have HNE := Bx.mk hne
    clear hne
    refine (whole_no HE2.out HO2.out HNE.out).mono ?_
    rintro e w3 ⟨rfl, hb3⟩
    have hb4 : Below w3.heap.size w3 (w3.alloc (.cells #[.int .i64 0, .slice none 0 0, .int .i64 0] 39)) := (Below.refl _ _).alloc (Nat.le_refl _) _
    have HE4 := Bx.mk (HE2.out.below (bstep hb3 hb4))
    have HO4 := Bx.mk (HO2.out.below (bstep hb3 hb4))
    have HB4 := Bx.mk (bstep HB2.out (bstep hb3 hb4))
    clear hb3 hb4 HE2 HO2 HB2
    go_upto_region 4 with fail
    generalize w3.alloc (.cells #[.int .i64 0, .slice none 0 0, .int .i64 0] 39) = w4 at HE4 HO4 HB4 ⊢
    go_wp2_with fail
    refine (new18_no HE4.out HO4.out HNE.out).mono ?_
    rintro e w5 ⟨rfl, hb5⟩
    obtain ⟨r, HRR⟩ : ∃ r, Bx (linE L f g O = r) := ⟨_, ⟨rfl⟩⟩
    rw [HRR.out] at HNE ⊢
    have hq : (r != 0) = true := by simpa using HNE.out
    have HB := Bx.mk (bstep HB4.out hb5)
    clear hb5 HE4 HO4 HB4
    go_wp2_with fail
    refine (lives18_any _).mono ?_
    rintro e wL ⟨rfl, hbL⟩
    have hfin := bstep HB.out hbL
    clear hbL
    go_wp2_with fail
    go_ret
    exact ⟨rfl, hfin⟩

set_option maxRecDepth 100000 in
theorem lifted (os : Os) (started : os.Started) (H : Type) (enc : TypeId × Value → H) :
    ReturnsInHanded {} Try.checked os 4 .any (Rows.linPiecesSpec.pre6 enc Try.prog Try.f4 Rows.linPiecesRow.domain false) (Rows.linPiecesSpec.post enc Try.prog Try.f4 false true false false) := by
  refine returnsInHanded_of_change (C := Try.checked) own started (by kernel_rfl) Try.func4
    (ChangeSpec.witness6 (enc := enc) (C := Try.checked) false ⟨#[], #[.slice none 0 0, .int .i64 0, .int .i64 0, .slice none 0 0, .slice none 0 0], []⟩ 8 (by kernel_rfl) (by kernel_rfl) (by kernel_rfl) (by kernel_rfl)) ?_
  intro W base args ds gs before hval0 hW hcnd _
  have hval : ∀ (j : Nat) t v, Try.f4.params[j]? = some t → args[j]? = some v → Value.okWide Try.prog W .any base t v := hval0
  have hW' := hW
  obtain ⟨p, q, hA0, hV, rfl, hfz, hnd⟩ := hW
  have hA : DataW.TrodAll enc Try.prog W 0 (fun _ => true) true Try.f4.params.toList args.toList ds p := hA0
  rw [Try.params4] at hA hval
  obtain ⟨v0, vs0, d0, ds0, p0, q0, hargs, rfl, rfl, h0, r0⟩ := trodAll_cons hA
  obtain ⟨v1, vs1, d1, ds1, p1, q1, rfl, rfl, rfl, h1, r1⟩ := trodAll_cons r0
  obtain ⟨v2, vs2, d2, ds2, p2, q2, rfl, rfl, rfl, h2, r2⟩ := trodAll_cons r1
  obtain ⟨v3, vs3, d3, ds3, p3, q3, rfl, rfl, rfl, h3, r3⟩ := trodAll_cons r2
  obtain ⟨v4, vs4, d4, ds4, p4, q4, rfl, rfl, rfl, h4, r4⟩ := trodAll_cons r3
  obtain ⟨rfl, rfl, rfl⟩ := trodAll_nil r4
  obtain rfl : args = #[v0, v1, v2, v3, v4] := by cases args; simp_all
  obtain ⟨rfl, rfl⟩ := trodVars_none hV
  obtain ⟨a0, len0, cap0, rfl⟩ := okWide_slice Try.underlying22 (hval 0 22 v0 rfl rfl)
  obtain ⟨a3, len3, cap3, rfl⟩ := okWide_slice Try.underlying23 (hval 3 23 v3 rfl rfl)
  obtain ⟨a4, len4, cap4, rfl⟩ := okWide_slice Try.underlying37 (hval 4 37 v4 rfl rfl)
  have k0 := h0
  have lt0 : ∀ x ∈ p0, x.block < W.heap.size := by obtain ⟨m, hm⟩ := k0; exact DataW.trod_lt m _ _ _ hm
  have k1 := h1
  have lt1 : ∀ x ∈ p1, x.block < W.heap.size := by obtain ⟨m, hm⟩ := k1; exact DataW.trod_lt m _ _ _ hm
  have k2 := h2
  have lt2 : ∀ x ∈ p2, x.block < W.heap.size := by obtain ⟨m, hm⟩ := k2; exact DataW.trod_lt m _ _ _ hm
  have k3 := h3
  have lt3 : ∀ x ∈ p3, x.block < W.heap.size := by obtain ⟨m, hm⟩ := k3; exact DataW.trod_lt m _ _ _ hm
  have k4 := h4
  have lt4 : ∀ x ∈ p4, x.block < W.heap.size := by obtain ⟨m, hm⟩ := k4; exact DataW.trod_lt m _ _ _ hm
  obtain ⟨l, hl⟩ := open_ics h0
  obtain ⟨fuel, rfl, hfuel⟩ := open_i64 (hval 1 3 v1 rfl rfl) h1
  obtain ⟨budget, rfl, hbudget⟩ := open_i64 (hval 2 3 v2 rfl rfl) h2
  obtain ⟨ops, hops⟩ := open_ors h3
  obtain ⟨pieces, hpieces⟩ := open_ivs h4
  clear hA0 hval0
  refine (walk a0 len0 cap0 l fuel budget a3 len3 cap3 ops a4 len4 cap4 pieces W hl hfuel hbudget hops hpieces).mono fun e W' ⟨he, bel⟩ => ?_
  subst he
  exact ⟨_, rfl, _, _, _, [], _, [], hW', trodAll_mk1 (shut_bool Try.underlying4 _), (trodAll_cons_mk (Below.trod laidOut (by kernel_rfl) (of_decide_eq_true (by kernel_rfl)) k0 bel lt0) (trodAll_cons_mk (Below.trod laidOut (by kernel_rfl) (of_decide_eq_true (by kernel_rfl)) k1 bel lt1) (trodAll_cons_mk (Below.trod laidOut (by kernel_rfl) (of_decide_eq_true (by kernel_rfl)) k2 bel lt2) (trodAll_cons_mk (Below.trod laidOut (by kernel_rfl) (of_decide_eq_true (by kernel_rfl)) k3 bel lt3) (trodAll_cons_mk (Below.trod laidOut (by kernel_rfl) (of_decide_eq_true (by kernel_rfl)) k4 bel lt4) trodAll_mk0))))), rfl, bel.frame _, fun h => by cases h⟩

theorem over : Rows.linPiecesRow.holds Try.pinned (OpenSpec.ofChange Rows.linPiecesSpec) :=
  OpenClaim.holds_of_wide 4 Try.f4 rfl rfl rfl rfl rfl rfl rfl ⟨rfl, rfl, rfl, rfl, rfl⟩ rfl rfl rfl rfl rfl (by kernel_rfl) Try.func4 (by kernel_rfl)
    (of_decide_eq_true (by kernel_rfl)) (by unfold Func.isWrapper; first | (rw [if_pos (by decide +kernel)]; kernel_rfl) | (rw [if_neg (by decide +kernel)]; exact ⟨rfl, rfl⟩))
    (fun os started H enc _ => lifted os started H enc)

/-- the statement -/
theorem proved : Rows.LinPiecesSaid := over
end Go.Proofs.Ytbjeeefkbmdmfaa.linPieces
namespace Go.Proofs.Ytbjeeefkbmdmfaa
theorem linPieces_holds : Rows.LinPiecesSaid := linPieces.proved
#print axioms linPieces_holds
end Go.Proofs.Ytbjeeefkbmdmfaa
