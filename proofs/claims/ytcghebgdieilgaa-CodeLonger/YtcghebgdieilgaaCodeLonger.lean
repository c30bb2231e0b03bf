/- CodeLonger: instructions behind code to which nothing leads change nothing of what is ahead of them. -/
import Derived.Test.YtcghebgdieilgaaRows
import Derived.Test.YtcghebgdieilgaaInsIn
import Derived.Test.YtcghebgdieilgaaCLiv
import Derived.Test.YtcghebgdieilgaaCLong
import Derived.Test.YtcghebgdieilgaaRCTab
import Derived.WalkKit
import Derived.ProofKit
import Derived.OpenShut
import Derived.ShutString
import Derived.ChangeOld
import Derived.Below
namespace Go.Proofs.Ytcghebgdieilgaa.codeLonger
open Go.ChangeShapes Go.WideShapes Go.ChangeAt Go.RowKit
open Go.ChangeMaps (open_string shut_string)
set_option linter.unusedVariables false

theorem own : ownKnob Try.prog.godebug = none := by kernel_rfl
theorem laidOut : laidOutB Try.prog = true := by kernel_rfl


set_option maxRecDepth 100000 in
set_option maxHeartbeats 8000000 in
theorem walk (a0 : Option Addr) (len0 cap0 : Nat) (l : List Ic) (a1 : Option Addr) (len1 cap1 : Nat) (m : List Ic) (w : World) (hl : IcsI w a0 len0 cap0 l) (hm : IcsI w a1 len1 cap1 m) :
    Calls Try.prog 8 #[.slice a0 len0 cap0, .slice a1 len1 cap1] w fun e w' => e = .returned (.bool true) ∧ Below w.heap.size w w' := by
  have HL := Bx.mk hl.1
  have HM := Bx.mk hm.1
  clear hl hm
  go_enter Try.func8, Try.ntmps8
  go_wp2_with fail
  refine (few15_any a0 len0 cap0 l _ HL.out).mono ?_
  rintro e w1 ⟨v1, rfl, ho1, hb1⟩
  obtain ⟨L, HLL⟩ : ∃ L, Bx (l.take 210 = L) := ⟨_, ⟨rfl⟩⟩
  rw [HLL.out] at ho1
  obtain ⟨a2, c2, rfl, hE1⟩ := Ls.of_owns icC_len ho1 rfl
  have hL210 : L.length ≤ 210 := by rw [← HLL.out, List.length_take]; omega
  have HTK : Bx (L.take 210 = L) := ⟨by rw [← HLL.out, List.take_take]; simp⟩
  have HE1 := Bx.mk hE1
  have HB1 := Bx.mk hb1
  have HM1 := Bx.mk (HM.out.below hb1)
  clear ho1 hE1 hb1 HM
  go_wp2_with fail
  refine (few15_any a1 len1 cap1 m _ HM1.out).mono ?_
  rintro e w2 ⟨v2, rfl, ho2, hb2⟩
  obtain ⟨M, HMM⟩ : ∃ M, Bx (m.take 210 = M) := ⟨_, ⟨rfl⟩⟩
  rw [HMM.out] at ho2
  have hM210 : M.length ≤ 210 := by rw [← HMM.out, List.length_take]; omega
  obtain ⟨a3, c3, rfl, hE2⟩ := Ls.of_owns icC_len ho2 rfl
  have HO2 := Bx.mk ho2
  have HB2 := Bx.mk hb2
  have hcc := hE2.le_cap
  clear ho2 hE2 hb2 HM1
  go_upto_if 17 with fail
  go_cut [1] from 18 to 19 (fun s1 wx => ∃ (aP : Option Addr) (cP : Nat) (P : List Ic), s1 = .slice aP P.length cP ∧ P.length ≤ 20 ∧ w2 = wx ∧ Bx (wx.ownsRow w1.heap.size 52 2 (.slice aP P.length cP) P.length (P.flatMap icC)))
  case first =>
    by_cases hbig : 20 < M.length
    · have hbI : (20 : Int) < ((M.length : Nat) : Int) := by omega
      obtain ⟨gM, cM, e, _⟩ := owns_form HO2.out (by omega)
      cases e
      have hsl := ics_cut gM M.length c3 20 (by omega)
      have HT : Bx (w2.ownsRow w1.heap.size 52 2 (.slice (some ⟨gM, 0, none⟩) (M.take 20).length c3) (M.take 20).length ((M.take 20).flatMap icC)) := ⟨by
        rw [show (M.take 20).length = 20 by rw [List.length_take]; omega]; exact own_take HO2.out rfl (by omega)⟩
      have HTL : Bx ((M.take 20).length = 20) := ⟨by rw [List.length_take]; omega⟩
      go_wp2_with fail
      go_meet
      case rel => exact ⟨some ⟨gM, 0, none⟩, c3, M.take 20, by rw [HTL.out], by rw [HTL.out]; omega, rfl, HT⟩
    · have hbI : ¬ (20 : Int) < ((M.length : Nat) : Int) := by omega
      go_wp2_with fail
      go_meet
      case rel => exact ⟨a3, c3, M, rfl, by omega, rfl, HO2⟩
  case rest =>
    obtain ⟨aP, cP, P, rfl, hP20, hwx, HP⟩ := hcut
    replace hwx := hwx.symm
    subst hwx
    clear HO2 hcc
    go_wp2_with fail
    refine (check15_any a2 L.length c2 L _ (HE1.out.below HB2.out)).mono ?_
    rintro e w3 ⟨rfl, hb3⟩
    have HP3 := Bx.mk (owns_below HP.out hb3)
    have HB3 : Bx (Below w1.heap.size w1 w3) := ⟨bstep HB2.out hb3⟩
    clear hb3 HP HB2
    have HBW : Bx (∀ W : World, Below w1.heap.size w1 W → Below w.heap.size w W) := ⟨fun W h => bstep HB1.out h⟩
    by_cases hok : (thr L).2.2 = 0
    · have HOK := Bx.mk hok
      have HFL := Bx.mk (thr_flow hok)
      rw [hok]
      generalize (thr L).2.1 = pl
      clear hok
      have hn2 := HFL.out.2.1
      by_cases hsum : 200 < L.length + P.length
      · have hsI : (200 : Int) < ((L.length : Nat) : Int) + ((P.length : Nat) : Int) := by omega
        have HB4 : Bx (Below w.heap.size w w3) := ⟨HBW.out _ HB3.out⟩
        go_wp2_with fail
        refine (lives15_any _).mono ?_
        rintro e wL ⟨rfl, hbL⟩
        have hfin := bstep HB4.out hbL
        go_wp2_with fail
        go_ret
        exact ⟨rfl, hfin⟩
      · have hsI : ¬ (200 : Int) < ((L.length : Nat) : Int) + ((P.length : Nat) : Int) := by omega
        have HZ0 : Bx (w3.ownsRow w1.heap.size 52 2 (.slice aP P.length cP) P.length ((zer P 0).flatMap icC)) := HP3
        go_wp2_with fail
        clear HP3
        go_loopw [7] (fun i wr => ∃ k : Nat, k ≤ P.length ∧ i = .int .i64 k ∧ Bx (wr.ownsRow w1.heap.size 52 2 (.slice aP P.length cP) P.length ((zer P k).flatMap icC)) ∧ Bx (Below w1.heap.size w1 wr) ∧ Bx (∀ j, j < k → isO (P.getD j ic0).o = true)) (fun i _ => P.length - (intOf i).toNat)
        case atStart => exact ⟨0, Nat.zero_le _, rfl, HZ0, HB3, ⟨fun j hj => absurd hj (Nat.not_lt_zero _)⟩⟩
        case round =>
          clear HZ0 HB3
          obtain ⟨k, hk, rfl, HZ, HB, HIS⟩ := hrel
          by_cases hlt : k < P.length
          · have hkI : (k : Int) < ((P.length : Nat) : Int) := by omega
            obtain ⟨gP, cQ, e, _⟩ := owns_form HZ.out (by omega)
            cases e
            have HZL : Bx ((zer P k).length = P.length) := ⟨zer_len P k (by omega)⟩
            have x0 : wr.cell? ⟨gP, k * 2, none⟩ = some (.int .i64 (P.getD k ic0).o) := by
              obtain ⟨_, _, e, hE⟩ := Ls.of_owns icC_len HZ.out HZL.out
              cases e
              obtain ⟨_, _, e, _, q0, _⟩ := hE.ic k hlt
              cases e
              rw [Nat.zero_add, zer_at P k hlt] at q0
              exact q0
            have x1 : ∃ u, wr.cell? ⟨gP, k * 2 + 1, none⟩ = some u := by
              rw [HZ.out.cellAt (k * 2 + 1) (by omega)]
              exact ⟨_, List.getElem?_eq_getElem (by rw [flatE_len icC_len, HZL.out]; omega)⟩
            obtain ⟨u1, x1⟩ := x1
            have f1 := HZ.out.frozenAt (k * 2 + 1)
            have HZ2 : Bx ((wr.setCell ⟨gP, k * 2 + 1, none⟩ (.int .i64 0)).ownsRow w1.heap.size 52 2 (.slice (some ⟨gP, 0, none⟩) P.length cP) P.length ((zer P (k + 1)).flatMap icC)) := ⟨by
              have h4 := (HZ.out.stored (k * 2 + 1) (.int .i64 0)).1
              rw [ics_num _ k 0 (by rw [HZL.out]; exact hlt), zer_at P k hlt, zer_set P k hlt] at h4
              exact h4⟩
            have HB2 : Bx (Below w1.heap.size w1 (wr.setCell ⟨gP, k * 2 + 1, none⟩ (.int .i64 0))) := ⟨HB.out.setCell (p := ⟨gP, k * 2 + 1, none⟩) (HZ.out.lt gP rfl).1 _⟩
            have y0 : (wr.setCell ⟨gP, k * 2 + 1, none⟩ (.int .i64 0)).cell? ⟨gP, k * 2, none⟩ = some (.int .i64 (P.getD k ic0).o) := by
              obtain ⟨_, _, e, hE⟩ := Ls.of_owns icC_len HZ2.out (zer_len P (k + 1) (by omega))
              cases e
              obtain ⟨_, _, e, _, q0, _⟩ := hE.ic k hlt
              cases e
              rw [Nat.zero_add, zer_now P k hlt] at q0
              exact q0
            cases his : isO (P.getD k ic0).o with
            | false =>
              generalize (P.getD k ic0).o = o at x0 y0 his
              have HB4 : Bx (Below w.heap.size w (wr.setCell ⟨gP, k * 2 + 1, none⟩ (.int .i64 0))) := ⟨HBW.out _ HB2.out⟩
              clear HZ HZ2
              go_upto_region 11 with fail
              generalize wr.setCell ⟨gP, k * 2 + 1, none⟩ (.int .i64 0) = w5 at HB2 HB4 y0 ⊢
              clear x0 x1 f1
              go_wp2_with (go_at_call 27; refine (is15_any _ _).mono ?_; rintro e wz ⟨rfl, hw⟩; replace hw := hw.symm; subst hw; rw [his])
              refine (lives15_any _).mono ?_
              rintro e wL ⟨rfl, hbL⟩
              have hfin := bstep HB4.out hbL
              go_wp2_with fail
              go_ret
              exact ⟨rfl, hfin⟩
            | true =>
              have HIS2 : Bx (∀ j, j < k + 1 → isO (P.getD j ic0).o = true) := ⟨fun j hj => by
                by_cases e : j = k
                · subst e; exact his
                · exact HIS.out j (by omega)⟩
              generalize (P.getD k ic0).o = o at x0 y0 his
              clear HZ
              go_upto_region 11 with fail
              generalize wr.setCell ⟨gP, k * 2 + 1, none⟩ (.int .i64 0) = w5 at HB2 HZ2 y0 ⊢
              clear x0 x1 f1
              go_wp2_with (go_at_call 27; refine (is15_any _ _).mono ?_; rintro e wz ⟨rfl, hw⟩; replace hw := hw.symm; subst hw; rw [his])
              go_roundw
              case rel => exact ⟨k + 1, by omega, by go_num, HZ2, HB2, HIS2⟩
              case measure => simp [intOf]; omega
          · obtain rfl : k = P.length := by omega
            have hkI : ¬ ((P.length : Nat) : Int) < ((P.length : Nat) : Int) := by omega
            obtain ⟨Z, HZZ⟩ : ∃ Z, Bx (zer P P.length = Z) := ⟨_, ⟨rfl⟩⟩
            have HZM := Bx.mk (zer_mem HIS.out)
            have HZL : Bx ((zer P P.length).length = P.length) := ⟨zer_len P _ (Nat.le_refl _)⟩
            rw [HZZ.out] at HZ HZM HZL
            obtain ⟨_, _, e, hZE⟩ := Ls.of_owns icC_len HZ.out HZL.out
            cases e
            have HMO : Bx (thr (L ++ Z) = ((thr L).1 ++ List.replicate Z.length (-1), 0, 0)) := ⟨thr_more HOK.out (by rw [HZL.out]; omega) HZM.out⟩
            have HZE := Bx.mk hZE
            have HEL := Bx.mk (HE1.out.below HB.out)
            clear hZE HIS
            go_wp2_with fail
            refine (depths_any a2 L.length c2 L _ HEL.out).mono ?_
            rintro e w5 ⟨v5, rfl, ho5, hb5⟩
            have HDL : Bx ((thr L).1.length = L.length) := ⟨HFL.out.2.2.2.dl⟩
            generalize (thr L).1 = D at ho5 HMO HDL
            rw [HDL.out] at ho5
            obtain ⟨a5, c5, rfl, hD5⟩ := Ls.of_owns ivC_len ho5 HDL.out
            have HD5 := Bx.mk hD5
            have HZ5 := Bx.mk (HZE.out.below hb5)
            have HE5 := Bx.mk (HEL.out.below hb5)
            have HB5 := Bx.mk (bstep HB.out hb5)
            clear ho5 hD5 hb5 HZE HZ HEL HB
            go_wp2_with fail
            refine (few15_any a2 L.length c2 L _ HE5.out).mono ?_
            rintro e w6 ⟨v6, rfl, ho6, hb6⟩
            rw [HTK.out] at ho6
            have HO6 := Bx.mk ho6
            have HD6 := Bx.mk (HD5.out.below hb6)
            have HZ6 := Bx.mk (HZ5.out.below hb6)
            have HB6 := Bx.mk (bstep HB5.out hb6)
            have HS6 : Bx (w5.heap.size ≤ w6.heap.size) := ⟨hb6.size⟩
            have HDW : Bx (∀ W : World, Below w5.heap.size w5 W → Ivs W a5 L.length c5 D ∧ Below w1.heap.size w1 W) := ⟨fun W h => ⟨HD5.out.below h, bstep HB5.out h⟩⟩
            have HB56 := Bx.mk hb6
            clear ho6 hb6 HZ5 HE5
            go_wp2_with (at_builtin; refine wpList_append_ics rfl _ _ rfl w5.heap.size _ _ _ rfl HO6.out aP P.length cP Z rfl HZ6.out (by omega) HS6.out ?_)
            intro v7 w7 ho7 hb7
            have HB57 : Bx (Below w5.heap.size w5 w7) := ⟨HB56.out.trans hb7⟩
            have HLZ : Bx ((L ++ Z).length = L.length + P.length) := ⟨by rw [List.length_append, HZL.out]⟩
            rw [← List.flatMap_append] at ho7
            obtain ⟨a7, c7, rfl, hE7⟩ := Ls.of_owns icC_len ho7 HLZ.out
            have HE7 := Bx.mk hE7
            clear ho7 hb7 hE7 HO6 HZ6 HB56 HD6 HB6
            go_wp2_with fail
            refine (depths_any a7 (L.length + P.length) c7 (L ++ Z) _ HE7.out).mono ?_
            rintro e w8 ⟨v8, rfl, ho8, hb8⟩
            rw [HMO.out] at ho8
            simp only at ho8
            have HBL : Bx ((D ++ List.replicate Z.length (-1)).length = L.length + P.length) := ⟨by rw [List.length_append, List.length_replicate, HDL.out, HZL.out]⟩
            rw [HBL.out] at ho8
            obtain ⟨a8, c8, rfl, hD8⟩ := Ls.of_owns ivC_len ho8 HBL.out
            obtain ⟨hDW, hBW⟩ := HDW.out w8 (bstep HB57.out hb8)
            have HD8 := Bx.mk hD8
            have HDd := Bx.mk hDW
            have HB8 : Bx (Below w.heap.size w w8) := ⟨HBW.out _ hBW⟩
            have HGL : Bx (∀ i, i < L.length → (D ++ List.replicate Z.length (-1)).getD i 0 = D.getD i 0) := ⟨fun i hi => getD_app D _ i _ (by rw [HDL.out]; exact hi)⟩
            have HGR : Bx (∀ i, L.length ≤ i → i < L.length + P.length → (D ++ List.replicate Z.length (-1)).getD i 0 = -1) := ⟨fun i h1 h2 => by
              rw [List.getD_eq_getElem?_getD, List.getElem?_append_right (by rw [HDL.out]; exact h1), List.getElem?_replicate, if_pos (by rw [HDL.out, HZL.out]; omega)]; rfl⟩
            obtain ⟨tot, HTT⟩ : ∃ tot, Bx (L.length + P.length = tot) := ⟨_, ⟨rfl⟩⟩
            have htq : ((tot : Int) != ((L.length : Nat) : Int) + ((P.length : Nat) : Int)) = false := by rw [← HTT.out]; simp
            have hdq : (((L.length : Nat) : Int) != ((L.length : Nat) : Int)) = false := by simp
            have htl : tot ≤ 200 := by rw [← HTT.out]; omega
            rw [HTT.out] at HD8 HGR ⊢
            clear ho8 hb8 hD8 hDW hBW HE7 HB57 HDW HD5 HB5 HMO
            go_wp2_with fail
            clear htq hdq
            go_loopw [10] (fun i wr => ∃ k : Nat, k ≤ tot ∧ i = .int .i64 k ∧ Bx (Below w8.heap.size w8 wr)) (fun i _ => tot - (intOf i).toNat)
            case atStart => exact ⟨0, Nat.zero_le _, rfl, ⟨Below.refl _ _⟩⟩
            case round =>
              obtain ⟨k, hk, rfl, HBR⟩ := hrel
              by_cases hlt : k < tot
              · have hkI : (k : Int) < (tot : Int) := by omega
                obtain ⟨b8, o8, rfl, _, x0⟩ := (HD8.out.below HBR.out).iv k hlt 0
                by_cases hkL : k < L.length
                · have hkd : decide (k < L.length) = true := by simpa using hkL
                  have hkd2 : decide (L.length ≤ k) = false := by simp; omega
                  have hkLI : (k : Int) < ((L.length : Nat) : Int) := by omega
                  obtain ⟨b5, o5, rfl, _, y0⟩ := (HDd.out.below HBR.out).iv k hkL 0
                  rw [HGL.out k hkL] at x0
                  generalize D.getD k 0 = dv at x0 y0
                  have hdq : (dv != dv) = false := by simp
                  go_wp2_with fail
                  go_quiet (fail)
                  go_wp2_with fail
                  go_roundw
                  case rel => exact ⟨k + 1, by omega, by go_num, ⟨below_drewN HBR.out _⟩⟩
                  case measure => simp [intOf]; omega
                · have hkd : decide (k < L.length) = false := by simpa using hkL
                  have hkd2 : decide (L.length ≤ k) = true := by simp; omega
                  have hkLI : ((L.length : Nat) : Int) ≤ (k : Int) := by omega
                  rw [HGR.out k (by omega) hlt] at x0
                  go_wp2_with fail
                  go_quiet (fail)
                  go_wp2_with fail
                  go_roundw
                  case rel => exact ⟨k + 1, by omega, by go_num, ⟨below_drewN HBR.out _⟩⟩
                  case measure => simp [intOf]; omega
              · obtain rfl : k = tot := by omega
                have hkI : ¬ (k : Int) < (k : Int) := by omega
                have HB9 := Bx.mk (bstep HB8.out HBR.out)
                go_wp2_with fail
                refine (lives15_any _).mono ?_
                rintro e wL ⟨rfl, hbL⟩
                have hfin := bstep HB9.out hbL
                go_wp2_with fail
                go_ret
                exact ⟨rfl, hfin⟩
    · have hq : ((thr L).2.2 != 0) = true := by simpa using hok
      have HB4 : Bx (Below w.heap.size w w3) := ⟨HBW.out _ HB3.out⟩
      generalize (thr L).2.1 = pl
      generalize (thr L).2.2 = er at hq
      clear hok
      go_wp2_with fail
      refine (lives15_any _).mono ?_
      rintro e wL ⟨rfl, hbL⟩
      have hfin := bstep HB4.out hbL
      go_wp2_with fail
      go_ret
      exact ⟨rfl, hfin⟩

set_option maxRecDepth 100000 in
theorem lifted (os : Os) (started : os.Started) (H : Type) (enc : TypeId × Value → H) :
    ReturnsInHanded {} Try.checked os 8 .any (Rows.codeLongerSpec.pre6 enc Try.prog Try.f8 Rows.codeLongerRow.domain false) (Rows.codeLongerSpec.post enc Try.prog Try.f8 false true false false) := by
  refine returnsInHanded_of_change (C := Try.checked) own started (by kernel_rfl) Try.func8
    (ChangeSpec.witness6 (enc := enc) (C := Try.checked) false ⟨#[], #[.slice none 0 0, .slice none 0 0], []⟩ 8 (by kernel_rfl) (by kernel_rfl) (by kernel_rfl) (by kernel_rfl)) ?_
  intro W base args ds gs before hval0 hW hcnd _
  have hval : ∀ (j : Nat) t v, Try.f8.params[j]? = some t → args[j]? = some v → Value.okWide Try.prog W .any base t v := hval0
  have hW' := hW
  obtain ⟨p, q, hA0, hV, rfl, hfz, hnd⟩ := hW
  have hA : DataW.TrodAll enc Try.prog W 0 (fun _ => true) true Try.f8.params.toList args.toList ds p := hA0
  rw [Try.params8] at hA hval
  obtain ⟨v0, vs0, d0, ds0, p0, q0, hargs, rfl, rfl, h0, r0⟩ := trodAll_cons hA
  obtain ⟨v1, vs1, d1, ds1, p1, q1, rfl, rfl, rfl, h1, r1⟩ := trodAll_cons r0
  obtain ⟨rfl, rfl, rfl⟩ := trodAll_nil r1
  obtain rfl : args = #[v0, v1] := by cases args; simp_all
  obtain ⟨rfl, rfl⟩ := trodVars_none hV
  obtain ⟨a0, len0, cap0, rfl⟩ := okWide_slice Try.underlying25 (hval 0 25 v0 rfl rfl)
  obtain ⟨a1, len1, cap1, rfl⟩ := okWide_slice Try.underlying25 (hval 1 25 v1 rfl rfl)
  have k0 := h0
  have lt0 : ∀ x ∈ p0, x.block < W.heap.size := by obtain ⟨m, hm⟩ := k0; exact DataW.trod_lt m _ _ _ hm
  have k1 := h1
  have lt1 : ∀ x ∈ p1, x.block < W.heap.size := by obtain ⟨m, hm⟩ := k1; exact DataW.trod_lt m _ _ _ hm
  obtain ⟨l, hl⟩ := open_ics h0
  obtain ⟨m, hm⟩ := open_ics h1
  clear hA0 hval0
  refine (walk a0 len0 cap0 l a1 len1 cap1 m W hl hm).mono fun e W' ⟨he, bel⟩ => ?_
  subst he
  exact ⟨_, rfl, _, _, _, [], _, [], hW', trodAll_mk1 (shut_bool Try.underlying4 _), (trodAll_cons_mk (Below.trod laidOut (by kernel_rfl) (of_decide_eq_true (by kernel_rfl)) k0 bel lt0) (trodAll_cons_mk (Below.trod laidOut (by kernel_rfl) (of_decide_eq_true (by kernel_rfl)) k1 bel lt1) trodAll_mk0)), rfl, bel.frame _, fun h => by cases h⟩

theorem over : Rows.codeLongerRow.holds Try.pinned (OpenSpec.ofChange Rows.codeLongerSpec) :=
  OpenClaim.holds_of_wide 8 Try.f8 rfl rfl rfl rfl rfl rfl rfl ⟨rfl, rfl, rfl, rfl, rfl⟩ rfl rfl rfl rfl rfl (by kernel_rfl) Try.func8 (by kernel_rfl)
    (of_decide_eq_true (by kernel_rfl)) (by unfold Func.isWrapper; first | (rw [if_pos (by decide +kernel)]; kernel_rfl) | (rw [if_neg (by decide +kernel)]; exact ⟨rfl, rfl⟩))
    (fun os started H enc _ => lifted os started H enc)

/-- the statement -/
theorem proved : Rows.CodeLongerSaid := over
end Go.Proofs.Ytcghebgdieilgaa.codeLonger
namespace Go.Proofs.Ytcghebgdieilgaa
theorem codeLonger_holds : Rows.CodeLongerSaid := codeLonger.proved
#print axioms codeLonger_holds
end Go.Proofs.Ytcghebgdieilgaa
