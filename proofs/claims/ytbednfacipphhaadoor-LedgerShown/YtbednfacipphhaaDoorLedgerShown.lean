/- For every key and every list of entries the law LedgerShown returns true and what came in reads as it did (P21.4): each entry is shown by its path in each head behind it, each head by its growth to begin with each one ahead, and heads are signed. The package's table is as the program's text lays it (the card ties it). -/
import Derived.Test.YtbednfacipphhaaDoorDoor
import Derived.Test.YtbednfacipphhaaDoorLdFill
import Derived.Test.YtbednfacipphhaaDoorAuax
import Derived.Test.YtbednfacipphhaaDoorAuaa
import Derived.Test.YtbednfacipphhaaDoorGrowCheck
import Derived.Test.YtbednfacipphhaaDoorAuap
import Derived.Test.YtbednfacipphhaaDoorGrowIn
import Derived.Test.YtbednfacipphhaaDoorAuba
import Derived.WalkKit
import Derived.ShutString
import Derived.ChangeOld
import Derived.Below
namespace Go.Proofs.YtbednfacipphhaaDoor.ledgerShown
open Go.ChangeShapes Go.WideShapes Go.ChangeAt Go.RowKit
open Go.ChangeMaps (open_string shut_string)
set_option linter.unusedVariables false

theorem laidOut : laidOutB Tryd.prog = true := by kernel_rfl

/-- the head of the first n texts -/
def hN (KY : List Int) (T : List (List Int)) (n : Nat) : Hd := sgn KY (hdD (leavesL (T.take n) 256))
theorem hN_dg (KY : List Int) (T : List (List Int)) (n : Nat) : HdD (hN KY T n) := sgn_digs (hdD_dg _ (leavesL_dg _ _))
theorem hN_n (KY : List Int) (T : List (List Int)) (n : Nat) (h : n ≤ T.length) : (hN KY T n).n = (n : Int) := by
  show ((leavesL (T.take n) 256).length : Int) = n
  rw [leavesL_len, List.length_take, Nat.min_eq_left h]
theorem hN_head (KY : List Int) (T : List (List Int)) (n : Nat) (h : n ≤ T.length) : headT KY T (n : Int) = (hN KY T n, 0) := by
  rw [headT_yes ⟨Int.natCast_nonneg n, by omega⟩, Int.toNat_natCast]; rfl
theorem hN_sign (KY : List Int) (T : List (List Int)) (n : Nat) : decide ((hN KY T n).G = macL KY (headL (hN KY T n))) = true := decide_eq_true rfl
theorem hN_R (KY : List Int) (T : List (List Int)) (n : Nat) : (hN KY T n).R = rootL (leavesL (T.take n) 256) 256 := rfl
theorem tN (T : List (List Int)) (i : Nat) (h : i < T.length) : textT T (i : Int) = (T.getD i [], 0) := by unfold textT; rw [if_neg (by omega), Int.toNat_natCast]
theorem pN (T : List (List Int)) (i n : Nat) (h : i < n) (hn : n ≤ T.length) : pathT T (i : Int) (n : Int) = (pathL (leavesL (T.take n) 256) i 256, 0) := by unfold pathT; rw [if_neg (by omega), Int.toNat_natCast, Int.toNat_natCast]
theorem gN (T : List (List Int)) (i n : Nat) (h : i < n) (hn : n ≤ T.length) : growT T ((i : Int) + 1) (n : Int) = (growL (leavesL (T.take n) 256) (i + 1) true 256, 0) := by unfold growT; rw [if_neg (by omega), Int.toNat_natCast, show ((i : Int) + 1).toNat = i + 1 from by omega]
theorem hN_head1 (KY : List Int) (T : List (List Int)) (i : Nat) (h : i < T.length) : headT KY T ((i : Int) + 1) = (hN KY T (i + 1), 0) := hN_head KY T (i + 1) h
/-- what holds while one entry is looked at -/
structure SWX (g7 g16 : Nat) (H H2 : Hd) (at1 : Option Addr) (nt ct : Nat) (t : List Int) (ap : Option Addr) (np cp : Nat) (P : List (List Int)) (ag : Option Addr) (ng cg : Nat) (G : List (List Int)) (w W : World) : Prop where
  low : Below w.heap.size w W
  h7 : HdB W g7 H
  h16 : HdB W g16 H2
  txt : Bts W at1 nt ct t
  pth : Dgs W ap np cp P
  gro : Dgs W ag ng cg G
  tab : Tab W
theorem SWX.step {g7 g16 : Nat} {H H2 : Hd} {at1 : Option Addr} {nt ct : Nat} {t : List Int} {ap : Option Addr} {np cp : Nat} {P : List (List Int)} {ag : Option Addr} {ng cg : Nat} {G : List (List Int)} {w W W' : World} (k : SWX g7 g16 H H2 at1 nt ct t ap np cp P ag ng cg G w W) (hb : Below W.heap.size W W') : SWX g7 g16 H H2 at1 nt ct t ap np cp P ag ng cg G w W' :=
  ⟨bstep k.low hb, k.h7.below hb, k.h16.below hb, k.txt.below hb, k.pth.below hb, k.gro.below hb, k.tab.below hb⟩

set_option maxRecDepth 100000 in
set_option maxHeartbeats 1000000 in
theorem walk (a0 : Option Addr) (len0 cap0 : Nat) (k : List Int) (a1 : Option Addr) (len1 cap1 : Nat) (l : List EC) (w : World) (hk : Bts w a0 len0 cap0 k) (hl : Ens w a1 len1 cap1 l ∧ EnsOk w l) (htab : Tab w) :
    Calls Tryd.prog 5 #[.slice a0 len0 cap0, .slice a1 len1 cap1] w fun e w' => e = .returned (.bool true) ∧ Below w.heap.size w w' := by
  have HT := Bx.mk htab
  have HLI := Bx.mk hl
  clear hl htab
  go_enter Tryd.func5, Tryd.ntmps5
  go_wp2_with fail
  refine (cut_any a0 len0 cap0 100 k _ hk (by decide)).mono ?_
  rintro x wz ⟨⟨n0, rfl, hkey⟩, hwz⟩
  subst hwz
  have HKL : Bx (n0 ≤ 1000000) := ⟨by have := hkey.len_eq; rw [List.length_take] at this; omega⟩
  generalize k.take 100 = KY at hkey
  have HKEY := Bx.mk hkey
  clear hkey hk
  go_wp2_with fail
  refine (numbered21_any a1 len1 cap1 9 l _ HLI.out.1 HLI.out.2 (by decide)).mono ?_
  rintro x w1 ⟨v1, R, rfl, ho1, hnq, hR9⟩
  obtain ⟨⟨la, lc, rfl, hls⟩, hlo⟩ := ho1.ens
  have HB1 := Bx.mk ho1.low
  have HLS := Bx.mk hls
  have HLO := Bx.mk hlo
  have HNQ := Bx.mk hnq
  have HK1 := Bx.mk (HKEY.out.below ho1.low)
  clear ho1 hls hlo hnq
  go_wp2_with fail
  refine (filled21_any a0 n0 cap0 KY la R.length lc R _ HK1.out HKL.out HLS.out HLO.out HNQ.out (by omega)).mono ?_
  rintro x wf ⟨g, own, rfl, hlg, hown, hbf⟩
  have HLG := Bx.mk hlg
  have HKF := Bx.mk (HK1.out.below hbf)
  have HBF := Bx.mk (bstep HB1.out hbf)
  have HTF := Bx.mk (HT.out.below HBF.out)
  have HTL : Bx ((txQ R).length = R.length) := ⟨txQ_len R⟩
  have hsz := size21_yes hlg
  rw [HTL.out] at hsz
  generalize txQ R = T at HLG HTL
  generalize R.length = m at HTL hsz hR9
  clear hlg hown hbf HKEY HK1 HLS HLO HNQ HB1 HT
  go_wp2_with fail
  refine hsz.mono ?_
  rintro x wz ⟨rfl, hwz⟩
  subst hwz
  clear hsz
  go_wp2_with fail
  go_loopw [6] (fun i wr => ∃ n : Nat, 1 ≤ n ∧ n ≤ m + 1 ∧ i = .int .i64 n ∧ Bx (Below wf.heap.size wf wr)) (fun i _ => m + 1 - (intOf i).toNat)
  case atStart => exact ⟨1, Nat.le_refl _, by omega, rfl, ⟨Below.refl _ _⟩⟩
  case round =>
    obtain ⟨n, hn1, hn2, rfl, HO⟩ := hrel
    obtain ⟨wo, hwo⟩ : ∃ wo, wo = wr := ⟨_, rfl⟩
    subst hwo
    by_cases hnm : n ≤ m
    · have g1 : (n : Int) ≤ (m : Int) := by omega
      have HNT : Bx (n ≤ T.length) := ⟨by rw [HTL.out]; exact hnm⟩
      have HH := Bx.mk (hN_head KY T n HNT.out)
      have HSG := Bx.mk (hN_sign KY T n)
      have HHD := Bx.mk (hN_dg KY T n)
      have HHN := Bx.mk (hN_n KY T n HNT.out)
      have HHR := Bx.mk (hN_R KY T n)
      go_wp2_with fail
      refine (head21_any own g KY T (n : Int) _ (HLG.out.below HO.out) (HTF.out.below HO.out)).mono ?_
      rintro x w2 ⟨rfl, hb2⟩
      have HB2 := Bx.mk (bstep HO.out hb2)
      rw [HH.out]
      clear hb2 HH
      generalize hN KY T n = H at HSG HHD HHN HHR ⊢
      obtain ⟨hv, hbv, hth⟩ := hd_var w2 HHD.out
      have HTH := Bx.mk hth
      have HIH := Bx.mk (hdA_info HHD.out)
      have HOH : Bx ((hdA H).all (·.oneCell') = true) := ⟨hdA_one⟩
      have hzv := hd0_run
      have HV7 := Bx.mk hv
      have HBV := Bx.mk hbv
      clear hv hbv hth
      go_upto_region 10 with (refine wpList_store_mid rfl 47 (.tmp 7) (.tmp 44) rfl w2.heap.size 0 (hdA H) rfl rfl ?hta HIH.out HOH.out ?_; (case hta => exact HTH.out))
      clear hzv HTH HIH HOH
      obtain ⟨g7, HGa⟩ : ∃ x, Bx (x = w2.heap.size) := ⟨_, ⟨rfl⟩⟩
      rw [← HGa.out] at HV7 ⊢
      have HBV' : Bx (Below w2.heap.size w2 ((w2.alloc (.cells (hdA hd0) 47)).setCells g7 0 (hdA H).toList)) := ⟨by rw [HGa.out]; exact HBV.out⟩
      clear HBV HGa
      generalize (w2.alloc (.cells (hdA hd0) 47)).setCells g7 0 (hdA H).toList = w3 at HV7 HBV' ⊢
      have HB3 := Bx.mk (bstep HB2.out HBV'.out)
      have HK3 := Bx.mk (HKF.out.below HB3.out)
      have HT3 := Bx.mk (HTF.out.below HB3.out)
      have c0 := HV7.out.c0
      rw [HHN.out] at c0
      clear HB2 HBV'
      go_wp2_with (refine wpList_load_hd rfl (.tmp 7) rfl rfl HV7.out ?_)
      refine (signed_any H a0 n0 cap0 KY _ HK3.out HHD.out HT3.out HKL.out).mono ?_
      rintro x w4 ⟨rfl, hb4⟩
      rw [HSG.out]
      have HV74 := Bx.mk (HV7.out.below hb4)
      have HB4 := Bx.mk (bstep HB3.out hb4)
      clear hb4 HV7 HB3 HK3 HT3 c0 HSG HHN
      go_wp2_with fail
      go_loopw [9] (fun j wr => ∃ i : Nat, i ≤ n ∧ j = .int .i64 i ∧ Bx (Below w4.heap.size w4 wr)) (fun j _ => n - (intOf j).toNat)
      case atStart => exact ⟨0, Nat.zero_le _, rfl, ⟨Below.refl _ _⟩⟩
      case round =>
        obtain ⟨i, hi, rfl, HI⟩ := hrel
        by_cases hin : i < n
        · have g2 : (i : Int) < (n : Int) := by omega
          have hi1 : IntKind.i64.wrap ((i : Int) + 1) = (i : Int) + 1 := by rw [IntKind.wrap_i64]; omega
          have hnm9 : n ≤ 9 := by omega
          have HIT : Bx (i < T.length ∧ i < n ∧ n ≤ T.length) := ⟨by have := HNT.out; omega⟩
          have HBI := Bx.mk (bstep HB4.out HI.out)
          have HLW := Bx.mk (HLG.out.below HBI.out)
          have HTE := Bx.mk (tN T i HIT.out.1)
          have HPE := Bx.mk (pN T i n HIT.out.2.1 HIT.out.2.2)
          have HGE := Bx.mk (gN T i n HIT.out.2.1 HIT.out.2.2)
          have HHE := Bx.mk (hN_head1 KY T i HIT.out.1)
          have HCPK := Bx.mk (shownP T i n HIT.out.2.1 HIT.out.2.2)
          have HCGK := Bx.mk (shownG T (i + 1) n (by omega) HIT.out.2.1 HIT.out.2.2)
          rw [← HHR.out] at HCPK HCGK
          rw [← hN_R KY T (i + 1)] at HCGK
          have HPD : Bx (Dgl (pathL (leavesL (T.take n) 256) i 256)) := ⟨pathL_dg _ _ i 256 (Nat.le_refl _) (leavesL_dg _ _)⟩
          have HLN : Bx ((leavesL (T.take n) 256).length = n) := ⟨by rw [leavesL_len, List.length_take]; have := HNT.out; omega⟩
          have HGD : Bx (Dgl (growL (leavesL (T.take n) 256) (i + 1) true 256)) := ⟨growL_dg _ _ (i + 1) true 256 (Nat.le_refl _) (by omega) (by rw [HLN.out]; exact HIT.out.2.1) (leavesL_dg _ _)⟩
          have HHD2 := Bx.mk (hN_dg KY T (i + 1))
          obtain ⟨_, _, _, _, hbt0, _⟩ := HLW.out.ct i HIT.out.1
          have HBY := Bx.mk hbt0.byt
          clear hbt0
          go_wp2_with fail
          refine (text21_any own g KY T (i : Int) _ HLW.out).mono ?_
          rintro x w5 ⟨ta, tn, tc, rfl, hto, htn, hb5⟩
          rw [HTE.out] at hto ⊢
          generalize T.getD i [] = t at hto HBY HCPK
          obtain ⟨_, _, et, hbt⟩ := Bts.of_owns hto HBY.out
          cases et
          have HTX5 := Bx.mk hbt
          have HV75 := Bx.mk ((HV74.out.below HI.out).below hb5)
          have HB5 := Bx.mk (bstep HBI.out hb5)
          have HJ5 := Bx.mk (bstep HI.out hb5)
          clear hto hbt hb5 HTE HBY HLW HBI
          go_wp2_with fail
          refine (path21_any own g KY T (i : Int) (n : Int) _ (HLG.out.below HB5.out) (HTF.out.below HB5.out)).mono ?_
          rintro x w6 ⟨vp, rfl, hpo, hb6⟩
          rw [HPE.out] at hpo ⊢
          obtain ⟨ap, cp, rfl, hpd⟩ := Dgs.of_owns hpo HPD.out
          have HP6 := Bx.mk hpd
          have HTX6 := Bx.mk (HTX5.out.below hb6)
          have HV76 := Bx.mk (HV75.out.below hb6)
          have HB6 := Bx.mk (bstep HB5.out hb6)
          have HJ6 := Bx.mk (bstep HJ5.out hb6)
          clear HJ5 hpo hpd hb6 HPE HPD HTX5 HV75 HB5
          go_wp2_with fail
          refine (growth21_any own g KY T ((i : Int) + 1) (n : Int) _ (HLG.out.below HB6.out) (HTF.out.below HB6.out)).mono ?_
          rintro x w7 ⟨vg, rfl, hgo, hb7⟩
          rw [HGE.out] at hgo ⊢
          obtain ⟨ag, cg, rfl, hgd⟩ := Dgs.of_owns hgo HGD.out
          have HG7 := Bx.mk hgd
          have HP7 := Bx.mk (HP6.out.below hb7)
          have HTX7 := Bx.mk (HTX6.out.below hb7)
          have HV77 := Bx.mk (HV76.out.below hb7)
          have HB7 := Bx.mk (bstep HB6.out hb7)
          have HJ7 := Bx.mk (bstep HJ6.out hb7)
          clear hgo hgd hb7 HGE HGD HTX6 HV76 HB6 HP6
          go_wp2_with fail
          refine (head21_any own g KY T ((i : Int) + 1) _ (HLG.out.below HB7.out) (HTF.out.below HB7.out)).mono ?_
          rintro x w8 ⟨rfl, hb8⟩
          rw [HHE.out]
          have HG8 := Bx.mk (HG7.out.below hb8)
          have HP8 := Bx.mk (HP7.out.below hb8)
          have HTX8 := Bx.mk (HTX7.out.below hb8)
          have HV78 := Bx.mk (HV77.out.below hb8)
          have HB8 := Bx.mk (bstep HB7.out hb8)
          have HJ8 := Bx.mk (bstep HJ7.out hb8)
          clear HJ6 HJ7
          clear hb8 HHE HG7 HP7 HTX7 HV77 HB7
          generalize pathL (leavesL (T.take n) 256) i 256 = P at HP8 HCPK ⊢
          generalize growL (leavesL (T.take n) 256) (i + 1) true 256 = G at HG8 HCGK ⊢
          generalize hN KY T (i + 1) = H2 at HHD2 HCGK ⊢
          obtain ⟨hv, hbv, hth⟩ := hd_var w8 HHD2.out
          have HTH := Bx.mk hth
          have HIH := Bx.mk (hdA_info HHD2.out)
          have HOH : Bx ((hdA H2).all (·.oneCell') = true) := ⟨hdA_one⟩
          have hzv := hd0_run
          have HV16 := Bx.mk hv
          have HBW := Bx.mk hbv
          clear hv hbv hth
          go_upto_region 19 with (refine wpList_store_mid rfl 47 (.tmp 16) (.tmp 91) rfl w8.heap.size 0 (hdA H2) rfl rfl ?htb HIH.out HOH.out ?_; (case htb => exact HTH.out))
          clear hzv HTH HIH HOH
          obtain ⟨g16, HGb⟩ : ∃ x, Bx (x = w8.heap.size) := ⟨_, ⟨rfl⟩⟩
          rw [← HGb.out] at HV16 ⊢
          have HBW' : Bx (Below w8.heap.size w8 ((w8.alloc (.cells (hdA hd0) 47)).setCells g16 0 (hdA H2).toList)) := ⟨by rw [HGb.out]; exact HBW.out⟩
          clear HBW HGb
          generalize (w8.alloc (.cells (hdA hd0) 47)).setCells g16 0 (hdA H2).toList = w9 at HV16 HBW' ⊢
          have hk : SWX g7 g16 H H2 ta tn tc t ap P.length cp P ag G.length cg G w4 w9.drew := ⟨(bstep HJ8.out HBW'.out).drew, (HV78.out.below HBW'.out).keep rfl, HV16.out.keep rfl, (HTX8.out.below HBW'.out).drewN 1, (HP8.out.below HBW'.out).drewN 1, (HG8.out.below HBW'.out).drewN 1, (HTF.out.below (bstep HB8.out HBW'.out)).drewN 1⟩
          have HCGK2 : Bx (chkG H2.R ((i : Int) + 1) H.R (n : Int) G 256 = true) := HCGK
          have HTN : Bx (tn ≤ 1000000) := ⟨by omega⟩
          clear HG8 HP8 HTX8 HV78 HB8 HV16 HBW' htn HJ8
          refine wp_region_held_drew (S := fun W => SWX g7 g16 H H2 ta tn tc t ap P.length cp P ag G.length cg G w4 W) (by kernel_rfl) hk (fun _ => ?_)
          generalize w9.drew = wd at hk ⊢
          refine wpAnyH_take (i := 0) (oi := { dst := some 93, op := Op.move (Operand.tmp 11), type := 39, pos := "law.go:134", after := #[], guard := none }) (v := ?vlsh191) rfl (by kernel_rfl) (by kernel_rfl) (by kernel_rfl) (fun _ _ _ h => h) (Or.inl ⟨by rfl, ?ylsh191⟩) hk ?rlsh191
          case ylsh191 => (intro w hSw; (try dsimp only at hSw); go_simp; first | done | with_reducible rfl)
          simp only [Act.put, List.setIfInBounds_toArray, List.set_cons_zero, List.set_cons_succ]
          refine wpAnyH_take (i := 1) (oi := { dst := some 94, op := Op.binOp BinOp.neq 39 (Operand.tmp 93) (Operand.const (Value.int IntKind.i64 0)) 39, type := 4, pos := "law.go:134", after := #[{ on := 0, ground := Ground.data }], guard := none }) (v := ?vlsh192) rfl (by kernel_rfl) (by kernel_rfl) (by kernel_rfl) (fun _ _ _ h => h) (Or.inl ⟨by rfl, ?ylsh192⟩) hk ?rlsh192
          case ylsh192 => (intro w hSw; (try dsimp only at hSw); go_simp; first | done | with_reducible rfl)
          simp only [Act.put, List.setIfInBounds_toArray, List.set_cons_zero, List.set_cons_succ]
          refine wpAnyH_take (i := 2) (oi := { dst := some 95, op := Op.move (Operand.tmp 94), type := 4, pos := "law.go:134", after := #[{ on := 1, ground := Ground.data }], guard := none }) (v := ?vlsh193) rfl (by kernel_rfl) (by kernel_rfl) (by kernel_rfl) (fun _ _ _ h => h) (Or.inl ⟨by rfl, ?ylsh193⟩) hk ?rlsh193
          case ylsh193 => (intro w hSw; (try dsimp only at hSw); go_simp; first | done | with_reducible rfl)
          simp only [Act.put, List.setIfInBounds_toArray, List.set_cons_zero, List.set_cons_succ]
          refine wpAnyH_take (i := 3) (oi := { dst := some 96, op := Op.move (Operand.tmp 13), type := 39, pos := "law.go:134", after := #[{ on := 2, ground := Ground.guard }], guard := some (2, false) }) (v := ?vlsh194) rfl (by kernel_rfl) (by kernel_rfl) (by kernel_rfl) (fun _ _ _ h => h) (Or.inl ⟨by rfl, ?ylsh194⟩) hk ?rlsh194
          case ylsh194 => (intro w hSw; (try dsimp only at hSw); go_simp; first | done | with_reducible rfl)
          simp only [Act.put, List.setIfInBounds_toArray, List.set_cons_zero, List.set_cons_succ]
          refine wpAnyH_take (i := 4) (oi := { dst := some 97, op := Op.binOp BinOp.neq 39 (Operand.tmp 96) (Operand.const (Value.int IntKind.i64 0)) 39, type := 4, pos := "law.go:134", after := #[{ on := 3, ground := Ground.data }, { on := 2, ground := Ground.guard }], guard := some (2, false) }) (v := ?vlsh195) rfl (by kernel_rfl) (by kernel_rfl) (by kernel_rfl) (fun _ _ _ h => h) (Or.inl ⟨by rfl, ?ylsh195⟩) hk ?rlsh195
          case ylsh195 => (intro w hSw; (try dsimp only at hSw); go_simp; first | done | with_reducible rfl)
          simp only [Act.put, List.setIfInBounds_toArray, List.set_cons_zero, List.set_cons_succ]
          refine wpAnyH_take (i := 5) (oi := { dst := some 98, op := Op.pick (Operand.tmp 95) (Operand.const (Value.bool true)) (Operand.tmp 97), type := 4, pos := "law.go:134", after := #[{ on := 2, ground := Ground.data }, { on := 4, ground := Ground.data }], guard := none }) (v := ?vlsh196) rfl (by kernel_rfl) (by kernel_rfl) (by kernel_rfl) (fun _ _ _ h => h) (Or.inl ⟨by rfl, ?ylsh196⟩) hk ?rlsh196
          case ylsh196 => (intro w hSw; (try dsimp only at hSw); go_simp; first | done | with_reducible rfl)
          simp only [Act.put, List.setIfInBounds_toArray, List.set_cons_zero, List.set_cons_succ]
          refine wpAnyH_take (i := 6) (oi := { dst := some 99, op := Op.move (Operand.tmp 98), type := 4, pos := "law.go:134", after := #[{ on := 5, ground := Ground.data }, { on := 2, ground := Ground.chain }], guard := none }) (v := ?vlsh197) rfl (by kernel_rfl) (by kernel_rfl) (by kernel_rfl) (fun _ _ _ h => h) (Or.inl ⟨by rfl, ?ylsh197⟩) hk ?rlsh197
          case ylsh197 => (intro w hSw; (try dsimp only at hSw); go_simp; first | done | with_reducible rfl)
          simp only [Act.put, List.setIfInBounds_toArray, List.set_cons_zero, List.set_cons_succ]
          refine wpAnyH_take (i := 7) (oi := { dst := some 100, op := Op.move (Operand.tmp 15), type := 39, pos := "law.go:134", after := #[{ on := 6, ground := Ground.guard }], guard := some (6, false) }) (v := ?vlsh198) rfl (by kernel_rfl) (by kernel_rfl) (by kernel_rfl) (fun _ _ _ h => h) (Or.inl ⟨by rfl, ?ylsh198⟩) hk ?rlsh198
          case ylsh198 => (intro w hSw; (try dsimp only at hSw); go_simp; first | done | with_reducible rfl)
          simp only [Act.put, List.setIfInBounds_toArray, List.set_cons_zero, List.set_cons_succ]
          refine wpAnyH_take (i := 8) (oi := { dst := some 101, op := Op.binOp BinOp.neq 39 (Operand.tmp 100) (Operand.const (Value.int IntKind.i64 0)) 39, type := 4, pos := "law.go:134", after := #[{ on := 7, ground := Ground.data }, { on := 6, ground := Ground.guard }], guard := some (6, false) }) (v := ?vlsh199) rfl (by kernel_rfl) (by kernel_rfl) (by kernel_rfl) (fun _ _ _ h => h) (Or.inl ⟨by rfl, ?ylsh199⟩) hk ?rlsh199
          case ylsh199 => (intro w hSw; (try dsimp only at hSw); go_simp; first | done | with_reducible rfl)
          simp only [Act.put, List.setIfInBounds_toArray, List.set_cons_zero, List.set_cons_succ]
          refine wpAnyH_take (i := 9) (oi := { dst := some 102, op := Op.pick (Operand.tmp 99) (Operand.const (Value.bool true)) (Operand.tmp 101), type := 4, pos := "law.go:134", after := #[{ on := 6, ground := Ground.data }, { on := 8, ground := Ground.data }], guard := none }) (v := ?vlsh1910) rfl (by kernel_rfl) (by kernel_rfl) (by kernel_rfl) (fun _ _ _ h => h) (Or.inl ⟨by rfl, ?ylsh1910⟩) hk ?rlsh1910
          case ylsh1910 => (intro w hSw; (try dsimp only at hSw); go_simp; first | done | with_reducible rfl)
          simp only [Act.put, List.setIfInBounds_toArray, List.set_cons_zero, List.set_cons_succ]
          refine wpAnyH_take (i := 10) (oi := { dst := some 103, op := Op.move (Operand.tmp 102), type := 4, pos := "law.go:134", after := #[{ on := 9, ground := Ground.data }, { on := 6, ground := Ground.chain }], guard := none }) (v := ?vlsh1911) rfl (by kernel_rfl) (by kernel_rfl) (by kernel_rfl) (fun _ _ _ h => h) (Or.inl ⟨by rfl, ?ylsh1911⟩) hk ?rlsh1911
          case ylsh1911 => (intro w hSw; (try dsimp only at hSw); go_simp; first | done | with_reducible rfl)
          simp only [Act.put, List.setIfInBounds_toArray, List.set_cons_zero, List.set_cons_succ]
          refine wpAnyH_take (i := 11) (oi := { dst := some 104, op := Op.move (Operand.tmp 17), type := 39, pos := "law.go:134", after := #[{ on := 10, ground := Ground.guard }], guard := some (10, false) }) (v := ?vlsh1912) rfl (by kernel_rfl) (by kernel_rfl) (by kernel_rfl) (fun _ _ _ h => h) (Or.inl ⟨by rfl, ?ylsh1912⟩) hk ?rlsh1912
          case ylsh1912 => (intro w hSw; (try dsimp only at hSw); go_simp; first | done | with_reducible rfl)
          simp only [Act.put, List.setIfInBounds_toArray, List.set_cons_zero, List.set_cons_succ]
          refine wpAnyH_take (i := 12) (oi := { dst := some 105, op := Op.binOp BinOp.neq 39 (Operand.tmp 104) (Operand.const (Value.int IntKind.i64 0)) 39, type := 4, pos := "law.go:134", after := #[{ on := 11, ground := Ground.data }, { on := 10, ground := Ground.guard }], guard := some (10, false) }) (v := ?vlsh1913) rfl (by kernel_rfl) (by kernel_rfl) (by kernel_rfl) (fun _ _ _ h => h) (Or.inl ⟨by rfl, ?ylsh1913⟩) hk ?rlsh1913
          case ylsh1913 => (intro w hSw; (try dsimp only at hSw); go_simp; first | done | with_reducible rfl)
          simp only [Act.put, List.setIfInBounds_toArray, List.set_cons_zero, List.set_cons_succ]
          refine wpAnyH_take (i := 13) (oi := { dst := some 106, op := Op.pick (Operand.tmp 103) (Operand.const (Value.bool true)) (Operand.tmp 105), type := 4, pos := "law.go:134", after := #[{ on := 10, ground := Ground.data }, { on := 12, ground := Ground.data }], guard := none }) (v := ?vlsh1914) rfl (by kernel_rfl) (by kernel_rfl) (by kernel_rfl) (fun _ _ _ h => h) (Or.inl ⟨by rfl, ?ylsh1914⟩) hk ?rlsh1914
          case ylsh1914 => (intro w hSw; (try dsimp only at hSw); go_simp; first | done | with_reducible rfl)
          simp only [Act.put, List.setIfInBounds_toArray, List.set_cons_zero, List.set_cons_succ]
          refine wpAnyH_take (i := 14) (oi := { dst := some 107, op := Op.move (Operand.tmp 106), type := 4, pos := "law.go:134", after := #[{ on := 13, ground := Ground.data }, { on := 10, ground := Ground.chain }], guard := none }) (v := ?vlsh1915) rfl (by kernel_rfl) (by kernel_rfl) (by kernel_rfl) (fun _ _ _ h => h) (Or.inl ⟨by rfl, ?ylsh1915⟩) hk ?rlsh1915
          case ylsh1915 => (intro w hSw; (try dsimp only at hSw); go_simp; first | done | with_reducible rfl)
          simp only [Act.put, List.setIfInBounds_toArray, List.set_cons_zero, List.set_cons_succ]
          refine wpAnyH_take (i := 15) (oi := { dst := some 108, op := Op.fieldAddr 47 (Operand.tmp 7) 1, type := 0, pos := "law.go:134", after := #[{ on := 14, ground := Ground.guard }], guard := some (14, false) }) (v := ?vlsh1916) rfl (by kernel_rfl) (by kernel_rfl) (by kernel_rfl) (fun _ _ _ h => h) (Or.inl ⟨by rfl, ?ylsh1916⟩) hk ?rlsh1916
          case ylsh1916 => (intro w hSw; (try dsimp only at hSw); go_simp; first | done | with_reducible rfl)
          simp only [Act.put, List.setIfInBounds_toArray, List.set_cons_zero, List.set_cons_succ]
          refine wpAnyH_take (i := 16) (oi := { dst := some 109, op := Op.load 30 (Operand.tmp 108), type := 30, pos := "law.go:134", after := #[{ on := 15, ground := Ground.data }, { on := 14, ground := Ground.guard }], guard := some (14, false) }) (v := .agg (bv H.R).toArray) rfl (by kernel_rfl) (by kernel_rfl) (by kernel_rfl) (fun _ _ _ h => h) (yieldsIf_load_mid (by rfl) 30 (.tmp 108) rfl g7 1 rfl (bv H.R) _ (fun (W : World) (hW : SWX g7 g16 H H2 ta tn tc t ap P.length cp P ag G.length cg G w4 W) => hW.h7.rR) Tryd.underlying30 rfl (by rw [bv_length, HHD.out.R.1]; exact dgH_info)) hk ?_
          simp only [Act.put, List.setIfInBounds_toArray, List.set_cons_zero, List.set_cons_succ]
          refine wpAnyH_take (i := 17) (oi := { dst := some 110, op := Op.move (Operand.tmp 6), type := 3, pos := "law.go:134", after := #[{ on := 14, ground := Ground.guard }], guard := some (14, false) }) (v := ?vlsh1917) rfl (by kernel_rfl) (by kernel_rfl) (by kernel_rfl) (fun _ _ _ h => h) (Or.inl ⟨by rfl, ?ylsh1917⟩) hk ?rlsh1917
          case ylsh1917 => (intro w hSw; (try dsimp only at hSw); go_simp; first | done | with_reducible rfl)
          simp only [Act.put, List.setIfInBounds_toArray, List.set_cons_zero, List.set_cons_succ]
          refine wpAnyH_take (i := 18) (oi := { dst := some 111, op := Op.move (Operand.tmp 9), type := 3, pos := "law.go:134", after := #[{ on := 14, ground := Ground.guard }], guard := some (14, false) }) (v := ?vlsh1918) rfl (by kernel_rfl) (by kernel_rfl) (by kernel_rfl) (fun _ _ _ h => h) (Or.inl ⟨by rfl, ?ylsh1918⟩) hk ?rlsh1918
          case ylsh1918 => (intro w hSw; (try dsimp only at hSw); go_simp; first | done | with_reducible rfl)
          simp only [Act.put, List.setIfInBounds_toArray, List.set_cons_zero, List.set_cons_succ]
          refine wpAnyH_take (i := 19) (oi := { dst := some 112, op := Op.move (Operand.tmp 10), type := 22, pos := "law.go:134", after := #[{ on := 14, ground := Ground.guard }], guard := some (14, false) }) (v := ?vlsh1919) rfl (by kernel_rfl) (by kernel_rfl) (by kernel_rfl) (fun _ _ _ h => h) (Or.inl ⟨by rfl, ?ylsh1919⟩) hk ?rlsh1919
          case ylsh1919 => (intro w hSw; (try dsimp only at hSw); go_simp; first | done | with_reducible rfl)
          simp only [Act.put, List.setIfInBounds_toArray, List.set_cons_zero, List.set_cons_succ]
          refine wpAnyH_take (i := 21) (oi := { dst := some 114, op := Op.move (Operand.tmp 12), type := 60, pos := "law.go:134", after := #[{ on := 14, ground := Ground.guard }], guard := some (14, false) }) (v := ?vlsh1920) rfl (by kernel_rfl) (by kernel_rfl) (by kernel_rfl) (fun _ _ _ h => h) (Or.inl ⟨by rfl, ?ylsh1920⟩) hk ?rlsh1920
          case ylsh1920 => (intro w hSw; (try dsimp only at hSw); go_simp; first | done | with_reducible rfl)
          simp only [Act.put, List.setIfInBounds_toArray, List.set_cons_zero, List.set_cons_succ]
          refine wpAnyH_ready (rs := [20]) (by decide +kernel) (by simp) ?_
          refine AllReadyH.cons (o := { dst := some 113, op := Op.call { callee := Callee.value (Operand.func 33), args := #[Operand.tmp 112, Operand.const (Value.int IntKind.i64 256)], argTypes := #[22, 3] }, type := 30, pos := "law.go:134", after := #[{ on := 19, ground := Ground.data }, { on := 14, ground := Ground.chain }, { on := 14, ground := Ground.guard }], guard := some (14, false) }) rfl (fun K hK => ?_) AllReadyH.nil
          go_simp
          refine (leaf_any ta tn tc t 256 _ hk.txt hk.tab HTN.out).mono ?_
          rintro e w10 ⟨rfl, hb10⟩
          replace hk := hk.step hb10
          clear hb10
          refine hK.out _ _ hk (fun _ => ?_)
          clear hK K
          try simp only [Act.put, List.setIfInBounds_toArray, List.set_cons_zero, List.set_cons_succ]
          refine wpAnyH_ready (rs := [22]) (by decide +kernel) (by simp) ?_
          refine AllReadyH.cons (o := { dst := some 115, op := Op.call { callee := Callee.value (Operand.func 32), args := #[Operand.tmp 109, Operand.tmp 110, Operand.tmp 111, Operand.tmp 113, Operand.tmp 114, Operand.const (Value.int IntKind.i64 256)], argTypes := #[30, 3, 3, 30, 60, 3] }, type := 4, pos := "law.go:134", after := #[{ on := 16, ground := Ground.data }, { on := 17, ground := Ground.data }, { on := 18, ground := Ground.data }, { on := 20, ground := Ground.data }, { on := 21, ground := Ground.data }, { on := 20, ground := Ground.chain }, { on := 14, ground := Ground.guard }], guard := some (14, false) }) rfl (fun K hK => ?_) AllReadyH.nil
          go_simp
          refine (checkpath_any H.R (n : Int) (i : Int) (leafL t 256) ap P.length cp P 256 _ HHD.out.R (leafL_dg _ _) (by omega) hk.pth hk.tab).mono ?_
          rintro e w11 ⟨rfl, hb11⟩
          rw [HCPK.out]
          replace hk := hk.step hb11
          clear hb11
          refine hK.out _ _ hk (fun _ => ?_)
          clear hK K
          try simp only [Act.put, List.setIfInBounds_toArray, List.set_cons_zero, List.set_cons_succ]
          refine wpAnyH_take (i := 23) (oi := { dst := some 116, op := Op.unOp UnOp.not 4 (Operand.tmp 115), type := 4, pos := "law.go:134", after := #[{ on := 22, ground := Ground.data }, { on := 14, ground := Ground.guard }], guard := some (14, false) }) (v := ?vlsh1921) rfl (by kernel_rfl) (by kernel_rfl) (by kernel_rfl) (fun _ _ _ h => h) (Or.inl ⟨by rfl, ?ylsh1921⟩) hk ?rlsh1921
          case ylsh1921 => (intro w hSw; (try dsimp only at hSw); go_simp; first | done | with_reducible rfl)
          simp only [Act.put, List.setIfInBounds_toArray, List.set_cons_zero, List.set_cons_succ]
          refine wpAnyH_take (i := 24) (oi := { dst := some 117, op := Op.pick (Operand.tmp 107) (Operand.const (Value.bool true)) (Operand.tmp 116), type := 4, pos := "law.go:134", after := #[{ on := 14, ground := Ground.data }, { on := 23, ground := Ground.data }], guard := none }) (v := ?vlsh1922) rfl (by kernel_rfl) (by kernel_rfl) (by kernel_rfl) (fun _ _ _ h => h) (Or.inl ⟨by rfl, ?ylsh1922⟩) hk ?rlsh1922
          case ylsh1922 => (intro w hSw; (try dsimp only at hSw); go_simp; first | done | with_reducible rfl)
          simp only [Act.put, List.setIfInBounds_toArray, List.set_cons_zero, List.set_cons_succ]
          refine wpAnyH_take (i := 25) (oi := { dst := some 118, op := Op.move (Operand.tmp 117), type := 4, pos := "law.go:134", after := #[{ on := 24, ground := Ground.data }, { on := 22, ground := Ground.chain }], guard := none }) (v := ?vlsh1923) rfl (by kernel_rfl) (by kernel_rfl) (by kernel_rfl) (fun _ _ _ h => h) (Or.inl ⟨by rfl, ?ylsh1923⟩) hk ?rlsh1923
          case ylsh1923 => (intro w hSw; (try dsimp only at hSw); go_simp; first | done | with_reducible rfl)
          simp only [Act.put, List.setIfInBounds_toArray, List.set_cons_zero, List.set_cons_succ]
          refine wpAnyH_take (i := 26) (oi := { dst := some 119, op := Op.fieldAddr 47 (Operand.tmp 16) 1, type := 0, pos := "law.go:134", after := #[{ on := 25, ground := Ground.guard }], guard := some (25, false) }) (v := ?vlsh1924) rfl (by kernel_rfl) (by kernel_rfl) (by kernel_rfl) (fun _ _ _ h => h) (Or.inl ⟨by rfl, ?ylsh1924⟩) hk ?rlsh1924
          case ylsh1924 => (intro w hSw; (try dsimp only at hSw); go_simp; first | done | with_reducible rfl)
          simp only [Act.put, List.setIfInBounds_toArray, List.set_cons_zero, List.set_cons_succ]
          refine wpAnyH_take (i := 27) (oi := { dst := some 120, op := Op.load 30 (Operand.tmp 119), type := 30, pos := "law.go:134", after := #[{ on := 26, ground := Ground.data }, { on := 25, ground := Ground.guard }], guard := some (25, false) }) (v := .agg (bv H2.R).toArray) rfl (by kernel_rfl) (by kernel_rfl) (by kernel_rfl) (fun _ _ _ h => h) (yieldsIf_load_mid (by rfl) 30 (.tmp 119) rfl g16 1 rfl (bv H2.R) _ (fun (W : World) (hW : SWX g7 g16 H H2 ta tn tc t ap P.length cp P ag G.length cg G w4 W) => hW.h16.rR) Tryd.underlying30 rfl (by rw [bv_length, HHD2.out.R.1]; exact dgH_info)) hk ?_
          simp only [Act.put, List.setIfInBounds_toArray, List.set_cons_zero, List.set_cons_succ]
          refine wpAnyH_take (i := 28) (oi := { dst := some 121, op := Op.move (Operand.tmp 9), type := 3, pos := "law.go:134", after := #[{ on := 25, ground := Ground.guard }], guard := some (25, false) }) (v := ?vlsh1925) rfl (by kernel_rfl) (by kernel_rfl) (by kernel_rfl) (fun _ _ _ h => h) (Or.inl ⟨by rfl, ?ylsh1925⟩) hk ?rlsh1925
          case ylsh1925 => (intro w hSw; (try dsimp only at hSw); go_simp; first | done | with_reducible rfl)
          simp only [Act.put, List.setIfInBounds_toArray, List.set_cons_zero, List.set_cons_succ]
          refine wpAnyH_take (i := 29) (oi := { dst := some 122, op := Op.binOp BinOp.add 3 (Operand.tmp 121) (Operand.const (Value.int IntKind.i64 1)) 3, type := 3, pos := "law.go:134", after := #[{ on := 28, ground := Ground.data }, { on := 25, ground := Ground.guard }], guard := some (25, false) }) (v := ?vlsh1926) rfl (by kernel_rfl) (by kernel_rfl) (by kernel_rfl) (fun _ _ _ h => h) (Or.inl ⟨by rfl, ?ylsh1926⟩) hk ?rlsh1926
          case ylsh1926 => (intro w hSw; (try dsimp only at hSw); go_simp; first | done | with_reducible rfl)
          simp only [Act.put, List.setIfInBounds_toArray, List.set_cons_zero, List.set_cons_succ]
          refine wpAnyH_take (i := 30) (oi := { dst := some 123, op := Op.fieldAddr 47 (Operand.tmp 7) 1, type := 0, pos := "law.go:134", after := #[{ on := 25, ground := Ground.guard }], guard := some (25, false) }) (v := ?vlsh1927) rfl (by kernel_rfl) (by kernel_rfl) (by kernel_rfl) (fun _ _ _ h => h) (Or.inl ⟨by rfl, ?ylsh1927⟩) hk ?rlsh1927
          case ylsh1927 => (intro w hSw; (try dsimp only at hSw); go_simp; first | done | with_reducible rfl)
          simp only [Act.put, List.setIfInBounds_toArray, List.set_cons_zero, List.set_cons_succ]
          refine wpAnyH_take (i := 31) (oi := { dst := some 124, op := Op.load 30 (Operand.tmp 123), type := 30, pos := "law.go:134", after := #[{ on := 30, ground := Ground.data }, { on := 25, ground := Ground.guard }], guard := some (25, false) }) (v := .agg (bv H.R).toArray) rfl (by kernel_rfl) (by kernel_rfl) (by kernel_rfl) (fun _ _ _ h => h) (yieldsIf_load_mid (by rfl) 30 (.tmp 123) rfl g7 1 rfl (bv H.R) _ (fun (W : World) (hW : SWX g7 g16 H H2 ta tn tc t ap P.length cp P ag G.length cg G w4 W) => hW.h7.rR) Tryd.underlying30 rfl (by rw [bv_length, HHD.out.R.1]; exact dgH_info)) hk ?_
          simp only [Act.put, List.setIfInBounds_toArray, List.set_cons_zero, List.set_cons_succ]
          refine wpAnyH_take (i := 32) (oi := { dst := some 125, op := Op.move (Operand.tmp 6), type := 3, pos := "law.go:134", after := #[{ on := 25, ground := Ground.guard }], guard := some (25, false) }) (v := ?vlsh1928) rfl (by kernel_rfl) (by kernel_rfl) (by kernel_rfl) (fun _ _ _ h => h) (Or.inl ⟨by rfl, ?ylsh1928⟩) hk ?rlsh1928
          case ylsh1928 => (intro w hSw; (try dsimp only at hSw); go_simp; first | done | with_reducible rfl)
          simp only [Act.put, List.setIfInBounds_toArray, List.set_cons_zero, List.set_cons_succ]
          refine wpAnyH_take (i := 33) (oi := { dst := some 126, op := Op.move (Operand.tmp 14), type := 60, pos := "law.go:134", after := #[{ on := 25, ground := Ground.guard }], guard := some (25, false) }) (v := ?vlsh1929) rfl (by kernel_rfl) (by kernel_rfl) (by kernel_rfl) (fun _ _ _ h => h) (Or.inl ⟨by rfl, ?ylsh1929⟩) hk ?rlsh1929
          case ylsh1929 => (intro w hSw; (try dsimp only at hSw); go_simp; first | done | with_reducible rfl)
          simp only [Act.put, List.setIfInBounds_toArray, List.set_cons_zero, List.set_cons_succ]
          refine wpAnyH_ready (rs := [34]) (by decide +kernel) (by simp) ?_
          refine AllReadyH.cons (o := { dst := some 127, op := Op.call { callee := Callee.value (Operand.func 34), args := #[Operand.tmp 120, Operand.tmp 122, Operand.tmp 124, Operand.tmp 125, Operand.tmp 126, Operand.const (Value.int IntKind.i64 256)], argTypes := #[30, 3, 30, 3, 60, 3] }, type := 4, pos := "law.go:134", after := #[{ on := 27, ground := Ground.data }, { on := 29, ground := Ground.data }, { on := 31, ground := Ground.data }, { on := 32, ground := Ground.data }, { on := 33, ground := Ground.data }, { on := 25, ground := Ground.chain }, { on := 25, ground := Ground.guard }], guard := some (25, false) }) rfl (fun K hK => ?_) AllReadyH.nil
          go_simp
          refine (checkgrowth_any H2.R ((i : Int) + 1) H.R (n : Int) ag G.length cg G 256 _ HHD2.out.R HHD.out.R (by omega) hk.gro hk.tab).mono ?_
          rintro e w12 ⟨rfl, hb12⟩
          rw [HCGK2.out]
          replace hk := hk.step hb12
          clear hb12
          refine hK.out _ _ hk (fun _ => ?_)
          clear hK K
          try simp only [Act.put, List.setIfInBounds_toArray, List.set_cons_zero, List.set_cons_succ]
          refine wpAnyH_take (i := 35) (oi := { dst := some 128, op := Op.unOp UnOp.not 4 (Operand.tmp 127), type := 4, pos := "law.go:134", after := #[{ on := 34, ground := Ground.data }, { on := 25, ground := Ground.guard }], guard := some (25, false) }) (v := ?vlsh1930) rfl (by kernel_rfl) (by kernel_rfl) (by kernel_rfl) (fun _ _ _ h => h) (Or.inl ⟨by rfl, ?ylsh1930⟩) hk ?rlsh1930
          case ylsh1930 => (intro w hSw; (try dsimp only at hSw); go_simp; first | done | with_reducible rfl)
          simp only [Act.put, List.setIfInBounds_toArray, List.set_cons_zero, List.set_cons_succ]
          refine wpAnyH_take (i := 36) (oi := { dst := some 129, op := Op.pick (Operand.tmp 118) (Operand.const (Value.bool true)) (Operand.tmp 128), type := 4, pos := "law.go:134", after := #[{ on := 25, ground := Ground.data }, { on := 35, ground := Ground.data }], guard := none }) (v := ?vlsh1931) rfl (by kernel_rfl) (by kernel_rfl) (by kernel_rfl) (fun _ _ _ h => h) (Or.inl ⟨by rfl, ?ylsh1931⟩) hk ?rlsh1931
          case ylsh1931 => (intro w hSw; (try dsimp only at hSw); go_simp; first | done | with_reducible rfl)
          simp only [Act.put, List.setIfInBounds_toArray, List.set_cons_zero, List.set_cons_succ]
          refine wpAnyH_done (by decide +kernel) ?_ _
          have HEND : Bx (Below w4.heap.size w4 w12) := ⟨hk.low⟩
          clear hk
          go_wp2
          go_roundw
          case rel => exact ⟨i + 1, by omega, by go_num, HEND⟩
          case measure => simp [intOf]; omega
        · have g2 : ¬ (i : Int) < (n : Int) := by omega
          have HBO := Bx.mk (bstep HB4.out HI.out)
          go_wp2_with fail
          go_roundw
          case rel => exact ⟨n + 1, by omega, by omega, by go_num, HBO⟩
          case measure => simp [intOf]; omega
    · have g1 : ¬ (n : Int) ≤ (m : Int) := by omega
      have HBO := Bx.mk (bstep HBF.out HO.out)
      go_wp2_with fail
      refine (lives21_any _).mono ?_
      rintro x w6 ⟨rfl, hb6⟩
      have HB6 := Bx.mk (bstep HBO.out hb6)
      clear hb6
      go_wp2_with fail
      go_ret
      exact ⟨rfl, HB6.out⟩

set_option maxRecDepth 100000 in
/-- what the walk gives, for every argument and every world that holds the table -/
theorem contract (H : Type) (enc : TypeId × Value → H) (W : World) (base : Nat) (args : Array Value) (ds gs : List (DataW H)) (before : List MemPlace)
    (hval0 : ∀ (j : Nat) t v, Tryd.f5.params[j]? = some t → args[j]? = some v → Value.okWide Tryd.prog W .any base t v)
    (hW : DataW.Whole enc Tryd.prog Tryd.f5.params.toList Rows.ledgerShownSpec.vars false W args.toList ds gs before) (hL : laidMetH Tryd.prog Rows.ledgerShownRow.laid W) :
    Calls Tryd.prog 5 args W fun e W' => ∃ v, e = .returned v ∧ Rows.ledgerShownSpec.post enc Tryd.prog Tryd.f5 false true false false W args v W' := by
  have htab := tab_of_laid hL
  have hval : ∀ (j : Nat) t v, Tryd.f5.params[j]? = some t → args[j]? = some v → Value.okWide Tryd.prog W .any base t v := hval0
  have hW' := hW
  obtain ⟨p, q, hA0, hV, rfl, hfz, hnd⟩ := hW
  have hA : DataW.TrodAll enc Tryd.prog W 0 (fun _ => true) true Tryd.f5.params.toList args.toList ds p := hA0
  rw [Tryd.params5] at hA hval
  obtain ⟨v0, vs0, d0, ds0, p0, q0, hargs, rfl, rfl, h0, r0⟩ := trodAll_cons hA
  obtain ⟨v1, vs1, d1, ds1, p1, q1, rfl, rfl, rfl, h1, r1⟩ := trodAll_cons r0
  obtain ⟨rfl, rfl, rfl⟩ := trodAll_nil r1
  obtain rfl : args = #[v0, v1] := by cases args; simp_all
  obtain ⟨rfl, rfl⟩ := trodVars_none hV
  obtain ⟨a0, len0, cap0, rfl⟩ := okWide_slice Tryd.underlying22 (hval 0 22 v0 rfl rfl)
  obtain ⟨a1, len1, cap1, rfl⟩ := okWide_slice Tryd.underlying23 (hval 1 23 v1 rfl rfl)
  have k0 := h0
  have lt0 : ∀ x ∈ p0, x.block < W.heap.size := by obtain ⟨m, hm⟩ := k0; exact DataW.trod_lt m _ _ _ hm
  have k1 := h1
  have lt1 : ∀ x ∈ p1, x.block < W.heap.size := by obtain ⟨m, hm⟩ := k1; exact DataW.trod_lt m _ _ _ hm
  obtain ⟨k, hk⟩ := open_byt h0
  obtain ⟨l, hl⟩ := open_ens h1
  clear hA0 hval0
  refine (walk a0 len0 cap0 k a1 len1 cap1 l W hk hl htab).mono fun e W' ⟨he, bel⟩ => ?_
  subst he
  exact ⟨_, rfl, _, _, _, [], _, [], hW', trodAll_mk1 (shut_bool Tryd.underlying4 _), (trodAll_cons_mk (Below.trod laidOut (by kernel_rfl) (of_decide_eq_true (by kernel_rfl)) k0 bel lt0) (trodAll_cons_mk (Below.trod laidOut (by kernel_rfl) (of_decide_eq_true (by kernel_rfl)) k1 bel lt1) trodAll_mk0)), rfl, bel.frame _, fun h => by cases h⟩

set_option maxRecDepth 100000 in
theorem laid_met (os : Os) : laidMet Tryd.prog Rows.ledgerShownRow.laid (({ World.holding Tryd.prog os ⟨#[], #[], []⟩ with heap := (World.holding Tryd.prog os ⟨#[], #[], []⟩).heap.setIfInBounds 0 (.cells (uv keyL).toArray 138) } : World).forCall (fun _ _ => 0) ⟨#[], #[.slice none 0 0, .slice none 0 0], []⟩).memory :=
  laidMet_of_run' 8 (by kernel_rfl) (by kernel_rfl)
set_option maxRecDepth 100000 in
theorem reads (os : Os) {H : Type} (enc : TypeId × Value → H) : ∃ places, DataW.whole enc Tryd.prog (({ World.holding Tryd.prog os ⟨#[], #[], []⟩ with heap := (World.holding Tryd.prog os ⟨#[], #[], []⟩).heap.setIfInBounds 0 (.cells (uv keyL).toArray 138) } : World).forCall (fun _ _ => 0) ⟨#[], #[.slice none 0 0, .slice none 0 0], []⟩).memory Tryd.f5.params.toList Rows.ledgerShownSpec.vars false (#[.slice none 0 0, .slice none 0 0] : Array Value).toList 8 = some ([.nil, .nil], [], places) :=
  ⟨[], by kernel_rfl⟩
set_option maxRecDepth 100000 in
theorem lifted (os : Os) (started : os.Started) (H : Type) (enc : TypeId × Value → H) (F : Stop.Interp) :
    ReturnsInHanded {} Tryd.checked os 5 .any ((OpenSpec.ofChange Rows.ledgerShownSpec).preRow enc Tryd.prog Tryd.f5 Rows.ledgerShownRow.domain false Rows.ledgerShownRow.laid) (((OpenSpec.ofChange Rows.ledgerShownSpec).at F).post enc Tryd.prog Tryd.f5 false true false false) := by
  obtain ⟨places, hx⟩ := reads os enc
  refine returnsInHanded_of_row (C := Tryd.checked) (s := OpenSpec.ofChange Rows.ledgerShownSpec) own started (by kernel_rfl) Tryd.func5
    (witness_row_at (enc := enc) (C := Tryd.checked) false ({ World.holding Tryd.prog os ⟨#[], #[], []⟩ with heap := (World.holding Tryd.prog os ⟨#[], #[], []⟩).heap.setIfInBounds 0 (.cells (uv keyL).toArray 138) } : World) #[.slice none 0 0, .slice none 0 0] rfl (by kernel_rfl) (by kernel_rfl) (by kernel_rfl)
      (OpenSpec.preRow_of_cond 8 hx (by kernel_rfl) (fun k hk => by cases hk) (by kernel_rfl) (laid_met os))) ?_
  intro W base args ds gs before hval hW _ _ _ hL _ _
  exact contract H enc W base args ds gs before hval hW hL
theorem said : Rows.LedgerShownSaid :=
  OpenClaim.holds_of_cond 5 Tryd.f5 rfl rfl rfl rfl rfl rfl rfl ⟨rfl, rfl, rfl, rfl, rfl⟩ rfl rfl rfl rfl rfl (by kernel_rfl) Tryd.func5 (by kernel_rfl)
    (of_decide_eq_true (by kernel_rfl)) (by unfold Func.isWrapper; first | (rw [if_pos (by decide +kernel)]; kernel_rfl) | (rw [if_neg (by decide +kernel)]; exact ⟨rfl, rfl⟩))
    (fun os started H enc _ F => by rw [OpenClaim.pre_eq_preRow]; exact lifted os started H enc F)
theorem plain (f : FuncId) (fn : Func) (hf : Tryd.pinned.checked.prog.funcNamed "inquest/inquestlaw21.LedgerShown" = some f) (hfn : Tryd.pinned.checked.prog.funcs[f]? = some fn) :
    false = Tryd.pinned.checked.prog.looks [] ∧ ∀ (j : Nat) t, fn.params[j]? = some t → Tryd.pinned.checked.prog.wantsStandIn t = false := by
  obtain rfl : f = 5 := Option.some.inj ((show Tryd.prog.funcNamed "inquest/inquestlaw21.LedgerShown" = some 5 by kernel_rfl).symm.trans hf) |>.symm
  obtain rfl : fn = Tryd.f5 := (Option.some.inj (Tryd.func5.symm.trans hfn)).symm
  refine ⟨by kernel_rfl, fun j t ht => ?_⟩
  rw [Tryd.params5] at ht
  have hall : ([22, 23].all fun u => !Tryd.prog.wantsStandIn u) = true := by kernel_rfl
  have hm : t ∈ [22, 23] := by simpa using Array.mem_of_getElem? ht
  exact (show Tryd.prog.wantsStandIn t = false by simpa using List.all_eq_true.1 hall t hm)
/-- the tied card -/
theorem card : Rows.LedgerShownCardSaid :=
  Claim7.holds_tied_plain_at .later [] _ _ _ _ said (fun _ h => by cases h) (by kernel_rfl) (fun _ h => by cases h) ledgerShown_row_tie rfl ⟨rfl, rfl⟩ (by kernel_rfl) rfl plain (by kernel_rfl)
end Go.Proofs.YtbednfacipphhaaDoor.ledgerShown
namespace Go.Proofs.YtbednfacipphhaaDoor
theorem ledgerShown_holds : Rows.LedgerShownCardSaid := ledgerShown.card
#print axioms ledgerShown_holds
end Go.Proofs.YtbednfacipphhaaDoor
