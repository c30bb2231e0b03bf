/- LinTells: what any search tells, or why there is none; what is handed in stays. -/
import Derived.Test.YtbjeeefkbmdmfaaRows
import Derived.Test.YtbjeeefkbmdmfaaOrIn
import Derived.Test.YtbjeeefkbmdmfaaTmTells
import Derived.Test.YtbjeeefkbmdmfaaLnh
import Derived.Test.YtbjeeefkbmdmfaaRLin1
import Derived.Test.YtbjeeefkbmdmfaaRLin7
import Derived.Test.YtbjeeefkbmdmfaaSma
import Derived.WalkKit
import Derived.ProofKit
import Derived.OpenShut
import Derived.ShutString
import Derived.ChangeOld
import Derived.Below
namespace Go.Proofs.Ytbjeeefkbmdmfaa.linTells
open Go.ChangeShapes Go.WideShapes Go.ChangeAt Go.RowKit
open Go.ChangeMaps (open_string shut_string)
set_option linter.unusedVariables false

theorem own : ownKnob Try.prog.godebug = none := by kernel_rfl
theorem laidOut : laidOutB Try.prog = true := by kernel_rfl


set_option maxRecDepth 100000 in
set_option maxHeartbeats 8000000 in
theorem walk (a0 : Option Addr) (len0 cap0 : Nat) (l : List Ic) (fuel : Int) (budget : Int) (a3 : Option Addr) (len3 cap3 : Nat) (ops : List Opr) (w : World) (hl : IcsI w a0 len0 cap0 l) (hfuel : I64 fuel) (hbudget : I64 budget) (hops : OrsI w a3 len3 cap3 ops) :
    Calls Try.prog 3 #[.slice a0 len0 cap0, .int .i64 fuel, .int .i64 budget, .slice a3 len3 cap3] w fun e w' => e = .returned (.bool true) ∧ Below w.heap.size w w' := by
  have HL := Bx.mk hl.1
  have HLK := Bx.mk hl.2
  have HOP := Bx.mk hops.1
  have HOPK := Bx.mk hops.2
  clear hl hops
  go_enter Try.func3, Try.ntmps3
  go_wp2_with fail
  refine (few15_any a0 len0 cap0 l _ HL.out).mono ?_
  rintro e w1 ⟨v1, rfl, ho1, hb1⟩
  obtain ⟨L, HLL⟩ : ∃ L, Bx (l.take 210 = L) := ⟨_, ⟨rfl⟩⟩
  have HLK1 : Bx (IcsK L) := ⟨by rw [← HLL.out]; exact HLK.out.take 210⟩
  have HLN : Bx (L.length ≤ 210) := ⟨by rw [← HLL.out, List.length_take]; omega⟩
  rw [HLL.out] at ho1
  obtain ⟨aL, cL, rfl, hE1⟩ := Ls.of_owns icC_len ho1 rfl
  have HE1 := Bx.mk hE1
  have HB1 := Bx.mk hb1
  have HOP1 := Bx.mk (HOP.out.below hb1)
  clear ho1 hE1 hb1 HL HLK HLL HOP
  go_wp2_with fail
  refine (few17_any a3 len3 cap3 70 ops _ HOP1.out (by decide) (by decide)).mono ?_
  rintro e w2 ⟨v2, rfl, ho2, hb2⟩
  obtain ⟨O, HOO⟩ : ∃ O, Bx (ops.take 70 = O) := ⟨_, ⟨rfl⟩⟩
  have HOK1 : Bx (OrsK O) := ⟨by rw [← HOO.out]; exact HOPK.out.take 70⟩
  have HON : Bx (O.length ≤ 70) := ⟨by rw [← HOO.out, List.length_take]; omega⟩
  rw [HOO.out] at ho2
  have HOW2 := Bx.mk ho2
  obtain ⟨aO, cO, rfl, hE2⟩ := Ls.of_owns orC_len ho2 rfl
  have HO2 := Bx.mk hE2
  have HE2 := Bx.mk (HE1.out.below hb2)
  have HB2 := Bx.mk (bstep HB1.out hb2)
  clear ho2 hE2 hb2 HE1 HB1 HOP1 HOPK HOO
  go_upto_region 2 with fail
  go_cut [27] from 22 to 27 (fun s wx => ∃ c : Bool, s = .bool c ∧ wx = w2)
  case first =>
    by_cases h1 : 300 < fuel
    · by_cases h2 : fuel ≤ 10000
      · go_wp2_with fail
        go_meet
        case rel => exact ⟨true, rfl, rfl⟩
      · go_wp2_with fail
        go_meet
        case rel => exact ⟨false, rfl, rfl⟩
    · have hd : decide (300 < fuel) = false := decide_eq_false h1
      go_wp2_with fail
      go_meet
      case rel => exact ⟨false, rfl, rfl⟩
  obtain ⟨c, rfl, hwc⟩ := hcut
  obtain rfl : w2 = wc := hwc.symm
  clear hwc
  go_upto_if 27 with fail
  go_cut [1] from 22 to 27 (fun s wx => ∃ f : Int, s = .int .i64 f ∧ wx = w2)
  case first =>
    cases c with
    | true =>
      go_wp2_with fail
      go_meet
      case rel => exact ⟨_, rfl, rfl⟩
    | false =>
      go_wp2_with fail
      go_meet
      case rel => exact ⟨_, rfl, rfl⟩
  obtain ⟨f, rfl, hwc⟩ := hcut
  obtain rfl : w2 = wc := hwc.symm
  clear hwc
  clear c
  go_upto_region 4 with fail
  go_cut [33] from 28 to 33 (fun s wx => ∃ c : Bool, s = .bool c ∧ wx = w2)
  case first =>
    by_cases h1 : 400 < budget
    · by_cases h2 : budget ≤ 1073741824
      · go_wp2_with fail
        go_meet
        case rel => exact ⟨true, rfl, rfl⟩
      · go_wp2_with fail
        go_meet
        case rel => exact ⟨false, rfl, rfl⟩
    · have hd : decide (400 < budget) = false := decide_eq_false h1
      go_wp2_with fail
      go_meet
      case rel => exact ⟨false, rfl, rfl⟩
  obtain ⟨c, rfl, hwc⟩ := hcut
  obtain rfl : w2 = wc := hwc.symm
  clear hwc
  go_upto_if 33 with fail
  go_cut [2] from 28 to 33 (fun s wx => ∃ f : Int, s = .int .i64 f ∧ wx = w2)
  case first =>
    cases c with
    | true =>
      go_wp2_with fail
      go_meet
      case rel => exact ⟨_, rfl, rfl⟩
    | false =>
      go_wp2_with fail
      go_meet
      case rel => exact ⟨_, rfl, rfl⟩
  obtain ⟨g, rfl, hwc⟩ := hcut
  obtain rfl : w2 = wc := hwc.symm
  clear hwc
  clear c
  go_wp2_with fail
  refine (few15_any aL _ cL L _ HE2.out).mono ?_
  rintro e w3 ⟨v3, rfl, ho3, hb3⟩
  rw [List.take_of_length_le HLN.out] at ho3
  obtain ⟨aA, cA, rfl, hE3⟩ := Ls.of_owns icC_len ho3 rfl
  have HA3 := Bx.mk hE3
  have HE3 := Bx.mk (HE2.out.below hb3)
  have HO3 := Bx.mk (HO2.out.below hb3)
  have HB3 := Bx.mk (bstep HB2.out hb3)
  clear ho3 hE3 hb3 HE2 HO2 HB2 HOW2
  go_wp2_with fail
  refine (few17_any aO _ cO 70 O _ HO3.out (by decide) (by decide)).mono ?_
  rintro e w4 ⟨v4, rfl, ho4, hb4⟩
  rw [List.take_of_length_le HON.out] at ho4
  have HOB := Bx.mk ho4
  have HPL : Bx (∀ p, aL = some p → 0 < L.length → p.block < w3.heap.size) := ⟨HE3.out.blk18⟩
  have HPO : Bx (∀ p, aO = some p → 0 < O.length → p.block < w3.heap.size) := ⟨HO3.out.blk18⟩
  obtain ⟨aB, cB, rfl, hE4⟩ := Ls.of_owns orC_len ho4 rfl
  have HBO4 := Bx.mk hE4
  have HA4 := Bx.mk (HA3.out.below hb4)
  have HE4 := Bx.mk (HE3.out.below hb4)
  have HO4 := Bx.mk (HO3.out.below hb4)
  have HB4 := Bx.mk (bstep HB3.out hb4)
  have HS4 := Bx.mk hb4.size
  have HS3 := Bx.mk HB3.out.size
  clear ho4 hE4 hb4 HA3 HE3 HO3 HB3
  go_wp2_with fail
  by_cases hne : linE L f g O = 0
  · have HK := Bx.mk (linE_ok hne)
    have HNE := Bx.mk hne
    clear hne
    refine (new18_yes HA4.out HLK1.out HBO4.out HOK1.out HK.out).mono ?_
    rintro e w5 ⟨D, vF, F, M, kd, vO, o, rfl, hD, hdk, hnd, hta, hb5⟩
    have HD := Bx.mk hD
    have HDK := Bx.mk hdk
    have HND := Bx.mk hnd
    have HTA5 := Bx.mk hta
    have HA5 := Bx.mk (HA4.out.below hb5)
    have HBO5 := Bx.mk (HBO4.out.below hb5)
    have HE5 := Bx.mk (HE4.out.below hb5)
    have HO5 := Bx.mk (HO4.out.below hb5)
    have HB5 := Bx.mk (bstep HB4.out hb5)
    have HOB5 := Bx.mk (owns_below HOB.out hb5)
    have HS5 := Bx.mk hb5.size
    clear hD hdk hnd hta hb5 HA4 HBO4 HE4 HO4 HB4
    go_wp2_with fail
    refine (refcheck18_any aL aO _ cL _ cO L f g O _ HE5.out HO5.out).mono ?_
    rintro e w6 ⟨rfl, hb6⟩
    rw [HNE.out]
    have HTA6 := Bx.mk (HTA5.out.below hb6)
    have HA6 := Bx.mk (HA5.out.below hb6)
    have HBO6 := Bx.mk (HBO5.out.below hb6)
    have HE6 := Bx.mk (HE5.out.below hb6)
    have HO6 := Bx.mk (HO5.out.below hb6)
    have HB6 := Bx.mk (bstep HB5.out hb6)
    have HOB6 := Bx.mk (owns_below HOB5.out hb6)
    have HS6 := Bx.mk (Nat.le_trans HS5.out hb6.size)
    clear hb6 HTA5 HA5 HBO5 HE5 HO5 HB5 HOB5
    go_wp2_with fail
    refine (same15_yes _ _ _ _ _ _ L _ HA6.out HE6.out).mono ?_
    rintro e w7 ⟨rfl, hb7⟩
    have HTA7 := Bx.mk (HTA6.out.below hb7)
    have HBO7 := Bx.mk (HBO6.out.below hb7)
    have HE7 := Bx.mk (HE6.out.below hb7)
    have HO7 := Bx.mk (HO6.out.below hb7)
    have HB7 := Bx.mk (bstep HB6.out hb7)
    have HOB7 := Bx.mk (owns_below HOB6.out hb7)
    have HS7 := Bx.mk (Nat.le_trans HS6.out hb7.size)
    clear hb7 HTA6 HA6 HBO6 HE6 HO6 HB6 HOB6
    go_wp2_with fail
    refine (alike14_yes _ _ _ _ _ _ O _ HBO7.out HO7.out).mono ?_
    rintro e w8 ⟨rfl, hb8⟩
    have HTA8 := Bx.mk (HTA7.out.below hb8)
    have HE8 := Bx.mk (HE7.out.below hb8)
    have HO8 := Bx.mk (HO7.out.below hb8)
    have HB8 := Bx.mk (bstep HB7.out hb8)
    have HOB8 := Bx.mk (owns_below HOB7.out hb8)
    have HS8 := Bx.mk (Nat.le_trans HS7.out hb8.size)
    clear hb8 HTA7 HBO7 HE7 HO7 HB7 HOB7
    obtain ⟨n, HN⟩ : ∃ n, Bx (O.length = n) := ⟨_, ⟨rfl⟩⟩
    have hn70 : n ≤ 70 := by rw [← HN.out]; exact HON.out
    rw [HN.out] at HOB8 HO8 HPO HOB ⊢
    have HBK : Bx (∀ k, (Value.slice aB n cB).ownBlock = some k → w3.heap.size ≤ k ∧ k < w4.heap.size) := ⟨fun k e => by have := HOB.out.lt k e; exact this⟩
    go_wp2_with fail
    go_loopw [14] (fun i wr => ∃ j : Nat, j ≤ n ∧ i = .int .i64 j ∧ Bx (∃ xs, wr.ownsRow w3.heap.size 35 7 (.slice aB n cB) n xs) ∧ Bx (Kept (fun k => (Value.slice aB n cB).ownBlock = some k) w8 wr)) (fun i _ => n - (intOf i).toNat)
    case atStart => exact ⟨0, Nat.zero_le _, rfl, ⟨_, HOB8.out⟩, ⟨Kept.refl _ _⟩⟩
    case round =>
      obtain ⟨j, hj, rfl, HX, HKP⟩ := hrel
      by_cases hlt : j < n
      · have hjI : (j : Int) < (n : Int) := by omega
        obtain ⟨xs, hX⟩ := HX.out
        obtain ⟨gB, cap, e, _, _⟩ := owns_form hX (by omega)
        cases e
        obtain ⟨v0, x0⟩ := ors_there hX hlt 0 (by decide)
        obtain ⟨v1, x1⟩ := ors_there hX hlt 1 (by decide)
        obtain ⟨v2, x2⟩ := ors_there hX hlt 2 (by decide)
        obtain ⟨v3, x3⟩ := ors_there hX hlt 3 (by decide)
        obtain ⟨v4, x4⟩ := ors_there hX hlt 4 (by decide)
        obtain ⟨v5, x5⟩ := ors_there hX hlt 5 (by decide)
        obtain ⟨v6, x6⟩ := ors_there hX hlt 6 (by decide)
        have f0 := ors_froz hX (j * 7)
        have f1 := ors_froz hX (j * 7 + 1)
        have f2 := ors_froz hX (j * 7 + 2)
        have f3 := ors_froz hX (j * 7 + 3)
        have f4 := ors_froz hX (j * 7 + 4)
        have f5 := ors_froz hX (j * 7 + 5)
        have f6 := ors_froz hX (j * 7 + 6)
        have HX2 := Bx.mk (ors_wipe hX (j * 7))
        have HKP2 := Bx.mk (kept_wipe HKP.out (g := gB) rfl (j * 7))
        rw [Nat.add_zero] at x0
        clear hX HX HKP
        go_wp2_with fail
        go_roundw
        case rel => exact ⟨j + 1, by omega, by go_num, HX2, HKP2⟩
        case measure => simp [intOf]; omega
      · have hjI : ¬ (j : Int) < (n : Int) := by omega
        obtain ⟨wl, hwl⟩ : ∃ wl, wl = wr := ⟨_, rfl⟩
        subst hwl
        have HTL := Bx.mk (HTA8.out.keepN HND.out HKP.out.size (fun k hN hl => HKP.out.block k hl (fun e => by have := (HBK.out k e).2; omega)))
        have HEL : Bx (Ics wl aL L.length cL L) := ⟨HE8.out.stay (fun hp q e hl => HKP.out.block _ hl (fun e2 => by have := HPL.out q e hp; have := (HBK.out _ e2).1; omega)) HKP.out.size⟩
        have HOL : Bx (Ors wl aO n cO O) := ⟨HO8.out.stay (fun hp q e hl => HKP.out.block _ hl (fun e2 => by have := HPO.out q e hp; have := (HBK.out _ e2).1; omega)) HKP.out.size⟩
        have HBL : Bx (Below w.heap.size w wl) := ⟨HB8.out.trans (HKP.out.low (B := w.heap.size) (fun k e => Nat.le_trans HS3.out (HBK.out k e).1) HB8.out.size)⟩
        have HSL : Bx (w4.heap.size ≤ wl.heap.size) := ⟨Nat.le_trans HS8.out HKP.out.size⟩
        clear HTA8 HE8 HO8 HB8 HX HKP
        go_wp2_with fail
        refine (go_any HTL.out HDK.out 2147483648 (by unfold V64; decide)).mono ?_
        rintro e wg ⟨vF3, rfl, ⟨F3, M3, kd3, vO3, o3, hta3⟩, hk3, ha3⟩
        have HST : Bx (stopS (tS D) (tP D) (tB D) (goF (tS D) (tP D) (tB D) (2147483648 : Int).toNat 0) = true) := ⟨go_all tk_zero (by have := HDK.out.bu; unfold tB; show D.bu.toNat ≤ 0 + 2147483648; omega)⟩
        rw [HST.out]
        obtain ⟨R, HR⟩ : ∃ R, Bx (vdR L f g O = R) := ⟨_, ⟨rfl⟩⟩
        have hRe : tR D = R := by unfold tR; rw [HD.out.1, HD.out.2.1, HD.out.2.2.1, HD.out.2.2.2, HR.out]
        have e1 := (hta3.told HST.out).1
        have e2 := (hta3.told HST.out).2.1
        have e3 := (hta3.told HST.out).2.2
        rw [hRe] at e1 e2 e3
        rw [e1, e2, e3] at hta3
        have hb3 := HTL.out.low HND.out hk3 HSL.out
        have HTG := Bx.mk hta3.tm
        have HEG : Bx (Ics wg aL L.length cL L) := ⟨HEL.out.low (N := w4.heap.size) (fun q e hp => Nat.lt_of_lt_of_le (HPL.out q e hp) HS4.out) (fun k hN hl => hb3.block k hN) hb3.size⟩
        have HOG : Bx (Ors wg aO n cO O) := ⟨HOL.out.low (N := w4.heap.size) (fun q e hp => Nat.lt_of_lt_of_le (HPO.out q e hp) HS4.out) (fun k hN hl => hb3.block k hN) hb3.size⟩
        have HBG : Bx (Below w.heap.size w wg) := ⟨HBL.out.trans (hb3.mono (Nat.le_trans HS3.out HS4.out))⟩
        have HVP : Bx ((vdK R : Int) ≠ 0) := ⟨by have := vdk_pos R; omega⟩
        have HVK : Bx (decide ((vdK R : Int) ≠ 0) = true) := ⟨decide_eq_true HVP.out⟩
        have HRL : Bx (R.o.length ≤ 64) := ⟨by rw [← HR.out]; exact Nat.le_trans (vd_len _ _ _ _) HK.out.few⟩
        have HKO : Bx (R.k ≠ 1 → R.o = []) := ⟨by rw [← HR.out]; exact vd_kinds.2.2⟩
        clear hta3 hk3 ha3 hb3 hRe e1 e2 e3 HTL HEL HOL HBL
        go_wp2_with fail
        refine (ver_over HTG.out HDK.out HVP.out HRL.out).mono ?_
        rintro e wv ⟨aV, cV, rfl, hoV, hbv⟩
        obtain ⟨m, HM⟩ : ∃ m, Bx (R.o.length = m) := ⟨_, ⟨rfl⟩⟩
        rw [HM.out] at hoV ⊢
        have hba : Below wv.heap.size wv (wv.alloc (.cells #[.int .i64 (vdK R : Nat), .slice aV m cV, .int .i64 (R.t : Nat)] 39)) := (Below.refl _ _).alloc (Nat.le_refl _) _
        obtain ⟨aY, cY, eY, hI9⟩ := Ls.of_owns ivC_len (owns_below hoV hba) (by rw [orI_len, HM.out])
        cases eY
        have HI9 := Bx.mk hI9
        have HT9 := Bx.mk (HTG.out.below (bstep hbv hba))
        have HE9 := Bx.mk (HEG.out.below (bstep hbv hba))
        have HO9 := Bx.mk (HOG.out.below (bstep hbv hba))
        have HB9 := Bx.mk (bstep HBG.out (bstep hbv hba))
        have HR9 := Bx.mk (heap_alloc_new wv (.cells #[.int .i64 (vdK R : Nat), .slice aV m cV, .int .i64 (R.t : Nat)] 39))
        clear hoV hbv hba hI9 HTG HEG HOG HBG
        go_upto_region 19 with fail
        generalize wv.alloc (.cells #[.int .i64 (vdK R : Nat), .slice aV m cV, .int .i64 (R.t : Nat)] 39) = w9 at HI9 HT9 HE9 HO9 HB9 HR9 ⊢
        generalize wv.heap.size = gv at HR9 ⊢
        have HG9 : Bx (gv < w9.heap.size) := ⟨(Array.getElem?_eq_some_iff.1 HR9.out).1⟩
        have X0 := Bx.mk (cell_of_row _ gv 0 _ _ (0, 0) HR9.out)
        have X1 := Bx.mk (cell_of_row _ gv 1 _ _ (0, 0) HR9.out)
        have X2 := Bx.mk (cell_of_row _ gv 2 _ _ (0, 0) HR9.out)
        have hqt : (((R.t : Nat) : Int) == ((R.t : Nat) : Int)) = true := by simp
        have hk : Below w9.heap.size w9 w9.drew := (Below.refl _ _).drew
        refine wp_region_held_drew (S := fun W => Below w9.heap.size w9 W) (by kernel_rfl) hk (fun _ => ?_)
        generalize w9.drew = wk at hk ⊢
        refine wpAnyH_take (i := 0) (oi := { dst := some 93, op := Op.move (Operand.tmp 15), type := 4, pos := "law.go:61", after := #[], guard := none }) (v := ?vlte191) rfl (by kernel_rfl) (by kernel_rfl) (by kernel_rfl) (fun _ _ _ h => h) (Or.inl ⟨by rfl, ?ylte191⟩) hk ?rlte191
        case ylte191 => (intro w hSw; (try dsimp only at hSw); go_simp; first | done | with_reducible rfl)
        simp only [Act.put, List.setIfInBounds_toArray, List.set_cons_zero, List.set_cons_succ]
        refine wpAnyH_take (i := 1) (oi := { dst := some 94, op := Op.move (Operand.tmp 93), type := 4, pos := "law.go:61", after := #[{ on := 0, ground := Ground.data }], guard := none }) (v := ?vlte192) rfl (by kernel_rfl) (by kernel_rfl) (by kernel_rfl) (fun _ _ _ h => h) (Or.inl ⟨by rfl, ?ylte192⟩) hk ?rlte192
        case ylte192 => (intro w hSw; (try dsimp only at hSw); go_simp; first | done | with_reducible rfl)
        simp only [Act.put, List.setIfInBounds_toArray, List.set_cons_zero, List.set_cons_succ]
        refine wpAnyH_take (i := 2) (oi := { dst := some 95, op := Op.move (Operand.tmp 17), type := 4, pos := "law.go:61", after := #[{ on := 1, ground := Ground.guard }], guard := some (1, true) }) (v := ?vlte193) rfl (by kernel_rfl) (by kernel_rfl) (by kernel_rfl) (fun _ _ _ h => h) (Or.inl ⟨by rfl, ?ylte193⟩) hk ?rlte193
        case ylte193 => (intro w hSw; (try dsimp only at hSw); go_simp; first | done | with_reducible rfl)
        simp only [Act.put, List.setIfInBounds_toArray, List.set_cons_zero, List.set_cons_succ]
        refine wpAnyH_take (i := 3) (oi := { dst := some 96, op := Op.pick (Operand.tmp 94) (Operand.tmp 95) (Operand.const (Value.bool false)), type := 4, pos := "law.go:61", after := #[{ on := 1, ground := Ground.data }, { on := 2, ground := Ground.data }], guard := none }) (v := ?vlte194) rfl (by kernel_rfl) (by kernel_rfl) (by kernel_rfl) (fun _ _ _ h => h) (Or.inl ⟨by rfl, ?ylte194⟩) hk ?rlte194
        case ylte194 => (intro w hSw; (try dsimp only at hSw); go_simp; first | done | with_reducible rfl)
        simp only [Act.put, List.setIfInBounds_toArray, List.set_cons_zero, List.set_cons_succ]
        refine wpAnyH_take (i := 4) (oi := { dst := some 97, op := Op.move (Operand.tmp 96), type := 4, pos := "law.go:61", after := #[{ on := 3, ground := Ground.data }, { on := 1, ground := Ground.chain }], guard := none }) (v := ?vlte195) rfl (by kernel_rfl) (by kernel_rfl) (by kernel_rfl) (fun _ _ _ h => h) (Or.inl ⟨by rfl, ?ylte195⟩) hk ?rlte195
        case ylte195 => (intro w hSw; (try dsimp only at hSw); go_simp; first | done | with_reducible rfl)
        simp only [Act.put, List.setIfInBounds_toArray, List.set_cons_zero, List.set_cons_succ]
        refine wpAnyH_take (i := 5) (oi := { dst := some 98, op := Op.move (Operand.tmp 11), type := 26, pos := "law.go:61", after := #[{ on := 4, ground := Ground.guard }], guard := some (4, true) }) (v := ?vlte196) rfl (by kernel_rfl) (by kernel_rfl) (by kernel_rfl) (fun _ _ _ h => h) (Or.inl ⟨by rfl, ?ylte196⟩) hk ?rlte196
        case ylte196 => (intro w hSw; (try dsimp only at hSw); go_simp; first | done | with_reducible rfl)
        simp only [Act.put, List.setIfInBounds_toArray, List.set_cons_zero, List.set_cons_succ]
        refine wpAnyH_ready (rs := [6]) (by decide +kernel) (by simp) ?_
        refine AllReadyH.cons (o := { dst := some 99, op := Op.call { callee := Callee.value (Operand.func 18), args := #[Operand.tmp 98], argTypes := #[26] }, type := 4, pos := "law.go:61", after := #[{ on := 5, ground := Ground.data }, { on := 4, ground := Ground.chain }, { on := 4, ground := Ground.guard }], guard := some (4, true) }) rfl (fun K hK => ?_) AllReadyH.nil
        go_simp
        refine (over_any (HT9.out.below hk)).mono ?_
        rintro e1 wz ⟨rfl, hw⟩
        obtain rfl : wk = wz := hw.symm
        clear hw
        rw [HVK.out]
        refine hK.out _ _ hk (fun _ => ?_)
        clear hK K
        try simp only [Act.put, List.setIfInBounds_toArray, List.set_cons_zero, List.set_cons_succ]
        refine wpAnyH_take (i := 7) (oi := { dst := some 100, op := Op.pick (Operand.tmp 97) (Operand.tmp 99) (Operand.const (Value.bool false)), type := 4, pos := "law.go:61", after := #[{ on := 4, ground := Ground.data }, { on := 6, ground := Ground.data }], guard := none }) (v := ?vlte197) rfl (by kernel_rfl) (by kernel_rfl) (by kernel_rfl) (fun _ _ _ h => h) (Or.inl ⟨by rfl, ?ylte197⟩) hk ?rlte197
        case ylte197 => (intro w hSw; (try dsimp only at hSw); go_simp; first | done | with_reducible rfl)
        simp only [Act.put, List.setIfInBounds_toArray, List.set_cons_zero, List.set_cons_succ]
        refine wpAnyH_take (i := 8) (oi := { dst := some 101, op := Op.move (Operand.tmp 100), type := 4, pos := "law.go:61", after := #[{ on := 7, ground := Ground.data }, { on := 6, ground := Ground.chain }], guard := none }) (v := ?vlte198) rfl (by kernel_rfl) (by kernel_rfl) (by kernel_rfl) (fun _ _ _ h => h) (Or.inl ⟨by rfl, ?ylte198⟩) hk ?rlte198
        case ylte198 => (intro w hSw; (try dsimp only at hSw); go_simp; first | done | with_reducible rfl)
        simp only [Act.put, List.setIfInBounds_toArray, List.set_cons_zero, List.set_cons_succ]
        refine wpAnyH_take (i := 9) (oi := { dst := some 102, op := Op.load 39 (Operand.tmp 16), type := 39, pos := "law.go:61", after := #[{ on := 8, ground := Ground.guard }], guard := some (8, true) }) (v := .agg #[.int .i64 (vdK R : Nat), .slice aV m cV, .int .i64 (R.t : Nat)]) rfl (by kernel_rfl) (by kernel_rfl) (by kernel_rfl) (fun _ _ _ h => h) (Or.inl ⟨by rfl, ?ylte199⟩) hk ?rlte199
        case ylte199 => (intro w hSw; have q0 := (hSw.cell HG9.out).trans X0.out; have q1 := (hSw.cell HG9.out).trans X1.out; have q2 := (hSw.cell HG9.out).trans X2.out; clear hSw; go_simp; first | done | with_reducible rfl)
        simp only [Act.put, List.setIfInBounds_toArray, List.set_cons_zero, List.set_cons_succ]
        refine wpAnyH_take (i := 10) (oi := { dst := some 103, op := Op.move (Operand.tmp 0), type := 22, pos := "law.go:61", after := #[{ on := 8, ground := Ground.guard }], guard := some (8, true) }) (v := ?vlte1910) rfl (by kernel_rfl) (by kernel_rfl) (by kernel_rfl) (fun _ _ _ h => h) (Or.inl ⟨by rfl, ?ylte1910⟩) hk ?rlte1910
        case ylte1910 => (intro w hSw; (try dsimp only at hSw); go_simp; first | done | with_reducible rfl)
        simp only [Act.put, List.setIfInBounds_toArray, List.set_cons_zero, List.set_cons_succ]
        refine wpAnyH_take (i := 11) (oi := { dst := some 104, op := Op.move (Operand.tmp 1), type := 3, pos := "law.go:61", after := #[{ on := 8, ground := Ground.guard }], guard := some (8, true) }) (v := ?vlte1911) rfl (by kernel_rfl) (by kernel_rfl) (by kernel_rfl) (fun _ _ _ h => h) (Or.inl ⟨by rfl, ?ylte1911⟩) hk ?rlte1911
        case ylte1911 => (intro w hSw; (try dsimp only at hSw); go_simp; first | done | with_reducible rfl)
        simp only [Act.put, List.setIfInBounds_toArray, List.set_cons_zero, List.set_cons_succ]
        refine wpAnyH_take (i := 12) (oi := { dst := some 105, op := Op.move (Operand.tmp 2), type := 3, pos := "law.go:61", after := #[{ on := 8, ground := Ground.guard }], guard := some (8, true) }) (v := ?vlte1912) rfl (by kernel_rfl) (by kernel_rfl) (by kernel_rfl) (fun _ _ _ h => h) (Or.inl ⟨by rfl, ?ylte1912⟩) hk ?rlte1912
        case ylte1912 => (intro w hSw; (try dsimp only at hSw); go_simp; first | done | with_reducible rfl)
        simp only [Act.put, List.setIfInBounds_toArray, List.set_cons_zero, List.set_cons_succ]
        refine wpAnyH_take (i := 13) (oi := { dst := some 106, op := Op.move (Operand.tmp 3), type := 23, pos := "law.go:61", after := #[{ on := 8, ground := Ground.guard }], guard := some (8, true) }) (v := ?vlte1913) rfl (by kernel_rfl) (by kernel_rfl) (by kernel_rfl) (fun _ _ _ h => h) (Or.inl ⟨by rfl, ?ylte1913⟩) hk ?rlte1913
        case ylte1913 => (intro w hSw; (try dsimp only at hSw); go_simp; first | done | with_reducible rfl)
        simp only [Act.put, List.setIfInBounds_toArray, List.set_cons_zero, List.set_cons_succ]
        refine wpAnyH_ready (rs := [14]) (by decide +kernel) (by simp) ?_
        refine AllReadyH.cons (o := { dst := some 107, op := Op.call { callee := Callee.value (Operand.func 20), args := #[Operand.tmp 103, Operand.tmp 104, Operand.tmp 105, Operand.tmp 106], argTypes := #[22, 3, 3, 23] }, type := 39, pos := "law.go:61", after := #[{ on := 10, ground := Ground.data }, { on := 11, ground := Ground.data }, { on := 12, ground := Ground.data }, { on := 13, ground := Ground.data }, { on := 8, ground := Ground.chain }, { on := 8, ground := Ground.guard }], guard := some (8, true) }) rfl (fun K hK => ?_) AllReadyH.nil
        go_simp
        refine (refverdict_any aL aO _ cL _ cO L f g O _ (HE9.out.below hk) HLK1.out (HO9.out.below hk) HOK1.out HK.out).mono ?_
        rintro e1 wk2 ⟨vX, rfl, hoX, hb2⟩
        rw [HR.out] at hoX ⊢
        obtain ⟨aX, cX, rfl, hI2⟩ := hoX.iv HKO.out
        have HI2 := Bx.mk hI2
        replace hk := bstep hk hb2
        rw [HM.out] at HI2 ⊢
        clear hb2 hoX hI2
        refine hK.out _ _ hk (fun _ => ?_)
        clear hK K
        try simp only [Act.put, List.setIfInBounds_toArray, List.set_cons_zero, List.set_cons_succ]
        refine wpAnyH_ready (rs := [15]) (by decide +kernel) (by simp) ?_
        refine AllReadyH.cons (o := { dst := some 108, op := Op.call { callee := Callee.value (Operand.func 19), args := #[Operand.tmp 102, Operand.tmp 107], argTypes := #[39, 39] }, type := 4, pos := "law.go:61", after := #[{ on := 9, ground := Ground.data }, { on := 14, ground := Ground.data }, { on := 14, ground := Ground.chain }, { on := 8, ground := Ground.guard }], guard := some (8, true) }) rfl (fun K hK => ?_) AllReadyH.nil
        go_simp
        refine (refsame18_yes _ _ _ _ _ _ _ _ (orI R.o) _ (HI9.out.below hk) HI2.out).mono ?_
        rintro e1 wk3 ⟨rfl, hb3⟩
        replace hk := bstep hk hb3
        clear hb3 HI2
        refine hK.out _ _ hk (fun _ => ?_)
        clear hK K
        try simp only [Act.put, List.setIfInBounds_toArray, List.set_cons_zero, List.set_cons_succ]
        refine wpAnyH_take (i := 16) (oi := { dst := some 109, op := Op.pick (Operand.tmp 101) (Operand.tmp 108) (Operand.const (Value.bool false)), type := 4, pos := "law.go:61", after := #[{ on := 8, ground := Ground.data }, { on := 15, ground := Ground.data }], guard := none }) (v := ?vlte1914) rfl (by kernel_rfl) (by kernel_rfl) (by kernel_rfl) (fun _ _ _ h => h) (Or.inl ⟨by rfl, ?ylte1914⟩) hk ?rlte1914
        case ylte1914 => (intro w hSw; (try dsimp only at hSw); go_simp; first | done | with_reducible rfl)
        simp only [Act.put, List.setIfInBounds_toArray, List.set_cons_zero, List.set_cons_succ]
        refine wpAnyH_take (i := 17) (oi := { dst := some 110, op := Op.move (Operand.tmp 109), type := 4, pos := "law.go:61", after := #[{ on := 16, ground := Ground.data }, { on := 15, ground := Ground.chain }], guard := none }) (v := ?vlte1915) rfl (by kernel_rfl) (by kernel_rfl) (by kernel_rfl) (fun _ _ _ h => h) (Or.inl ⟨by rfl, ?ylte1915⟩) hk ?rlte1915
        case ylte1915 => (intro w hSw; (try dsimp only at hSw); go_simp; first | done | with_reducible rfl)
        simp only [Act.put, List.setIfInBounds_toArray, List.set_cons_zero, List.set_cons_succ]
        refine wpAnyH_take (i := 18) (oi := { dst := some 111, op := Op.move (Operand.tmp 11), type := 26, pos := "law.go:61", after := #[{ on := 17, ground := Ground.guard }], guard := some (17, true) }) (v := ?vlte1916) rfl (by kernel_rfl) (by kernel_rfl) (by kernel_rfl) (fun _ _ _ h => h) (Or.inl ⟨by rfl, ?ylte1916⟩) hk ?rlte1916
        case ylte1916 => (intro w hSw; (try dsimp only at hSw); go_simp; first | done | with_reducible rfl)
        simp only [Act.put, List.setIfInBounds_toArray, List.set_cons_zero, List.set_cons_succ]
        refine wpAnyH_take (i := 20) (oi := { dst := some 113, op := Op.fieldAddr 39 (Operand.tmp 16) 2, type := 0, pos := "law.go:61", after := #[{ on := 17, ground := Ground.guard }], guard := some (17, true) }) (v := ?vlte1917) rfl (by kernel_rfl) (by kernel_rfl) (by kernel_rfl) (fun _ _ _ h => h) (Or.inl ⟨by rfl, ?ylte1917⟩) hk ?rlte1917
        case ylte1917 => (intro w hSw; (try dsimp only at hSw); go_simp; first | done | with_reducible rfl)
        simp only [Act.put, List.setIfInBounds_toArray, List.set_cons_zero, List.set_cons_succ]
        refine wpAnyH_take (i := 21) (oi := { dst := some 114, op := Op.load 3 (Operand.tmp 113), type := 3, pos := "law.go:61", after := #[{ on := 20, ground := Ground.data }, { on := 17, ground := Ground.guard }], guard := some (17, true) }) (v := ?vlte1918) rfl (by kernel_rfl) (by kernel_rfl) (by kernel_rfl) (fun _ _ _ h => h) (Or.inl ⟨by rfl, ?ylte1918⟩) hk ?rlte1918
        case ylte1918 => (intro w hSw; have hcw := (hSw.cell HG9.out).trans X2.out; clear hSw; go_simp; first | done | with_reducible rfl)
        simp only [Act.put, List.setIfInBounds_toArray, List.set_cons_zero, List.set_cons_succ]
        refine wpAnyH_ready (rs := [19]) (by decide +kernel) (by simp) ?_
        refine AllReadyH.cons (o := { dst := some 112, op := Op.call { callee := Callee.value (Operand.func 21), args := #[Operand.tmp 111], argTypes := #[26] }, type := 3, pos := "law.go:61", after := #[{ on := 18, ground := Ground.data }, { on := 17, ground := Ground.chain }, { on := 17, ground := Ground.guard }], guard := some (17, true) }) rfl (fun K hK => ?_) AllReadyH.nil
        go_simp
        refine (tries_any (HT9.out.below hk)).mono ?_
        rintro e1 wz ⟨rfl, hw⟩
        obtain rfl : wk3 = wz := hw.symm
        clear hw
        refine hK.out _ _ hk (fun _ => ?_)
        clear hK K
        try simp only [Act.put, List.setIfInBounds_toArray, List.set_cons_zero, List.set_cons_succ]
        refine wpAnyH_take (i := 22) (oi := { dst := some 115, op := Op.binOp BinOp.eql 3 (Operand.tmp 112) (Operand.tmp 114) 3, type := 4, pos := "law.go:61", after := #[{ on := 19, ground := Ground.data }, { on := 21, ground := Ground.data }, { on := 17, ground := Ground.guard }], guard := some (17, true) }) (v := ?vlte1919) rfl (by kernel_rfl) (by kernel_rfl) (by kernel_rfl) (fun _ _ _ h => h) (Or.inl ⟨by rfl, ?ylte1919⟩) hk ?rlte1919
        case ylte1919 => (intro w hSw; (try dsimp only at hSw); go_simp; first | done | with_reducible rfl)
        simp only [Act.put, List.setIfInBounds_toArray, List.set_cons_zero, List.set_cons_succ]
        refine wpAnyH_take (i := 23) (oi := { dst := some 116, op := Op.pick (Operand.tmp 110) (Operand.tmp 115) (Operand.const (Value.bool false)), type := 4, pos := "law.go:61", after := #[{ on := 17, ground := Ground.data }, { on := 22, ground := Ground.data }], guard := none }) (v := ?vlte1920) rfl (by kernel_rfl) (by kernel_rfl) (by kernel_rfl) (fun _ _ _ h => h) (Or.inl ⟨by rfl, ?ylte1920⟩) hk ?rlte1920
        case ylte1920 => (intro w hSw; (try dsimp only at hSw); go_simp; first | done | with_reducible rfl)
        simp only [Act.put, List.setIfInBounds_toArray, List.set_cons_zero, List.set_cons_succ]
        refine wpAnyH_take (i := 24) (oi := { dst := some 117, op := Op.move (Operand.tmp 116), type := 4, pos := "law.go:61", after := #[{ on := 23, ground := Ground.data }, { on := 19, ground := Ground.chain }], guard := none }) (v := ?vlte1921) rfl (by kernel_rfl) (by kernel_rfl) (by kernel_rfl) (fun _ _ _ h => h) (Or.inl ⟨by rfl, ?ylte1921⟩) hk ?rlte1921
        case ylte1921 => (intro w hSw; (try dsimp only at hSw); go_simp; first | done | with_reducible rfl)
        simp only [Act.put, List.setIfInBounds_toArray, List.set_cons_zero, List.set_cons_succ]
        refine wpAnyH_ready (rs := [25]) (by decide +kernel) (by simp) ?_
        refine AllReadyH.cons (o := { dst := some 118, op := Op.call { callee := Callee.value (Operand.func 15), args := #[], argTypes := #[] }, type := 4, pos := "law.go:61", after := #[{ on := 24, ground := Ground.chain }, { on := 24, ground := Ground.guard }], guard := some (24, true) }) rfl (fun K hK => ?_) AllReadyH.nil
        go_simp
        refine (lives18_any _).mono ?_
        rintro e1 wk4 ⟨rfl, hb4⟩
        replace hk := bstep hk hb4
        clear hb4
        refine hK.out _ _ hk (fun _ => ?_)
        clear hK K
        try simp only [Act.put, List.setIfInBounds_toArray, List.set_cons_zero, List.set_cons_succ]
        refine wpAnyH_take (i := 26) (oi := { dst := some 119, op := Op.pick (Operand.tmp 117) (Operand.tmp 118) (Operand.const (Value.bool false)), type := 4, pos := "law.go:61", after := #[{ on := 24, ground := Ground.data }, { on := 25, ground := Ground.data }], guard := none }) (v := ?vlte1922) rfl (by kernel_rfl) (by kernel_rfl) (by kernel_rfl) (fun _ _ _ h => h) (Or.inl ⟨by rfl, ?ylte1922⟩) hk ?rlte1922
        case ylte1922 => (intro w hSw; (try dsimp only at hSw); go_simp; first | done | with_reducible rfl)
        simp only [Act.put, List.setIfInBounds_toArray, List.set_cons_zero, List.set_cons_succ]
        refine wpAnyH_take (i := 27) (oi := { dst := some 8, op := Op.assign (Operand.tmp 119), type := 4, pos := "law.go:61", after := #[{ on := 26, ground := Ground.data }, { on := 25, ground := Ground.chain }, { on := 0, ground := Ground.phase }, { on := 1, ground := Ground.phase }, { on := 2, ground := Ground.phase }, { on := 3, ground := Ground.phase }, { on := 4, ground := Ground.phase }, { on := 5, ground := Ground.phase }, { on := 6, ground := Ground.phase }, { on := 7, ground := Ground.phase }, { on := 8, ground := Ground.phase }, { on := 9, ground := Ground.phase }, { on := 10, ground := Ground.phase }, { on := 11, ground := Ground.phase }, { on := 12, ground := Ground.phase }, { on := 13, ground := Ground.phase }, { on := 14, ground := Ground.phase }, { on := 15, ground := Ground.phase }, { on := 16, ground := Ground.phase }, { on := 17, ground := Ground.phase }, { on := 18, ground := Ground.phase }, { on := 19, ground := Ground.phase }, { on := 20, ground := Ground.phase }, { on := 21, ground := Ground.phase }, { on := 22, ground := Ground.phase }, { on := 23, ground := Ground.phase }, { on := 24, ground := Ground.phase }, { on := 25, ground := Ground.phase }, { on := 26, ground := Ground.phase }], guard := none }) (v := ?vlte1923) rfl (by kernel_rfl) (by kernel_rfl) (by kernel_rfl) (fun _ _ _ h => h) (Or.inl ⟨by rfl, ?ylte1923⟩) hk ?rlte1923
        case ylte1923 => (intro w hSw; (try dsimp only at hSw); go_simp; first | done | with_reducible rfl)
        simp only [Act.put, List.setIfInBounds_toArray, List.set_cons_zero, List.set_cons_succ]
        refine wpAnyH_done (by decide +kernel) ?_ _
        have hfin := bstep HB9.out hk
        clear hk
        go_wp2_with fail
        go_ret
        exact ⟨rfl, hfin⟩
  · have HNE := Bx.mk hne
    clear hne
    refine (new18_no HA4.out HBO4.out HNE.out).mono ?_
    rintro e w5 ⟨rfl, hb5⟩
    have HA5 := Bx.mk (HA4.out.below hb5)
    have HBO5 := Bx.mk (HBO4.out.below hb5)
    have HE5 := Bx.mk (HE4.out.below hb5)
    have HO5 := Bx.mk (HO4.out.below hb5)
    have HB5 := Bx.mk (bstep HB4.out hb5)
    clear hb5 HA4 HBO4 HE4 HO4 HB4
    obtain ⟨r, HR⟩ : ∃ r, Bx (linE L f g O = r) := ⟨_, ⟨rfl⟩⟩
    rw [HR.out] at HNE ⊢
    go_wp2_with fail
    refine (refcheck18_any aL aO _ cL _ cO L f g O _ HE5.out HO5.out).mono ?_
    rintro e w6 ⟨rfl, hb6⟩
    rw [HR.out]
    have HA6 := Bx.mk (HA5.out.below hb6)
    have HBO6 := Bx.mk (HBO5.out.below hb6)
    have HE6 := Bx.mk (HE5.out.below hb6)
    have HO6 := Bx.mk (HO5.out.below hb6)
    have HB6 := Bx.mk (bstep HB5.out hb6)
    have hq1 : (r != r) = false := by simp
    have hq2 : (r != 0) = true := by simpa using HNE.out
    clear hb6 HA5 HBO5 HE5 HO5 HB5
    go_wp2_with fail
    refine (same15_yes _ _ _ _ _ _ L _ HA6.out HE6.out).mono ?_
    rintro e w7 ⟨rfl, hb7⟩
    have HBO7 := Bx.mk (HBO6.out.below hb7)
    have HO7 := Bx.mk (HO6.out.below hb7)
    have HB7 := Bx.mk (bstep HB6.out hb7)
    clear hb7 HA6 HBO6 HE6 HO6 HB6
    go_wp2_with fail
    refine (alike14_yes _ _ _ _ _ _ O _ HBO7.out HO7.out).mono ?_
    rintro e w8 ⟨rfl, hb8⟩
    have HB := Bx.mk (bstep HB7.out hb8)
    clear hb8 HBO7 HO7 HB7
    go_wp2_with fail
    refine (lives18_any _).mono ?_
    rintro e wL ⟨rfl, hbL⟩
    have hfin := bstep HB.out hbL
    clear hbL
    go_wp2_with fail
    go_ret
    exact ⟨rfl, hfin⟩

set_option maxRecDepth 100000 in
theorem lifted (os : Os) (started : os.Started) (H : Type) (enc : TypeId × Value → H) :
    ReturnsInHanded {} Try.checked os 3 .any (Rows.linTellsSpec.pre6 enc Try.prog Try.f3 Rows.linTellsRow.domain false) (Rows.linTellsSpec.post enc Try.prog Try.f3 false true false false) := by
  refine returnsInHanded_of_change (C := Try.checked) own started (by kernel_rfl) Try.func3
    (ChangeSpec.witness6 (enc := enc) (C := Try.checked) false ⟨#[], #[.slice none 0 0, .int .i64 0, .int .i64 0, .slice none 0 0], []⟩ 8 (by kernel_rfl) (by kernel_rfl) (by kernel_rfl) (by kernel_rfl)) ?_
  intro W base args ds gs before hval0 hW hcnd _
  have hval : ∀ (j : Nat) t v, Try.f3.params[j]? = some t → args[j]? = some v → Value.okWide Try.prog W .any base t v := hval0
  have hW' := hW
  obtain ⟨p, q, hA0, hV, rfl, hfz, hnd⟩ := hW
  have hA : DataW.TrodAll enc Try.prog W 0 (fun _ => true) true Try.f3.params.toList args.toList ds p := hA0
  rw [Try.params3] at hA hval
  obtain ⟨v0, vs0, d0, ds0, p0, q0, hargs, rfl, rfl, h0, r0⟩ := trodAll_cons hA
  obtain ⟨v1, vs1, d1, ds1, p1, q1, rfl, rfl, rfl, h1, r1⟩ := trodAll_cons r0
  obtain ⟨v2, vs2, d2, ds2, p2, q2, rfl, rfl, rfl, h2, r2⟩ := trodAll_cons r1
  obtain ⟨v3, vs3, d3, ds3, p3, q3, rfl, rfl, rfl, h3, r3⟩ := trodAll_cons r2
  obtain ⟨rfl, rfl, rfl⟩ := trodAll_nil r3
  obtain rfl : args = #[v0, v1, v2, v3] := by cases args; simp_all
  obtain ⟨rfl, rfl⟩ := trodVars_none hV
  obtain ⟨a0, len0, cap0, rfl⟩ := okWide_slice Try.underlying22 (hval 0 22 v0 rfl rfl)
  obtain ⟨a3, len3, cap3, rfl⟩ := okWide_slice Try.underlying23 (hval 3 23 v3 rfl rfl)
  have k0 := h0
  have lt0 : ∀ x ∈ p0, x.block < W.heap.size := by obtain ⟨m, hm⟩ := k0; exact DataW.trod_lt m _ _ _ hm
  have k1 := h1
  have lt1 : ∀ x ∈ p1, x.block < W.heap.size := by obtain ⟨m, hm⟩ := k1; exact DataW.trod_lt m _ _ _ hm
  have k2 := h2
  have lt2 : ∀ x ∈ p2, x.block < W.heap.size := by obtain ⟨m, hm⟩ := k2; exact DataW.trod_lt m _ _ _ hm
  have k3 := h3
  have lt3 : ∀ x ∈ p3, x.block < W.heap.size := by obtain ⟨m, hm⟩ := k3; exact DataW.trod_lt m _ _ _ hm
  obtain ⟨l, hl⟩ := open_ics h0
  obtain ⟨fuel, rfl, hfuel⟩ := open_i64 (hval 1 3 v1 rfl rfl) h1
  obtain ⟨budget, rfl, hbudget⟩ := open_i64 (hval 2 3 v2 rfl rfl) h2
  obtain ⟨ops, hops⟩ := open_ors h3
  clear hA0 hval0
  refine (walk a0 len0 cap0 l fuel budget a3 len3 cap3 ops W hl hfuel hbudget hops).mono fun e W' ⟨he, bel⟩ => ?_
  subst he
  exact ⟨_, rfl, _, _, _, [], _, [], hW', trodAll_mk1 (shut_bool Try.underlying4 _), (trodAll_cons_mk (Below.trod laidOut (by kernel_rfl) (of_decide_eq_true (by kernel_rfl)) k0 bel lt0) (trodAll_cons_mk (Below.trod laidOut (by kernel_rfl) (of_decide_eq_true (by kernel_rfl)) k1 bel lt1) (trodAll_cons_mk (Below.trod laidOut (by kernel_rfl) (of_decide_eq_true (by kernel_rfl)) k2 bel lt2) (trodAll_cons_mk (Below.trod laidOut (by kernel_rfl) (of_decide_eq_true (by kernel_rfl)) k3 bel lt3) trodAll_mk0)))), rfl, bel.frame _, fun h => by cases h⟩

theorem over : Rows.linTellsRow.holds Try.pinned (OpenSpec.ofChange Rows.linTellsSpec) :=
  OpenClaim.holds_of_wide 3 Try.f3 rfl rfl rfl rfl rfl rfl rfl ⟨rfl, rfl, rfl, rfl, rfl⟩ rfl rfl rfl rfl rfl (by kernel_rfl) Try.func3 (by kernel_rfl)
    (of_decide_eq_true (by kernel_rfl)) (by unfold Func.isWrapper; first | (rw [if_pos (by decide +kernel)]; kernel_rfl) | (rw [if_neg (by decide +kernel)]; exact ⟨rfl, rfl⟩))
    (fun os started H enc _ => lifted os started H enc)

/-- the statement -/
theorem proved : Rows.LinTellsSaid := over
end Go.Proofs.Ytbjeeefkbmdmfaa.linTells
namespace Go.Proofs.Ytbjeeefkbmdmfaa
theorem linTells_holds : Rows.LinTellsSaid := linTells.proved
#print axioms linTells_holds
end Go.Proofs.Ytbjeeefkbmdmfaa
