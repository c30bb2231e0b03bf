/- LinBudget: as many tries as were done are enough, fewer are not, and so many as Enough says always are. -/
import Derived.Test.YtbjeeefkbmdmfaaRows
import Derived.Test.YtbjeeefkbmdmfaaOrIn
import Derived.Test.YtbjeeefkbmdmfaaLnm
import Derived.Test.YtbjeeefkbmdmfaaLnh
import Derived.Test.YtbjeeefkbmdmfaaTmEnough
import Derived.Test.YtbjeeefkbmdmfaaRLin7
import Derived.Test.YtbjeeefkbmdmfaaSma
import Derived.WalkKit
import Derived.ProofKit
import Derived.OpenShut
import Derived.ShutString
import Derived.ChangeOld
import Derived.Below
namespace Go.Proofs.Ytbjeeefkbmdmfaa.linBudget
open Go.ChangeShapes Go.WideShapes Go.ChangeAt Go.RowKit
open Go.ChangeMaps (open_string shut_string)
set_option linter.unusedVariables false

theorem own : ownKnob Try.prog.godebug = none := by kernel_rfl
theorem laidOut : laidOutB Try.prog = true := by kernel_rfl

theorem en_min (n : Nat) : enZ (n : Nat) = ((min (enN n) M62 : Nat) : Int) := by unfold enZ; rw [Int.toNat_natCast]
theorem en_6 : enN 6 = 1956 := by decide

set_option maxRecDepth 100000 in
set_option maxHeartbeats 8000000 in
theorem walk (a0 : Option Addr) (len0 cap0 : Nat) (l : List Ic) (fuel : Int) (budget : Int) (a3 : Option Addr) (len3 cap3 : Nat) (ops : List Opr) (w : World) (hl : IcsI w a0 len0 cap0 l) (hfuel : I64 fuel) (hbudget : I64 budget) (hops : OrsI w a3 len3 cap3 ops) :
    Calls Try.prog 7 #[.slice a0 len0 cap0, .int .i64 fuel, .int .i64 budget, .slice a3 len3 cap3] w fun e w' => e = .returned (.bool true) ∧ Below w.heap.size w w' := by
  have HL := Bx.mk hl.1
  have HLK := Bx.mk hl.2
  have HOP := Bx.mk hops.1
  have HOPK := Bx.mk hops.2
  clear hl hops
  go_enter Try.func7, Try.ntmps7
  go_wp2_with fail
  refine (few15_any a0 len0 cap0 l _ HL.out).mono ?_
  rintro e w1 ⟨v1, rfl, ho1, hb1⟩
  obtain ⟨L, HLL⟩ : ∃ L, Bx (l.take 210 = L) := ⟨_, ⟨rfl⟩⟩
  have HLK1 : Bx (IcsK L) := ⟨by rw [← HLL.out]; exact HLK.out.take 210⟩
  rw [HLL.out] at ho1
  obtain ⟨aL, cL, rfl, hE1⟩ := Ls.of_owns icC_len ho1 rfl
  have HE1 := Bx.mk hE1
  have HB1 := Bx.mk hb1
  have HOP1 := Bx.mk (HOP.out.below hb1)
  clear ho1 hE1 hb1 HL HLK HLL HOP
  go_wp2_with fail
  refine (few17_any a3 len3 cap3 6 ops _ HOP1.out (by decide) (by decide)).mono ?_
  rintro e w2 ⟨v2, rfl, ho2, hb2⟩
  obtain ⟨O, HOO⟩ : ∃ O, Bx (ops.take 6 = O) := ⟨_, ⟨rfl⟩⟩
  have HOK1 : Bx (OrsK O) := ⟨by rw [← HOO.out]; exact HOPK.out.take 6⟩
  have HON : Bx (O.length ≤ 6) := ⟨by rw [← HOO.out, List.length_take]; omega⟩
  rw [HOO.out] at ho2
  have HOW2 := Bx.mk ho2
  obtain ⟨aO, cO, rfl, hE2⟩ := Ls.of_owns orC_len ho2 rfl
  have HO2 := Bx.mk hE2
  have HE2 := Bx.mk (HE1.out.below hb2)
  have HB2 := Bx.mk (bstep HB1.out hb2)
  clear ho2 hE2 hb2 HE1 HB1 HOP1 HOPK HOO
  go_wp2_with fail
  refine (least_any fuel 0 300 _).mono ?_
  rintro e wq ⟨rfl, hw⟩
  subst hw
  have hfb := least_bd fuel 0 300 (by decide)
  generalize leastV fuel 0 300 = f at hfb ⊢
  go_wp2_with fail
  refine (least_any budget 0 3000 _).mono ?_
  rintro e wq ⟨rfl, hw⟩
  subst hw
  have hgb := least_bd budget 0 3000 (by decide)
  generalize leastV budget 0 3000 = g at hgb ⊢
  have hon := HON.out
  go_wp2_with fail
  refine (enough_any (O.length : Nat) _ (by unfold V64; omega)).mono ?_
  rintro e wq ⟨rfl, hw⟩
  obtain rfl : w2 = wq := hw.symm
  clear hw
  have hen : enN O.length ≤ 1956 := by rw [← en_6]; exact enN_mono hon
  have HEN : Bx (enN O.length ≤ (enZ (O.length : Nat)).toNat) := ⟨by
    rw [en_min]
    unfold M62
    omega⟩
  obtain ⟨b, HEB⟩ : ∃ b, Bx (enZ (O.length : Nat) = b) := ⟨_, ⟨rfl⟩⟩
  rw [HEB.out] at HEN ⊢
  clear hen hon
  go_wp2_with fail
  by_cases hne : linE L f b O = 0
  · have HK := Bx.mk (linE_ok hne)
    have HKG : Bx (LinK L f g O) := ⟨⟨HK.out.code, HK.out.fuel, by omega, HK.out.few, HK.out.irr⟩⟩
    clear hne
    refine (whole_yes HE2.out HLK1.out HO2.out HOK1.out HK.out).mono ?_
    rintro e w3 ⟨aV, cV, rfl, hoV, hb3⟩
    have HWH := Bx.mk (vd_whole (l := L) (fu := f) (bu := b) (ops := O) HK.out.irr HEN.out)
    have HBU := Bx.mk (vd_budget (l := L) (fu := f) (bu := b) (cu := g) (ops := O) HWH.out.1)
    obtain ⟨R, HR⟩ : ∃ R, Bx (vdR L f b O = R) := ⟨_, ⟨rfl⟩⟩
    rw [HR.out] at hoV HWH HBU ⊢
    have hb4 : Below w3.heap.size w3 (w3.alloc (.cells #[.int .i64 (vdK R : Nat), .slice aV R.o.length cV, .int .i64 (R.t : Nat)] 39)) := (Below.refl _ _).alloc (Nat.le_refl _) _
    obtain ⟨aW, cW, eW, hI4⟩ := Ls.of_owns ivC_len (owns_below hoV hb4) (orI_len R.o)
    cases eW
    have HI4 := Bx.mk hI4
    have HE4 := Bx.mk (HE2.out.below (bstep hb3 hb4))
    have HO4 := Bx.mk (HO2.out.below (bstep hb3 hb4))
    have HB4 := Bx.mk (bstep HB2.out (bstep hb3 hb4))
    have HR4 := Bx.mk (heap_alloc_new w3 (.cells #[.int .i64 (vdK R : Nat), .slice aV R.o.length cV, .int .i64 (R.t : Nat)] 39))
    clear hoV hb3 hb4 hI4 HE2 HO2 HB2 HR
    go_upto_region 4 with fail
    generalize w3.alloc (.cells #[.int .i64 (vdK R : Nat), .slice aV R.o.length cV, .int .i64 (R.t : Nat)] 39) = w4 at HE4 HO4 HB4 HR4 HI4 ⊢
    generalize w3.heap.size = gv at HR4 ⊢
    go_wp2_with fail
    refine (whole_yes HE4.out HLK1.out HO4.out HOK1.out HKG.out).mono ?_
    rintro e w5 ⟨aX, cX, rfl, hoX, hb5⟩
    obtain ⟨Q, HQ⟩ : ∃ Q, Bx (vdR L f g O = Q) := ⟨_, ⟨rfl⟩⟩
    rw [HQ.out] at hoX HBU ⊢
    have hb6 : Below w5.heap.size w5 (w5.alloc (.cells #[.int .i64 (vdK Q : Nat), .slice aX Q.o.length cX, .int .i64 (Q.t : Nat)] 39)) := (Below.refl _ _).alloc (Nat.le_refl _) _
    obtain ⟨aY, cY, eY, hI6⟩ := Ls.of_owns ivC_len (owns_below hoX hb6) (orI_len Q.o)
    cases eY
    have HJ6 := Bx.mk hI6
    have HI6 := Bx.mk (HI4.out.below (bstep hb5 hb6))
    have HB := Bx.mk (bstep HB4.out (bstep hb5 hb6))
    have HV6 := Bx.mk (up_row _ _ HR4.out (bstep hb5 hb6))
    have HX6 := Bx.mk (heap_alloc_new w5 (.cells #[.int .i64 (vdK Q : Nat), .slice aX Q.o.length cX, .int .i64 (Q.t : Nat)] 39))
    clear hoX hb5 hb6 hI6 HE4 HO4 HB4 HR4 HI4 HQ
    go_upto_region 7 with fail
    generalize w5.alloc (.cells #[.int .i64 (vdK Q : Nat), .slice aX Q.o.length cX, .int .i64 (Q.t : Nat)] 39) = w6 at HB HV6 HX6 HI6 HJ6 ⊢
    generalize w5.heap.size = gx at HX6 ⊢
    obtain ⟨kR, HKR⟩ : ∃ kR : Nat, Bx (vdK R = kR) := ⟨_, ⟨rfl⟩⟩
    obtain ⟨tv, HTV⟩ : ∃ t : Nat, Bx (R.t = t) := ⟨_, ⟨rfl⟩⟩
    obtain ⟨mv, HMV⟩ : ∃ m : Nat, Bx (R.o.length = m) := ⟨_, ⟨rfl⟩⟩
    have hk4 : ((kR : Int) == 4) = false := beq_false_of_ne (by
      have := HWH.out.1
      rw [← HKR.out]
      unfold vdK
      split <;> omega)
    rw [HTV.out] at HBU
    by_cases hge : (tv : Int) ≤ g
    · have hQR : Q = R := HBU.out.1 (by omega)
      subst hQR
      rw [HKR.out, HTV.out, HMV.out] at HV6 HX6
      rw [HMV.out] at HI6 HJ6
      have x0 := cell_of_row _ gv 0 _ _ (0, 0) HV6.out
      have x1 := cell_of_row _ gv 1 _ _ (0, 0) HV6.out
      have x2 := cell_of_row _ gv 2 _ _ (0, 0) HV6.out
      have y0 := cell_of_row _ gx 0 _ _ (0, 0) HX6.out
      have y1 := cell_of_row _ gx 1 _ _ (0, 0) HX6.out
      have y2 := cell_of_row _ gx 2 _ _ (0, 0) HX6.out
      have hgd : decide ((tv : Int) ≤ g) = true := decide_eq_true hge
      go_wp2_with fail
      refine (refsame18_yes _ _ _ _ _ _ _ _ (orI Q.o) _ HJ6.out HI6.out).mono ?_
      rintro e w7 ⟨rfl, hb7⟩
      have HB7 := Bx.mk (bstep HB.out hb7)
      clear HB hb7 x0 x1 x2 y0 y1 y2
      have HB := HB7
      go_wp2_with fail
      refine (lives18_any _).mono ?_
      rintro e wL ⟨rfl, hbL⟩
      have hfin := bstep HB.out hbL
      clear hbL
      go_wp2_with fail
      go_ret
      exact ⟨rfl, hfin⟩
    · have hQ := HBU.out.2 (by omega)
      have hkQ : vdK Q = 4 := by unfold vdK; rw [hQ.1]; rfl
      have hoQ : Q.o.length = 0 := by rw [hQ.2.1]; rfl
      have htQ : ((Q.t : Nat) : Int) = g := by rw [hQ.2.2]; omega
      rw [hkQ, hoQ, htQ] at HX6
      rw [HKR.out, HTV.out, HMV.out] at HV6
      have x0 := cell_of_row _ gv 0 _ _ (0, 0) HV6.out
      have x2 := cell_of_row _ gv 2 _ _ (0, 0) HV6.out
      have y0 := cell_of_row _ gx 0 _ _ (0, 0) HX6.out
      have y1 := cell_of_row _ gx 1 _ _ (0, 0) HX6.out
      have y2 := cell_of_row _ gx 2 _ _ (0, 0) HX6.out
      have hgd : decide ((tv : Int) ≤ g) = false := decide_eq_false hge
      have hgg : (g == g) = true := by simp
      clear hQ hkQ hoQ htQ
      go_wp2_with fail
      refine (lives18_any _).mono ?_
      rintro e wL ⟨rfl, hbL⟩
      have hfin := bstep HB.out hbL
      clear hbL
      go_wp2_with fail
      go_ret
      exact ⟨rfl, hfin⟩
  · refine (whole_no HE2.out HO2.out hne).mono ?_
    rintro e w3 ⟨rfl, hb3⟩
    have HB : Bx (Below w.heap.size w (w3.alloc (.cells #[.int .i64 0, .slice none 0 0, .int .i64 0] 39))) := ⟨bstep (bstep HB2.out hb3) ((Below.refl _ _).alloc (Nat.le_refl _) _)⟩
    clear hb3 hne
    go_wp2_with fail
    refine (lives18_any _).mono ?_
    rintro e wL ⟨rfl, hbL⟩
    have hfin := bstep HB.out hbL
    clear hbL
    go_wp2_with fail
    go_ret
    exact ⟨rfl, hfin⟩

set_option maxRecDepth 100000 in
theorem lifted (os : Os) (started : os.Started) (H : Type) (enc : TypeId × Value → H) :
    ReturnsInHanded {} Try.checked os 7 .any (Rows.linBudgetSpec.pre6 enc Try.prog Try.f7 Rows.linBudgetRow.domain false) (Rows.linBudgetSpec.post enc Try.prog Try.f7 false true false false) := by
  refine returnsInHanded_of_change (C := Try.checked) own started (by kernel_rfl) Try.func7
    (ChangeSpec.witness6 (enc := enc) (C := Try.checked) false ⟨#[], #[.slice none 0 0, .int .i64 0, .int .i64 0, .slice none 0 0], []⟩ 8 (by kernel_rfl) (by kernel_rfl) (by kernel_rfl) (by kernel_rfl)) ?_
  intro W base args ds gs before hval0 hW hcnd _
  have hval : ∀ (j : Nat) t v, Try.f7.params[j]? = some t → args[j]? = some v → Value.okWide Try.prog W .any base t v := hval0
  have hW' := hW
  obtain ⟨p, q, hA0, hV, rfl, hfz, hnd⟩ := hW
  have hA : DataW.TrodAll enc Try.prog W 0 (fun _ => true) true Try.f7.params.toList args.toList ds p := hA0
  rw [Try.params7] at hA hval
  obtain ⟨v0, vs0, d0, ds0, p0, q0, hargs, rfl, rfl, h0, r0⟩ := trodAll_cons hA
  obtain ⟨v1, vs1, d1, ds1, p1, q1, rfl, rfl, rfl, h1, r1⟩ := trodAll_cons r0
  obtain ⟨v2, vs2, d2, ds2, p2, q2, rfl, rfl, rfl, h2, r2⟩ := trodAll_cons r1
  obtain ⟨v3, vs3, d3, ds3, p3, q3, rfl, rfl, rfl, h3, r3⟩ := trodAll_cons r2
  obtain ⟨rfl, rfl, rfl⟩ := trodAll_nil r3
  obtain rfl : args = #[v0, v1, v2, v3] := by cases args; simp_all
  obtain ⟨rfl, rfl⟩ := trodVars_none hV
  obtain ⟨a0, len0, cap0, rfl⟩ := okWide_slice Try.underlying22 (hval 0 22 v0 rfl rfl)
  obtain ⟨a3, len3, cap3, rfl⟩ := okWide_slice Try.underlying23 (hval 3 23 v3 rfl rfl)
  have k0 := h0
  have lt0 : ∀ x ∈ p0, x.block < W.heap.size := by obtain ⟨m, hm⟩ := k0; exact DataW.trod_lt m _ _ _ hm
  have k1 := h1
  have lt1 : ∀ x ∈ p1, x.block < W.heap.size := by obtain ⟨m, hm⟩ := k1; exact DataW.trod_lt m _ _ _ hm
  have k2 := h2
  have lt2 : ∀ x ∈ p2, x.block < W.heap.size := by obtain ⟨m, hm⟩ := k2; exact DataW.trod_lt m _ _ _ hm
  have k3 := h3
  have lt3 : ∀ x ∈ p3, x.block < W.heap.size := by obtain ⟨m, hm⟩ := k3; exact DataW.trod_lt m _ _ _ hm
  obtain ⟨l, hl⟩ := open_ics h0
  obtain ⟨fuel, rfl, hfuel⟩ := open_i64 (hval 1 3 v1 rfl rfl) h1
  obtain ⟨budget, rfl, hbudget⟩ := open_i64 (hval 2 3 v2 rfl rfl) h2
  obtain ⟨ops, hops⟩ := open_ors h3
  clear hA0 hval0
  refine (walk a0 len0 cap0 l fuel budget a3 len3 cap3 ops W hl hfuel hbudget hops).mono fun e W' ⟨he, bel⟩ => ?_
  subst he
  exact ⟨_, rfl, _, _, _, [], _, [], hW', trodAll_mk1 (shut_bool Try.underlying4 _), (trodAll_cons_mk (Below.trod laidOut (by kernel_rfl) (of_decide_eq_true (by kernel_rfl)) k0 bel lt0) (trodAll_cons_mk (Below.trod laidOut (by kernel_rfl) (of_decide_eq_true (by kernel_rfl)) k1 bel lt1) (trodAll_cons_mk (Below.trod laidOut (by kernel_rfl) (of_decide_eq_true (by kernel_rfl)) k2 bel lt2) (trodAll_cons_mk (Below.trod laidOut (by kernel_rfl) (of_decide_eq_true (by kernel_rfl)) k3 bel lt3) trodAll_mk0)))), rfl, bel.frame _, fun h => by cases h⟩

theorem over : Rows.linBudgetRow.holds Try.pinned (OpenSpec.ofChange Rows.linBudgetSpec) :=
  OpenClaim.holds_of_wide 7 Try.f7 rfl rfl rfl rfl rfl rfl rfl ⟨rfl, rfl, rfl, rfl, rfl⟩ rfl rfl rfl rfl rfl (by kernel_rfl) Try.func7 (by kernel_rfl)
    (of_decide_eq_true (by kernel_rfl)) (by unfold Func.isWrapper; first | (rw [if_pos (by decide +kernel)]; kernel_rfl) | (rw [if_neg (by decide +kernel)]; exact ⟨rfl, rfl⟩))
    (fun os started H enc _ => lifted os started H enc)

/-- the statement -/
theorem proved : Rows.LinBudgetSaid := over
end Go.Proofs.Ytbjeeefkbmdmfaa.linBudget
namespace Go.Proofs.Ytbjeeefkbmdmfaa
theorem linBudget_holds : Rows.LinBudgetSaid := linBudget.proved
#print axioms linBudget_holds
end Go.Proofs.Ytbjeeefkbmdmfaa
