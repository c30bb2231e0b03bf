/- LinBegins: a beginning of a history that fits fits, too. -/
import Derived.Test.YtbjeeefkbmdmfabRows
import Derived.Test.YtbjeeefkbmdmfabOrIn
import Derived.Test.YtbjeeefkbmdmfabEvIn2
import Derived.Test.YtbjeeefkbmdmfabLnm
import Derived.Test.YtbjeeefkbmdmfabLnh
import Derived.Test.YtbjeeefkbmdmfabHOpsW
import Derived.Test.YtbjeeefkbmdmfabLnc
import Derived.Test.YtbjeeefkbmdmfabSma
import Derived.WalkKit
import Derived.ProofKit
import Derived.OpenShut
import Derived.ShutString
import Derived.ChangeOld
import Derived.Below
namespace Go.Proofs.Ytbjeeefkbmdmfab.linBegins
open Go.ChangeShapes Go.WideShapes Go.ChangeAt Go.RowKit
open Go.ChangeMaps (open_string shut_string)
set_option linter.unusedVariables false

theorem own : ownKnob Try.prog.godebug = none := by kernel_rfl
theorem laidOut : laidOutB Try.prog = true := by kernel_rfl

theorem ev_cut {w0 : World} {base n len cap : Nat} {a : Option Addr} {xs : List Value} (h : w0.ownsRow base 54 4 (.slice a len cap) n xs) (q : Nat) (hq : q ≤ cap) (w : World) : (Instr.sliceAt 23 (.slice a len cap) none (some (.int .i64 q)) none).run Try.prog w = .ok (.slice a q cap) w := by
  rw [run_sliceAt_slice w _ _ _ _ _ evs_under, run_slice_h w _ _ len cap evs_under .i64 q (by omega) (by omega), evs_size]
  rcases h.2 with ⟨h1, _⟩ | ⟨g, cap', cur, hv, _⟩
  · cases h1; simp [sliced]
  · cases hv; simp [sliced, Addr.add_lit]
/-- the numbers of a history's operations fit -/
theorem ops_k {L : List Ev} (h : His L) (hk : EvsK L) (hl : L.length ≤ 1000) (N : Nat) (hN : N ≤ L.length) : OrsK (opsL (L.take N)) := fun o ho => by
  obtain ⟨j, e, hj, he⟩ := (ops_inv h N hN).frm o ho
  have h1 := hk.get j (by omega)
  rw [he] at h1
  cases hd : o.d with
  | true =>
    obtain ⟨_, i, e2, hi, he2⟩ := (ops_inv h N hN).don o ho hd
    have h2 := hk.get i (by omega)
    rw [he2] at h2
    exact ⟨h1.c, h1.o, h1.v, h2.v, by rw [e]; unfold V64; omega, by rw [e2]; unfold V64; omega⟩
  | false =>
    obtain ⟨e2, e3⟩ := (ops_inv h N hN).opn o ho hd
    exact ⟨h1.c, h1.o, h1.v, by rw [e3]; unfold V64; omega, by rw [e]; unfold V64; omega, by rw [e2]; unfold V64; omega⟩
theorem ops_lin {L : List Ev} {l : List Ic} {f : Int} (h : His L) (hc : (thr l).2.2 = 0) (hf : 0 ≤ f ∧ f ≤ 300) (N : Nat) (hN : N ≤ L.length) : LinK l f 1048576 (opsL (L.take N)) :=
  ⟨hc, by omega, by omega, by rw [ops_len]; exact cOf_le L h N hN, his_irr h N hN⟩
theorem lin_no {l : List Ic} {f b : Int} {ops : List Opr} (hc : (thr l).2.2 ≠ 0) : linE l f b ops ≠ 0 := by unfold linE; rw [if_pos hc]; exact hc

set_option maxRecDepth 100000 in
set_option maxHeartbeats 8000000 in
theorem walk (a0 : Option Addr) (len0 cap0 : Nat) (l : List Ic) (fuel : Int) (a2 : Option Addr) (len2 cap2 : Nat) (events : List Ev) (n : Int) (w : World) (hl : IcsI w a0 len0 cap0 l) (hfuel : I64 fuel) (hevents : EvsI w a2 len2 cap2 events) (hn : I64 n) :
    Calls Try.prog 3 #[.slice a0 len0 cap0, .int .i64 fuel, .slice a2 len2 cap2, .int .i64 n] w fun e w' => e = .returned (.bool true) ∧ Below w.heap.size w w' := by
  have HL := Bx.mk hl.1
  have HLK := Bx.mk hl.2
  have HEV := Bx.mk hevents.1
  have HEVK := Bx.mk hevents.2
  clear hl hevents
  go_enter Try.func3, Try.ntmps3
  go_wp2_with fail
  refine (few15_any a0 len0 cap0 l _ HL.out).mono ?_
  rintro e w1 ⟨v1, rfl, ho1, hb1⟩
  obtain ⟨L, HLL⟩ : ∃ L, Bx (l.take 210 = L) := ⟨_, ⟨rfl⟩⟩
  have HLK1 : Bx (IcsK L) := ⟨by rw [← HLL.out]; exact HLK.out.take 210⟩
  rw [HLL.out] at ho1
  obtain ⟨aL, cL, rfl, hE1⟩ := Ls.of_owns icC_len ho1 rfl
  have HC1 := Bx.mk hE1
  have HB1 := Bx.mk hb1
  have HEV1 := Bx.mk (HEV.out.below hb1)
  clear ho1 hE1 hb1 HL HLK HLL HEV
  go_wp2_with fail
  refine (few14_any a2 len2 cap2 10 events _ HEV1.out (by decide) (by decide)).mono ?_
  rintro e w2 ⟨v2, rfl, ho2, hb2⟩
  obtain ⟨E, HEE⟩ : ∃ E, Bx (events.take 10 = E) := ⟨_, ⟨rfl⟩⟩
  have HEK : Bx (EvsK E) := ⟨by rw [← HEE.out]; exact HEVK.out.take 10⟩
  have hE10 : E.length ≤ 10 := by rw [← HEE.out, List.length_take]; omega
  rw [HEE.out] at ho2
  have HOW := Bx.mk ho2
  obtain ⟨aE, cE, rfl, hE2⟩ := Ls.of_owns evC_len ho2 rfl
  have HE2 := Bx.mk hE2
  have HC2 := Bx.mk (HC1.out.below hb2)
  have HB2 := Bx.mk (bstep HB1.out hb2)
  have hlc := hE2.le_cap
  clear ho2 hE2 hb2 HEE HEVK HEV1 HC1 HB1
  go_wp2_with fail
  refine (least_any fuel 0 300 _).mono ?_
  rintro e wq ⟨rfl, hw⟩
  subst hw
  have hfb := least_bd fuel 0 300 (by decide)
  generalize leastV fuel 0 300 = f at hfb ⊢
  have HFB := Bx.mk hfb
  go_wp2_with fail
  refine (least_any n 0 (E.length : Int) _).mono ?_
  rintro e wq ⟨rfl, hw⟩
  subst hw
  have hbd := least_bd n 0 (E.length : Int) (by omega)
  obtain ⟨N, HN⟩ : ∃ N : Nat, Bx (leastV n 0 (E.length : Int) = (N : Int)) := ⟨(leastV n 0 (E.length : Int)).toNat, ⟨by omega⟩⟩
  rw [HN.out] at hbd ⊢
  have hNL : N ≤ E.length := by omega
  clear hbd HN hfb
  go_wp2_with fail
  refine (ops_any aE E.length cE E _ HE2.out).mono ?_
  rintro e w3 ⟨v3, rfl, ho3, hb3⟩
  obtain ⟨a3, c3, rfl, hO3⟩ := Ls.of_owns orC_len ho3 rfl
  have HO3 := Bx.mk hO3
  have HE3 := Bx.mk (HE2.out.below hb3)
  have HC3 := Bx.mk (HC2.out.below hb3)
  have HB3 := Bx.mk (bstep HB2.out hb3)
  have hsl := ev_cut HOW.out N (by omega)
  clear ho3 hO3 hb3 HE2 HC2 HB2
  go_wp2_with fail
  refine (ops_any aE N cE (E.take N) _ (HE3.out.take N hNL)).mono ?_
  rintro e w4 ⟨v4, rfl, ho4, hb4⟩
  obtain ⟨a4, c4, rfl, hO4⟩ := Ls.of_owns orC_len ho4 rfl
  have HO4 := Bx.mk hO4
  have HO34 := Bx.mk (HO3.out.below hb4)
  have HC4 := Bx.mk (HC3.out.below hb4)
  have HB4 := Bx.mk (bstep HB3.out hb4)
  clear ho4 hO4 hb4 hsl HO3 HE3 HC3 HB3 hlc
  by_cases hok : (chk E).2 = 0
  · have hok2 : (chk (E.take N)).2 = 0 := His.take (l := E) hok N
    rw [opV_ok hok2] at HO4 ⊢
    rw [opV_ok hok] at HO34 ⊢
    rw [hok, hok2]
    have HHI : Bx (His E) := ⟨hok⟩
    have HKO : Bx (OrsK (opsL E)) := ⟨by have := ops_k HHI.out HEK.out (by omega) E.length (Nat.le_refl _); rwa [List.take_length] at this⟩
    have HKF : Bx (OrsK (opsL (E.take N))) := ⟨ops_k HHI.out HEK.out (by omega) N hNL⟩
    have HBG := Bx.mk (fun hk => vd_begins (l := L) (fu := f) HHI.out hE10 N hNL hk)
    by_cases hc : (thr L).2.2 = 0
    · have HLO : Bx (LinK L f 1048576 (opsL E)) := ⟨by have := ops_lin HHI.out hc HFB.out E.length (Nat.le_refl _); rwa [List.take_length] at this⟩
      have HLF : Bx (LinK L f 1048576 (opsL (E.take N))) := ⟨ops_lin HHI.out hc HFB.out N hNL⟩
      clear hok hok2 hc HHI
      generalize opsL E = O at HO34 HKO HLO HBG ⊢
      generalize opsL (E.take N) = F at HO4 HKF HLF HBG ⊢
      go_wp2_with fail
      refine (whole_yes HC4.out HLK1.out HO34.out HKO.out HLO.out).mono ?_
      rintro e w5 ⟨aV, cV, rfl, hoV, hb5⟩
      obtain ⟨R, HR⟩ : ∃ R, Bx (vdR L f 1048576 O = R) := ⟨_, ⟨rfl⟩⟩
      rw [HR.out] at HBG ⊢
      obtain ⟨kR, HKR⟩ : ∃ kR : Nat, Bx (vdK R = kR) := ⟨_, ⟨rfl⟩⟩
      rw [HKR.out]
      generalize R.o.length = m
      generalize R.t = tR'
      have hb6 : Below w5.heap.size w5 (w5.alloc (.cells #[.int .i64 (kR : Nat), .slice aV m cV, .int .i64 (tR' : Nat)] 34)) := (Below.refl _ _).alloc (Nat.le_refl _) _
      have HC6 := Bx.mk (HC4.out.below (bstep hb5 hb6))
      have HO6 := Bx.mk (HO4.out.below (bstep hb5 hb6))
      have HB6 := Bx.mk (bstep HB4.out (bstep hb5 hb6))
      have HR6 := Bx.mk (heap_alloc_new w5 (.cells #[.int .i64 (kR : Nat), .slice aV m cV, .int .i64 (tR' : Nat)] 34))
      clear hoV hb5 hb6 HC4 HO4 HB4 HO34
      go_upto_region 8 with fail
      generalize w5.alloc (.cells #[.int .i64 (kR : Nat), .slice aV m cV, .int .i64 (tR' : Nat)] 34) = w6 at HC6 HO6 HB6 HR6 ⊢
      generalize w5.heap.size = gv at HR6 ⊢
      go_wp2_with fail
      refine (whole_yes HC6.out HLK1.out HO6.out HKF.out HLF.out).mono ?_
      rintro e w7 ⟨aX, cX, rfl, hoX, hb7⟩
      obtain ⟨Q, HQ⟩ : ∃ Q, Bx (vdR L f 1048576 F = Q) := ⟨_, ⟨rfl⟩⟩
      rw [HQ.out] at HBG ⊢
      obtain ⟨kQ, HKQ⟩ : ∃ kQ : Nat, Bx (vdK Q = kQ) := ⟨_, ⟨rfl⟩⟩
      rw [HKQ.out]
      generalize Q.o.length = mq
      generalize Q.t = tQ
      have hb8 : Below w7.heap.size w7 (w7.alloc (.cells #[.int .i64 (kQ : Nat), .slice aX mq cX, .int .i64 (tQ : Nat)] 34)) := (Below.refl _ _).alloc (Nat.le_refl _) _
      have HV8 := Bx.mk (up_row _ _ HR6.out (bstep hb7 hb8))
      have HB := Bx.mk (bstep HB6.out (bstep hb7 hb8))
      have HX8 := Bx.mk (heap_alloc_new w7 (.cells #[.int .i64 (kQ : Nat), .slice aX mq cX, .int .i64 (tQ : Nat)] 34))
      clear hoX hb7 hb8 HC6 HO6 HB6 HR6
      go_upto_region 9 with fail
      generalize w7.alloc (.cells #[.int .i64 (kQ : Nat), .slice aX mq cX, .int .i64 (tQ : Nat)] 34) = w8 at HV8 HX8 HB ⊢
      generalize w7.heap.size = gx at HX8 ⊢
      have x0 := cell_of_row _ gv 0 _ _ (0, 0) HV8.out
      have y0 := cell_of_row _ gx 0 _ _ (0, 0) HX8.out
      by_cases h1 : R.k = 1
      · have hkR : kR = 1 := by rw [← HKR.out]; unfold vdK; rw [h1]; rfl
        subst hkR
        rcases HBG.out h1 with h2 | h2
        · have hkQ : kQ = 1 := by rw [← HKQ.out]; unfold vdK; rw [h2]; rfl
          subst hkQ
          clear h1 h2
          go_wp2_with fail
          refine (lives18_any _).mono ?_
          rintro e wL ⟨rfl, hbL⟩
          have hfin := bstep HB.out hbL
          clear hbL
          go_wp2_with fail
          go_ret
          exact ⟨rfl, hfin⟩
        · have hkQ : kQ = 3 := by rw [← HKQ.out]; unfold vdK; rw [h2]; rfl
          subst hkQ
          clear h1 h2
          go_wp2_with fail
          refine (lives18_any _).mono ?_
          rintro e wL ⟨rfl, hbL⟩
          have hfin := bstep HB.out hbL
          clear hbL
          go_wp2_with fail
          go_ret
          exact ⟨rfl, hfin⟩
      · have hkR : kR ≠ 1 := by
          rw [← HKR.out]; unfold vdK
          split
          · decide
          · exact h1
        have hq : ((kR : Int) != 1) = true := by simp only [bne_iff_ne, ne_eq]; omega
        clear h1 hkR
        go_wp2_with fail
        refine (lives18_any _).mono ?_
        rintro e wL ⟨rfl, hbL⟩
        have hfin := bstep HB.out hbL
        clear hbL
        go_wp2_with fail
        go_ret
        exact ⟨rfl, hfin⟩
    · have HC := Bx.mk hc
      clear hok hok2 hc HHI HBG
      generalize opsL E = O at HO34 HKO ⊢
      generalize opsL (E.take N) = F at HO4 HKF ⊢
      go_wp2_with fail
      refine (whole_no HC4.out HO34.out (lin_no HC.out)).mono ?_
      rintro e w5 ⟨rfl, hb5⟩
      have hb6 : Below w5.heap.size w5 (w5.alloc (.cells #[.int .i64 0, .slice none 0 0, .int .i64 0] 34)) := (Below.refl _ _).alloc (Nat.le_refl _) _
      have HC6 := Bx.mk (HC4.out.below (bstep hb5 hb6))
      have HO6 := Bx.mk (HO4.out.below (bstep hb5 hb6))
      have HB6 := Bx.mk (bstep HB4.out (bstep hb5 hb6))
      have HR6 := Bx.mk (heap_alloc_new w5 (.cells #[.int .i64 0, .slice none 0 0, .int .i64 0] 34))
      clear hb5 hb6 HC4 HO4 HB4 HO34
      go_upto_region 8 with fail
      generalize w5.alloc (.cells #[.int .i64 0, .slice none 0 0, .int .i64 0] 34) = w6 at HC6 HO6 HB6 HR6 ⊢
      generalize w5.heap.size = gv at HR6 ⊢
      go_wp2_with fail
      refine (whole_no HC6.out HO6.out (lin_no HC.out)).mono ?_
      rintro e w7 ⟨rfl, hb7⟩
      have hb8 : Below w7.heap.size w7 (w7.alloc (.cells #[.int .i64 0, .slice none 0 0, .int .i64 0] 34)) := (Below.refl _ _).alloc (Nat.le_refl _) _
      have HV8 := Bx.mk (up_row _ _ HR6.out (bstep hb7 hb8))
      have HB := Bx.mk (bstep HB6.out (bstep hb7 hb8))
      clear hb7 hb8 HC6 HO6 HB6 HR6
      go_upto_region 9 with fail
      generalize w7.alloc (.cells #[.int .i64 0, .slice none 0 0, .int .i64 0] 34) = w8 at HV8 HB ⊢
      have x0 := cell_of_row _ gv 0 _ _ (0, 0) HV8.out
      go_wp2_with fail
      refine (lives18_any _).mono ?_
      rintro e wL ⟨rfl, hbL⟩
      have hfin := bstep HB.out hbL
      clear hbL
      go_wp2_with fail
      go_ret
      exact ⟨rfl, hfin⟩
  · have hq : ((chk E).2 != 0) = true := by simpa using hok
    generalize (chk E).2 = er at hq ⊢
    generalize (chk (E.take N)).2 = er2
    generalize (opV E).length = mo
    generalize (opV (E.take N)).length = mo2
    have HB := HB4
    clear hok
    go_wp2_with fail
    refine (lives18_any _).mono ?_
    rintro e wL ⟨rfl, hbL⟩
    have hfin := bstep HB.out hbL
    clear hbL
    go_wp2_with fail
    go_ret
    exact ⟨rfl, hfin⟩

set_option maxRecDepth 100000 in
theorem lifted (os : Os) (started : os.Started) (H : Type) (enc : TypeId × Value → H) :
    ReturnsInHanded {} Try.checked os 3 .any (Rows.linBeginsSpec.pre6 enc Try.prog Try.f3 Rows.linBeginsRow.domain false) (Rows.linBeginsSpec.post enc Try.prog Try.f3 false true false false) := by
  refine returnsInHanded_of_change (C := Try.checked) own started (by kernel_rfl) Try.func3
    (ChangeSpec.witness6 (enc := enc) (C := Try.checked) false ⟨#[], #[.slice none 0 0, .int .i64 0, .slice none 0 0, .int .i64 0], []⟩ 8 (by kernel_rfl) (by kernel_rfl) (by kernel_rfl) (by kernel_rfl)) ?_
  intro W base args ds gs before hval0 hW hcnd _
  have hval : ∀ (j : Nat) t v, Try.f3.params[j]? = some t → args[j]? = some v → Value.okWide Try.prog W .any base t v := hval0
  have hW' := hW
  obtain ⟨p, q, hA0, hV, rfl, hfz, hnd⟩ := hW
  have hA : DataW.TrodAll enc Try.prog W 0 (fun _ => true) true Try.f3.params.toList args.toList ds p := hA0
  rw [Try.params3] at hA hval
  obtain ⟨v0, vs0, d0, ds0, p0, q0, hargs, rfl, rfl, h0, r0⟩ := trodAll_cons hA
  obtain ⟨v1, vs1, d1, ds1, p1, q1, rfl, rfl, rfl, h1, r1⟩ := trodAll_cons r0
  obtain ⟨v2, vs2, d2, ds2, p2, q2, rfl, rfl, rfl, h2, r2⟩ := trodAll_cons r1
  obtain ⟨v3, vs3, d3, ds3, p3, q3, rfl, rfl, rfl, h3, r3⟩ := trodAll_cons r2
  obtain ⟨rfl, rfl, rfl⟩ := trodAll_nil r3
  obtain rfl : args = #[v0, v1, v2, v3] := by cases args; simp_all
  obtain ⟨rfl, rfl⟩ := trodVars_none hV
  obtain ⟨a0, len0, cap0, rfl⟩ := okWide_slice Try.underlying22 (hval 0 22 v0 rfl rfl)
  obtain ⟨a2, len2, cap2, rfl⟩ := okWide_slice Try.underlying23 (hval 2 23 v2 rfl rfl)
  have k0 := h0
  have lt0 : ∀ x ∈ p0, x.block < W.heap.size := by obtain ⟨m, hm⟩ := k0; exact DataW.trod_lt m _ _ _ hm
  have k1 := h1
  have lt1 : ∀ x ∈ p1, x.block < W.heap.size := by obtain ⟨m, hm⟩ := k1; exact DataW.trod_lt m _ _ _ hm
  have k2 := h2
  have lt2 : ∀ x ∈ p2, x.block < W.heap.size := by obtain ⟨m, hm⟩ := k2; exact DataW.trod_lt m _ _ _ hm
  have k3 := h3
  have lt3 : ∀ x ∈ p3, x.block < W.heap.size := by obtain ⟨m, hm⟩ := k3; exact DataW.trod_lt m _ _ _ hm
  obtain ⟨l, hl⟩ := open_ics h0
  obtain ⟨fuel, rfl, hfuel⟩ := open_i64 (hval 1 3 v1 rfl rfl) h1
  obtain ⟨events, hevents⟩ := open_evs h2
  obtain ⟨n, rfl, hn⟩ := open_i64 (hval 3 3 v3 rfl rfl) h3
  clear hA0 hval0
  refine (walk a0 len0 cap0 l fuel a2 len2 cap2 events n W hl hfuel hevents hn).mono fun e W' ⟨he, bel⟩ => ?_
  subst he
  exact ⟨_, rfl, _, _, _, [], _, [], hW', trodAll_mk1 (shut_bool Try.underlying4 _), (trodAll_cons_mk (Below.trod laidOut (by kernel_rfl) (of_decide_eq_true (by kernel_rfl)) k0 bel lt0) (trodAll_cons_mk (Below.trod laidOut (by kernel_rfl) (of_decide_eq_true (by kernel_rfl)) k1 bel lt1) (trodAll_cons_mk (Below.trod laidOut (by kernel_rfl) (of_decide_eq_true (by kernel_rfl)) k2 bel lt2) (trodAll_cons_mk (Below.trod laidOut (by kernel_rfl) (of_decide_eq_true (by kernel_rfl)) k3 bel lt3) trodAll_mk0)))), rfl, bel.frame _, fun h => by cases h⟩

theorem over : Rows.linBeginsRow.holds Try.pinned (OpenSpec.ofChange Rows.linBeginsSpec) :=
  OpenClaim.holds_of_wide 3 Try.f3 rfl rfl rfl rfl rfl rfl rfl ⟨rfl, rfl, rfl, rfl, rfl⟩ rfl rfl rfl rfl rfl (by kernel_rfl) Try.func3 (by kernel_rfl)
    (of_decide_eq_true (by kernel_rfl)) (by unfold Func.isWrapper; first | (rw [if_pos (by decide +kernel)]; kernel_rfl) | (rw [if_neg (by decide +kernel)]; exact ⟨rfl, rfl⟩))
    (fun os started H enc _ => lifted os started H enc)

/-- the statement -/
theorem proved : Rows.LinBeginsSaid := over
end Go.Proofs.Ytbjeeefkbmdmfab.linBegins
namespace Go.Proofs.Ytbjeeefkbmdmfab
theorem linBegins_holds : Rows.LinBeginsSaid := linBegins.proved
#print axioms linBegins_holds
end Go.Proofs.Ytbjeeefkbmdmfab
