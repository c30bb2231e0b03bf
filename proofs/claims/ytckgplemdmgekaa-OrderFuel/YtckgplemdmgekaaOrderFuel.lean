/- OrderFuel: what is an order is one with more fuel, too. -/
import Derived.Test.YtckgplemdmgekaaRows
import Derived.Test.YtckgplemdmgekaaOrIn
import Derived.Test.YtckgplemdmgekaaOLives
import Derived.Test.YtckgplemdmgekaaOFew
import Derived.Test.YtckgplemdmgekaaLeast
import Derived.WalkKit
import Derived.ProofKit
import Derived.OpenShut
import Derived.ShutString
import Derived.ChangeOld
import Derived.Below
namespace Go.Proofs.Ytckgplemdmgekaa.orderFuel
open Go.ChangeShapes Go.WideShapes Go.ChangeAt Go.RowKit
open Go.ChangeMaps (open_string shut_string)
set_option linter.unusedVariables false

theorem own : ownKnob Try.prog.godebug = none := by kernel_rfl
theorem laidOut : laidOutB Try.prog = true := by kernel_rfl


set_option maxRecDepth 100000 in
set_option maxHeartbeats 8000000 in
theorem walk (a0 : Option Addr) (len0 cap0 : Nat) (l : List Ic) (fuel : Int) (more : Int) (a3 : Option Addr) (len3 cap3 : Nat) (ops : List Opr) (a4 : Option Addr) (len4 cap4 : Nat) (o : List Int) (w : World) (hl : IcsI w a0 len0 cap0 l) (hfuel : I64 fuel) (hmore : I64 more) (hops : OrsI w a3 len3 cap3 ops) (ho : IvsI w a4 len4 cap4 o) :
    Calls Try.prog 5 #[.slice a0 len0 cap0, .int .i64 fuel, .int .i64 more, .slice a3 len3 cap3, .slice a4 len4 cap4] w fun e w' => e = .returned (.bool true) ∧ Below w.heap.size w w' := by
  have HL := Bx.mk hl.1
  have HLK := Bx.mk hl.2
  have HOP := Bx.mk hops.1
  have HOPK := Bx.mk hops.2
  have HIO := Bx.mk ho.1
  clear hl hops ho
  go_enter Try.func5, Try.ntmps5
  go_wp2_with fail
  refine (few15_any a0 len0 cap0 l _ HL.out).mono ?_
  rintro e w1 ⟨v1, rfl, ho1, hb1⟩
  obtain ⟨L, HLL⟩ : ∃ L, Bx (l.take 210 = L) := ⟨_, ⟨rfl⟩⟩
  have HLK1 : Bx (IcsK L) := ⟨by rw [← HLL.out]; exact HLK.out.take 210⟩
  have HLN : Bx (L.length ≤ 210) := ⟨by rw [← HLL.out, List.length_take]; omega⟩
  rw [HLL.out] at ho1
  obtain ⟨aL, cL, rfl, hE1⟩ := Ls.of_owns icC_len ho1 rfl
  have HE1 := Bx.mk hE1
  have HB1 := Bx.mk hb1
  have HOP1 := Bx.mk (HOP.out.below hb1)
  have HIO1 := Bx.mk (HIO.out.below hb1)
  clear ho1 hE1 hb1 HL HLK HLL HOP HIO
  go_wp2_with fail
  refine (few17_any a3 len3 cap3 64 ops _ HOP1.out (by decide) (by decide)).mono ?_
  rintro e w2 ⟨v2, rfl, ho2, hb2⟩
  obtain ⟨O, HOO⟩ : ∃ O, Bx (ops.take 64 = O) := ⟨_, ⟨rfl⟩⟩
  have HOK1 : Bx (OrsK O) := ⟨by rw [← HOO.out]; exact HOPK.out.take 64⟩
  have HON : Bx (O.length ≤ 64) := ⟨by rw [← HOO.out, List.length_take]; omega⟩
  rw [HOO.out] at ho2
  obtain ⟨aO, cO, rfl, hE2⟩ := Ls.of_owns orC_len ho2 rfl
  have HO2 := Bx.mk hE2
  have HE2 := Bx.mk (HE1.out.below hb2)
  have HB2 := Bx.mk (bstep HB1.out hb2)
  have HIO2 := Bx.mk (HIO1.out.below hb2)
  clear ho2 hE2 hb2 HE1 HB1 HOP1 HIO1 HOPK HOO
  go_wp2_with fail
  refine (ints17_any a4 len4 cap4 64 o _ HIO2.out (by decide) (by decide)).mono ?_
  rintro e w3 ⟨v3, rfl, ho3, hb3⟩
  obtain ⟨J, HJJ⟩ : ∃ J, Bx (o.take 64 = J) := ⟨_, ⟨rfl⟩⟩
  have HJN : Bx (J.length ≤ 64) := ⟨by rw [← HJJ.out, List.length_take]; omega⟩
  rw [HJJ.out] at ho3
  have HOW3 := Bx.mk ho3
  obtain ⟨aJ, cJ, rfl, hE3⟩ := Ls.of_owns ivC_len ho3 rfl
  have HI3 := Bx.mk hE3
  have HE3 := Bx.mk (HE2.out.below hb3)
  have HO3 := Bx.mk (HO2.out.below hb3)
  have HB3 := Bx.mk (bstep HB2.out hb3)
  skip
  clear ho3 hE3 hb3 HE2 HO2 HB2 HIO2 HJJ
  go_wp2_with fail
  refine (least_any fuel 0 300 _).mono ?_
  rintro e wq ⟨rfl, hw⟩
  subst hw
  have hfb := least_bd fuel 0 300 (by decide)
  generalize leastV fuel 0 300 = f at hfb ⊢
  go_wp2_with fail
  refine (least_any more 0 300 _).mono ?_
  rintro e wq ⟨rfl, hw⟩
  subst hw
  have hgb := least_bd more 0 300 (by decide)
  generalize leastV more 0 300 = g at hgb ⊢
  have hwr : IntKind.i64.wrap (f + g) = f + g := by rw [w64_wrap]; exact w64_id (by unfold V64; omega)
  have HMO := Bx.mk (ord_more (l := L) (ops := O) (o := J) (f := f) (e := f + g) (by omega) (by omega) (by omega))
  have HVF : Bx (V64 f ∧ V64 (f + g)) := ⟨by unfold V64; omega⟩
  go_wp2_with fail
  refine (check17_any _ _ _ _ _ _ _ _ _ L f O J _ HE3.out HLK1.out HVF.out.1 HO3.out HOK1.out HI3.out).mono ?_
  rintro e w4 ⟨rfl, hb4⟩
  have HE4 := Bx.mk (HE3.out.below hb4)
  have HO4 := Bx.mk (HO3.out.below hb4)
  have HI4 := Bx.mk (HI3.out.below hb4)
  have HB4 := Bx.mk (bstep HB3.out hb4)
  clear hb4 HE3 HO3 HI3 HB3
  go_wp2_with fail
  refine (check17_any _ _ _ _ _ _ _ _ _ L (f + g) O J _ HE4.out HLK1.out HVF.out.2 HO4.out HOK1.out HI4.out).mono ?_
  rintro e w5 ⟨rfl, hb5⟩
  have HB := Bx.mk (bstep HB4.out hb5)
  clear hb5 HE4 HO4 HI4 HB4
  generalize ordE L f O J = ra at HMO ⊢
  generalize ordE L (f + g) O J = rb at HMO ⊢
  by_cases hab : ra = rb
  · subst hab
    have hq1 : (ra == ra) = true := by simp
    by_cases ha0 : ra = 0
    · subst ha0
      go_wp2_with fail
      refine (lives17_any _).mono ?_
      rintro e wL ⟨rfl, hbL⟩
      have hfin := bstep HB.out hbL
      go_wp2_with fail
      go_ret
      exact ⟨rfl, hfin⟩
    · have hq2 : (ra != 0) = true := by simpa using ha0
      go_wp2_with fail
      refine (lives17_any _).mono ?_
      rintro e wL ⟨rfl, hbL⟩
      have hfin := bstep HB.out hbL
      go_wp2_with fail
      go_ret
      exact ⟨rfl, hfin⟩
  · have hra : ra = 18 := by
      rcases HMO.out with h | h
      · exact h
      · exact absurd h.symm hab
    subst hra
    have hq1 : ((18 : Int) == rb) = false := beq_false_of_ne hab
    clear hab
    go_wp2_with fail
    refine (lives17_any _).mono ?_
    rintro e wL ⟨rfl, hbL⟩
    have hfin := bstep HB.out hbL
    go_wp2_with fail
    go_ret
    exact ⟨rfl, hfin⟩

set_option maxRecDepth 100000 in
theorem lifted (os : Os) (started : os.Started) (H : Type) (enc : TypeId × Value → H) :
    ReturnsInHanded {} Try.checked os 5 .any (Rows.orderFuelSpec.pre6 enc Try.prog Try.f5 Rows.orderFuelRow.domain false) (Rows.orderFuelSpec.post enc Try.prog Try.f5 false true false false) := by
  refine returnsInHanded_of_change (C := Try.checked) own started (by kernel_rfl) Try.func5
    (ChangeSpec.witness6 (enc := enc) (C := Try.checked) false ⟨#[], #[.slice none 0 0, .int .i64 0, .int .i64 0, .slice none 0 0, .slice none 0 0], []⟩ 8 (by kernel_rfl) (by kernel_rfl) (by kernel_rfl) (by kernel_rfl)) ?_
  intro W base args ds gs before hval0 hW hcnd _
  have hval : ∀ (j : Nat) t v, Try.f5.params[j]? = some t → args[j]? = some v → Value.okWide Try.prog W .any base t v := hval0
  have hW' := hW
  obtain ⟨p, q, hA0, hV, rfl, hfz, hnd⟩ := hW
  have hA : DataW.TrodAll enc Try.prog W 0 (fun _ => true) true Try.f5.params.toList args.toList ds p := hA0
  rw [Try.params5] at hA hval
  obtain ⟨v0, vs0, d0, ds0, p0, q0, hargs, rfl, rfl, h0, r0⟩ := trodAll_cons hA
  obtain ⟨v1, vs1, d1, ds1, p1, q1, rfl, rfl, rfl, h1, r1⟩ := trodAll_cons r0
  obtain ⟨v2, vs2, d2, ds2, p2, q2, rfl, rfl, rfl, h2, r2⟩ := trodAll_cons r1
  obtain ⟨v3, vs3, d3, ds3, p3, q3, rfl, rfl, rfl, h3, r3⟩ := trodAll_cons r2
  obtain ⟨v4, vs4, d4, ds4, p4, q4, rfl, rfl, rfl, h4, r4⟩ := trodAll_cons r3
  obtain ⟨rfl, rfl, rfl⟩ := trodAll_nil r4
  obtain rfl : args = #[v0, v1, v2, v3, v4] := by cases args; simp_all
  obtain ⟨rfl, rfl⟩ := trodVars_none hV
  obtain ⟨a0, len0, cap0, rfl⟩ := okWide_slice Try.underlying22 (hval 0 22 v0 rfl rfl)
  obtain ⟨a3, len3, cap3, rfl⟩ := okWide_slice Try.underlying23 (hval 3 23 v3 rfl rfl)
  obtain ⟨a4, len4, cap4, rfl⟩ := okWide_slice Try.underlying24 (hval 4 24 v4 rfl rfl)
  have k0 := h0
  have lt0 : ∀ x ∈ p0, x.block < W.heap.size := by obtain ⟨m, hm⟩ := k0; exact DataW.trod_lt m _ _ _ hm
  have k1 := h1
  have lt1 : ∀ x ∈ p1, x.block < W.heap.size := by obtain ⟨m, hm⟩ := k1; exact DataW.trod_lt m _ _ _ hm
  have k2 := h2
  have lt2 : ∀ x ∈ p2, x.block < W.heap.size := by obtain ⟨m, hm⟩ := k2; exact DataW.trod_lt m _ _ _ hm
  have k3 := h3
  have lt3 : ∀ x ∈ p3, x.block < W.heap.size := by obtain ⟨m, hm⟩ := k3; exact DataW.trod_lt m _ _ _ hm
  have k4 := h4
  have lt4 : ∀ x ∈ p4, x.block < W.heap.size := by obtain ⟨m, hm⟩ := k4; exact DataW.trod_lt m _ _ _ hm
  obtain ⟨l, hl⟩ := open_ics h0
  obtain ⟨fuel, rfl, hfuel⟩ := open_i64 (hval 1 3 v1 rfl rfl) h1
  obtain ⟨more, rfl, hmore⟩ := open_i64 (hval 2 3 v2 rfl rfl) h2
  obtain ⟨ops, hops⟩ := open_ors h3
  obtain ⟨o, ho⟩ := open_ivs h4
  clear hA0 hval0
  refine (walk a0 len0 cap0 l fuel more a3 len3 cap3 ops a4 len4 cap4 o W hl hfuel hmore hops ho).mono fun e W' ⟨he, bel⟩ => ?_
  subst he
  exact ⟨_, rfl, _, _, _, [], _, [], hW', trodAll_mk1 (shut_bool Try.underlying4 _), (trodAll_cons_mk (Below.trod laidOut (by kernel_rfl) (of_decide_eq_true (by kernel_rfl)) k0 bel lt0) (trodAll_cons_mk (Below.trod laidOut (by kernel_rfl) (of_decide_eq_true (by kernel_rfl)) k1 bel lt1) (trodAll_cons_mk (Below.trod laidOut (by kernel_rfl) (of_decide_eq_true (by kernel_rfl)) k2 bel lt2) (trodAll_cons_mk (Below.trod laidOut (by kernel_rfl) (of_decide_eq_true (by kernel_rfl)) k3 bel lt3) (trodAll_cons_mk (Below.trod laidOut (by kernel_rfl) (of_decide_eq_true (by kernel_rfl)) k4 bel lt4) trodAll_mk0))))), rfl, bel.frame _, fun h => by cases h⟩

theorem over : Rows.orderFuelRow.holds Try.pinned (OpenSpec.ofChange Rows.orderFuelSpec) :=
  OpenClaim.holds_of_wide 5 Try.f5 rfl rfl rfl rfl rfl rfl rfl ⟨rfl, rfl, rfl, rfl, rfl⟩ rfl rfl rfl rfl rfl (by kernel_rfl) Try.func5 (by kernel_rfl)
    (of_decide_eq_true (by kernel_rfl)) (by unfold Func.isWrapper; first | (rw [if_pos (by decide +kernel)]; kernel_rfl) | (rw [if_neg (by decide +kernel)]; exact ⟨rfl, rfl⟩))
    (fun os started H enc _ => lifted os started H enc)

/-- the statement -/
theorem proved : Rows.OrderFuelSaid := over
end Go.Proofs.Ytckgplemdmgekaa.orderFuel
namespace Go.Proofs.Ytckgplemdmgekaa
theorem orderFuel_holds : Rows.OrderFuelSaid := orderFuel.proved
#print axioms orderFuel_holds
end Go.Proofs.Ytckgplemdmgekaa
