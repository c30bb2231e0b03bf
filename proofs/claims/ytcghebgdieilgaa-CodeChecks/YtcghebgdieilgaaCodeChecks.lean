/- CodeChecks: which instructions fit together, or where and why not; how deep the stack is at each place; they stay. -/
import Derived.Test.YtcghebgdieilgaaRows
import Derived.Test.YtcghebgdieilgaaInsIn
import Derived.Test.YtcghebgdieilgaaRCThr
import Derived.Test.YtcghebgdieilgaaCFew
import Derived.Test.YtcghebgdieilgaaCLiv
import Derived.WalkKit
import Derived.ProofKit
import Derived.OpenShut
import Derived.ShutString
import Derived.ChangeOld
import Derived.Below
namespace Go.Proofs.Ytcghebgdieilgaa.codeChecks
open Go.ChangeShapes Go.WideShapes Go.ChangeAt Go.RowKit
open Go.ChangeMaps (open_string shut_string)
set_option linter.unusedVariables false

theorem own : ownKnob Try.prog.godebug = none := by kernel_rfl
theorem laidOut : laidOutB Try.prog = true := by kernel_rfl


set_option maxRecDepth 100000 in
set_option maxHeartbeats 4000000 in
theorem walk (a0 : Option Addr) (len0 cap0 : Nat) (l : List Ic) (w : World) (hl : IcsI w a0 len0 cap0 l) :
    Calls Try.prog 4 #[.slice a0 len0 cap0] w fun e w' => e = .returned (.bool true) ∧ Below w.heap.size w w' := by
  have HL := Bx.mk hl.1
  clear hl
  go_enter Try.func4, Try.ntmps4
  go_wp2_with fail
  refine (few15_any a0 len0 cap0 l _ HL.out).mono ?_
  rintro e w1 ⟨v1, rfl, ho1, hb1⟩
  obtain ⟨L, HLL⟩ : ∃ L, Bx (l.take 210 = L) := ⟨_, ⟨rfl⟩⟩
  rw [HLL.out] at ho1
  obtain ⟨a1, c1, rfl, hE1⟩ := Ls.of_owns icC_len ho1 rfl
  have HTK : Bx (L.take 210 = L) := ⟨by rw [← HLL.out, List.take_take]; simp⟩
  have HE1 := Bx.mk hE1
  have HB1 := Bx.mk hb1
  clear ho1 hE1 hb1
  go_wp2_with fail
  refine (few15_any a1 L.length c1 L _ HE1.out).mono ?_
  rintro e w2 ⟨v2, rfl, ho2, hb2⟩
  rw [HTK.out] at ho2
  obtain ⟨a2, c2, rfl, hE2⟩ := Ls.of_owns icC_len ho2 rfl
  have HE2 := Bx.mk hE2
  have HE12 := Bx.mk (HE1.out.below hb2)
  have HB2 := Bx.mk (bstep HB1.out hb2)
  clear ho2 hE2 hb2
  go_wp2_with fail
  refine (check15_any a2 L.length c2 L _ HE2.out).mono ?_
  rintro e w3 ⟨rfl, hb3⟩
  have HE13 := Bx.mk (HE12.out.below hb3)
  have HE23 := Bx.mk (HE2.out.below hb3)
  have HB3 := Bx.mk (bstep HB2.out hb3)
  clear hb3
  go_wp2_with fail
  refine (refthrough_any a1 L.length c1 L _ HE13.out).mono ?_
  intro e w4 hm4
  obtain ⟨v4, rfl, ho4, hb4⟩ := hm4
  obtain ⟨a4, c4, rfl, hD4⟩ := Ls.of_owns ivC_len ho4 rfl
  have HD4 := Bx.mk hD4
  have HE14 := Bx.mk (HE13.out.below hb4)
  have HE24 := Bx.mk (HE23.out.below hb4)
  have HB4 := Bx.mk (bstep HB3.out hb4)
  clear hb4 ho4 hD4
  generalize (thr L).2.1 = cp
  generalize (thr L).2.2 = ce
  go_wp2_with fail
  refine (depths_any a2 L.length c2 L _ HE24.out).mono ?_
  rintro e w5 ⟨v5, rfl, ho5, hb5⟩
  obtain ⟨a5, c5, rfl, hD5⟩ := Ls.of_owns ivC_len ho5 rfl
  have HD5 := Bx.mk hD5
  have HD45 := Bx.mk (HD4.out.below hb5)
  have HE15 := Bx.mk (HE14.out.below hb5)
  have HE25 := Bx.mk (HE24.out.below hb5)
  have HB5 := Bx.mk (bstep HB4.out hb5)
  clear hb5 ho5 hD5
  go_wp2_with fail
  refine (ints15_yes a5 a4 _ _ c5 c4 (thr L).1 _ HD5.out HD45.out).mono ?_
  rintro e w6 ⟨rfl, hb6⟩
  have HE16 := Bx.mk (HE15.out.below hb6)
  have HE26 := Bx.mk (HE25.out.below hb6)
  have HB6 := Bx.mk (bstep HB5.out hb6)
  clear hb6
  go_wp2_with fail
  refine (same15_yes a2 a1 _ _ c2 c1 L _ HE26.out HE16.out).mono ?_
  rintro e w7 ⟨rfl, hb7⟩
  have HB7 := Bx.mk (bstep HB6.out hb7)
  clear hb7
  go_wp2_with fail
  refine (lives15_any _).mono ?_
  rintro e w8 ⟨rfl, hb8⟩
  have hfin := bstep HB7.out hb8
  go_wp2_with fail
  go_ret
  exact ⟨rfl, hfin⟩

set_option maxRecDepth 100000 in
theorem lifted (os : Os) (started : os.Started) (H : Type) (enc : TypeId × Value → H) :
    ReturnsInHanded {} Try.checked os 4 .any (Rows.codeChecksSpec.pre6 enc Try.prog Try.f4 Rows.codeChecksRow.domain false) (Rows.codeChecksSpec.post enc Try.prog Try.f4 false true false false) := by
  refine returnsInHanded_of_change (C := Try.checked) own started (by kernel_rfl) Try.func4
    (ChangeSpec.witness6 (enc := enc) (C := Try.checked) false ⟨#[], #[.slice none 0 0], []⟩ 8 (by kernel_rfl) (by kernel_rfl) (by kernel_rfl) (by kernel_rfl)) ?_
  intro W base args ds gs before hval0 hW hcnd _
  have hval : ∀ (j : Nat) t v, Try.f4.params[j]? = some t → args[j]? = some v → Value.okWide Try.prog W .any base t v := hval0
  have hW' := hW
  obtain ⟨p, q, hA0, hV, rfl, hfz, hnd⟩ := hW
  have hA : DataW.TrodAll enc Try.prog W 0 (fun _ => true) true Try.f4.params.toList args.toList ds p := hA0
  rw [Try.params4] at hA hval
  obtain ⟨v0, vs0, d0, ds0, p0, q0, hargs, rfl, rfl, h0, r0⟩ := trodAll_cons hA
  obtain ⟨rfl, rfl, rfl⟩ := trodAll_nil r0
  obtain rfl : args = #[v0] := by cases args; simp_all
  obtain ⟨rfl, rfl⟩ := trodVars_none hV
  obtain ⟨a0, len0, cap0, rfl⟩ := okWide_slice Try.underlying25 (hval 0 25 v0 rfl rfl)
  have k0 := h0
  have lt0 : ∀ x ∈ p0, x.block < W.heap.size := by obtain ⟨m, hm⟩ := k0; exact DataW.trod_lt m _ _ _ hm
  obtain ⟨l, hl⟩ := open_ics h0
  clear hA0 hval0
  refine (walk a0 len0 cap0 l W hl).mono fun e W' ⟨he, bel⟩ => ?_
  subst he
  exact ⟨_, rfl, _, _, _, [], _, [], hW', trodAll_mk1 (shut_bool Try.underlying4 _), (trodAll_cons_mk (Below.trod laidOut (by kernel_rfl) (of_decide_eq_true (by kernel_rfl)) k0 bel lt0) trodAll_mk0), rfl, bel.frame _, fun h => by cases h⟩

theorem over : Rows.codeChecksRow.holds Try.pinned (OpenSpec.ofChange Rows.codeChecksSpec) :=
  OpenClaim.holds_of_wide 4 Try.f4 rfl rfl rfl rfl rfl rfl rfl ⟨rfl, rfl, rfl, rfl, rfl⟩ rfl rfl rfl rfl rfl (by kernel_rfl) Try.func4 (by kernel_rfl)
    (of_decide_eq_true (by kernel_rfl)) (by unfold Func.isWrapper; first | (rw [if_pos (by decide +kernel)]; kernel_rfl) | (rw [if_neg (by decide +kernel)]; exact ⟨rfl, rfl⟩))
    (fun os started H enc _ => lifted os started H enc)

/-- the statement -/
theorem proved : Rows.CodeChecksSaid := over
end Go.Proofs.Ytcghebgdieilgaa.codeChecks
namespace Go.Proofs.Ytcghebgdieilgaa
theorem codeChecks_holds : Rows.CodeChecksSaid := codeChecks.proved
#print axioms codeChecks_holds
end Go.Proofs.Ytcghebgdieilgaa
