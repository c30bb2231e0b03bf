/- LinEnough: how many tries are enough of any number of operations. -/
import Derived.Test.YtbjeeefkbmdmfaaRows
import Derived.Test.YtbjeeefkbmdmfaaOrIn
import Derived.Test.YtbjeeefkbmdmfaaLnm
import Derived.Test.YtbjeeefkbmdmfaaTmEnough
import Derived.Test.YtbjeeefkbmdmfaaRLin2
import Derived.Test.YtbjeeefkbmdmfaaSma
import Derived.WalkKit
import Derived.ProofKit
import Derived.OpenShut
import Derived.ShutString
import Derived.ChangeOld
import Derived.Below
namespace Go.Proofs.Ytbjeeefkbmdmfaa.linEnough
open Go.ChangeShapes Go.WideShapes Go.ChangeAt Go.RowKit
open Go.ChangeMaps (open_string shut_string)
set_option linter.unusedVariables false

theorem own : ownKnob Try.prog.godebug = none := by kernel_rfl
theorem laidOut : laidOutB Try.prog = true := by kernel_rfl


set_option maxRecDepth 100000 in
set_option maxHeartbeats 8000000 in
theorem walk (n : Int) (w : World) (hn : I64 n) :
    Calls Try.prog 8 #[.int .i64 n] w fun e w' => e = .returned (.bool true) ∧ Below w.heap.size w w' := by
  have HV : Bx (V64 n) := ⟨hn⟩
  have HB : Bx (Below w.heap.size w w) := ⟨Below.refl _ _⟩
  clear hn
  go_enter Try.func8, Try.ntmps8
  go_wp2_with fail
  refine (least_any n 0 100 _).mono ?_
  rintro e wq ⟨rfl, hw⟩
  subst hw
  have hmb := least_bd n 0 100 (by decide)
  generalize leastV n 0 100 = m at hmb ⊢
  have hwr : IntKind.i64.wrap (m + 1) = m + 1 := by rw [w64_wrap]; exact w64_id (by unfold V64; omega)
  have HMV : Bx (V64 m ∧ V64 (m + 1)) := ⟨by unfold V64; omega⟩
  have HMO := Bx.mk (enZ_mono (show m ≤ m + 1 by omega))
  go_wp2_with fail
  refine (enough_any n _ HV.out).mono ?_
  rintro e w1 ⟨rfl, hw⟩
  obtain rfl : w = w1 := hw.symm
  clear hw
  obtain ⟨a, HA⟩ : ∃ a, Bx (enZ n = a) := ⟨_, ⟨rfl⟩⟩
  rw [HA.out]
  go_wp2_with fail
  refine (refenough_any n _ HV.out).mono ?_
  rintro e w1 ⟨rfl, hw⟩
  obtain rfl : w = w1 := hw.symm
  clear hw
  rw [HA.out]
  have hqa : (a == a) = true := by simp
  go_wp2_with fail
  refine (enough_any m _ HMV.out.1).mono ?_
  rintro e w1 ⟨rfl, hw⟩
  obtain rfl : w = w1 := hw.symm
  clear hw
  obtain ⟨b, HBM⟩ : ∃ b, Bx (enZ m = b) := ⟨_, ⟨rfl⟩⟩
  rw [HBM.out] at HMO ⊢
  go_wp2_with fail
  refine (enough_any (m + 1) _ HMV.out.2).mono ?_
  rintro e w1 ⟨rfl, hw⟩
  obtain rfl : w = w1 := hw.symm
  clear hw
  obtain ⟨c, HCM⟩ : ∃ c, Bx (enZ (m + 1) = c) := ⟨_, ⟨rfl⟩⟩
  rw [HCM.out] at HMO ⊢
  have hle := HMO.out
  have hld : decide (b ≤ c) = true := decide_eq_true hle
  go_wp2_with fail
  refine (lives18_any _).mono ?_
  rintro e wL ⟨rfl, hbL⟩
  have hfin := bstep HB.out hbL
  go_wp2_with fail
  go_ret
  exact ⟨rfl, hfin⟩

set_option maxRecDepth 100000 in
theorem lifted (os : Os) (started : os.Started) (H : Type) (enc : TypeId × Value → H) :
    ReturnsInHanded {} Try.checked os 8 .any (Rows.linEnoughSpec.pre6 enc Try.prog Try.f8 Rows.linEnoughRow.domain false) (Rows.linEnoughSpec.post enc Try.prog Try.f8 false true false false) := by
  refine returnsInHanded_of_change (C := Try.checked) own started (by kernel_rfl) Try.func8
    (ChangeSpec.witness6 (enc := enc) (C := Try.checked) false ⟨#[], #[.int .i64 0], []⟩ 8 (by kernel_rfl) (by kernel_rfl) (by kernel_rfl) (by kernel_rfl)) ?_
  intro W base args ds gs before hval0 hW hcnd _
  have hval : ∀ (j : Nat) t v, Try.f8.params[j]? = some t → args[j]? = some v → Value.okWide Try.prog W .any base t v := hval0
  have hW' := hW
  obtain ⟨p, q, hA0, hV, rfl, hfz, hnd⟩ := hW
  have hA : DataW.TrodAll enc Try.prog W 0 (fun _ => true) true Try.f8.params.toList args.toList ds p := hA0
  rw [Try.params8] at hA hval
  obtain ⟨v0, vs0, d0, ds0, p0, q0, hargs, rfl, rfl, h0, r0⟩ := trodAll_cons hA
  obtain ⟨rfl, rfl, rfl⟩ := trodAll_nil r0
  obtain rfl : args = #[v0] := by cases args; simp_all
  obtain ⟨rfl, rfl⟩ := trodVars_none hV
  have k0 := h0
  have lt0 : ∀ x ∈ p0, x.block < W.heap.size := by obtain ⟨m, hm⟩ := k0; exact DataW.trod_lt m _ _ _ hm
  obtain ⟨n, rfl, hn⟩ := open_i64 (hval 0 3 v0 rfl rfl) h0
  clear hA0 hval0
  refine (walk n W hn).mono fun e W' ⟨he, bel⟩ => ?_
  subst he
  exact ⟨_, rfl, _, _, _, [], _, [], hW', trodAll_mk1 (shut_bool Try.underlying4 _), (trodAll_cons_mk (Below.trod laidOut (by kernel_rfl) (of_decide_eq_true (by kernel_rfl)) k0 bel lt0) trodAll_mk0), rfl, bel.frame _, fun h => by cases h⟩

theorem over : Rows.linEnoughRow.holds Try.pinned (OpenSpec.ofChange Rows.linEnoughSpec) :=
  OpenClaim.holds_of_wide 8 Try.f8 rfl rfl rfl rfl rfl rfl rfl ⟨rfl, rfl, rfl, rfl, rfl⟩ rfl rfl rfl rfl rfl (by kernel_rfl) Try.func8 (by kernel_rfl)
    (of_decide_eq_true (by kernel_rfl)) (by unfold Func.isWrapper; first | (rw [if_pos (by decide +kernel)]; kernel_rfl) | (rw [if_neg (by decide +kernel)]; exact ⟨rfl, rfl⟩))
    (fun os started H enc _ => lifted os started H enc)

/-- the statement -/
theorem proved : Rows.LinEnoughSaid := over
end Go.Proofs.Ytbjeeefkbmdmfaa.linEnough
namespace Go.Proofs.Ytbjeeefkbmdmfaa
theorem linEnough_holds : Rows.LinEnoughSaid := linEnough.proved
#print axioms linEnough_holds
end Go.Proofs.Ytbjeeefkbmdmfaa
