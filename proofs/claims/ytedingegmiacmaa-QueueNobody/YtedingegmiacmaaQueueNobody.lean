/- QueueNobody: what a queue answers that no call made. -/
import Derived.Test.YtedingegmiacmaaRows
import Derived.Test.YtedingegmiacmaaIvIn
import Derived.Test.YtedingegmiacmaaQLives
import Derived.WalkKit
import Derived.ProofKit
import Derived.OpenShut
import Derived.ShutString
import Derived.ChangeOld
import Derived.Below
namespace Go.Proofs.Ytedingegmiacmaa.queueNobody
open Go.ChangeShapes Go.WideShapes Go.ChangeAt Go.RowKit
open Go.ChangeMaps (open_string shut_string)
set_option linter.unusedVariables false

theorem own : ownKnob Try.prog.godebug = none := by kernel_rfl
theorem laidOut : laidOutB Try.prog = true := by kernel_rfl


set_option maxRecDepth 100000 in
set_option maxHeartbeats 8000000 in
theorem walk (n : Int) (w : World) (hn : I64 n) :
    Calls Try.prog 7 #[.int .i64 n] w fun e w' => e = .returned (.bool true) ∧ Below w.heap.size w w' := by
  have hb1 : Below w.heap.size w (w.alloc (.cells #[.int .i64 0, .int .i64 0, .int .i64 0, .int .i64 0, .int .i64 0, .int .i64 0, .int .i64 0, .int .i64 0, .int .i64 0, .int .i64 0] 54)) := (Below.refl _ _).alloc (Nat.le_refl _) _
  have HP : Bx (Q0 (w.alloc (.cells #[.int .i64 0, .int .i64 0, .int .i64 0, .int .i64 0, .int .i64 0, .int .i64 0, .int .i64 0, .int .i64 0, .int .i64 0, .int .i64 0] 54)) w.heap.size) := ⟨⟨heap_alloc_new _ _, rfl⟩⟩
  have HB := Bx.mk hb1
  obtain ⟨g, HG⟩ : ∃ g, Bx (w.heap.size = g) := ⟨_, ⟨rfl⟩⟩
  rw [HG.out] at HP
  clear hb1 hn
  go_enter Try.func7, Try.ntmps7
  go_upto_region 3 with fail
  rw [HG.out]
  generalize w.alloc (.cells #[.int .i64 0, .int .i64 0, .int .i64 0, .int .i64 0, .int .i64 0, .int .i64 0, .int .i64 0, .int .i64 0, .int .i64 0, .int .i64 0] 54) = w1 at HP HB ⊢
  go_wp2_with fail
  refine (first_nil w1).mono ?_
  rintro e wz ⟨rfl, hw⟩
  obtain rfl : w1 = wz := hw.symm
  clear hw
  go_wp2_with fail
  refine (first_plain HP.out).mono ?_
  rintro e wz ⟨rfl, hw⟩
  obtain rfl : w1 = wz := hw.symm
  clear hw
  go_wp2_with fail
  refine (put19_nil n w1).mono ?_
  rintro e wz ⟨rfl, hw⟩
  obtain rfl : w1 = wz := hw.symm
  clear hw
  go_wp2_with fail
  refine (put19_plain n w1 g HP.out).mono ?_
  rintro e wz ⟨rfl, hw⟩
  obtain rfl : w1 = wz := hw.symm
  clear hw
  go_wp2_with fail
  refine (done19_nil n w1).mono ?_
  rintro e wz ⟨rfl, hw⟩
  obtain rfl : w1 = wz := hw.symm
  clear hw
  go_wp2_with fail
  refine (done19_plain n w1 g HP.out).mono ?_
  rintro e wz ⟨rfl, hw⟩
  obtain rfl : w1 = wz := hw.symm
  clear hw
  go_wp2_with fail
  refine (len_nil w1).mono ?_
  rintro e wz ⟨rfl, hw⟩
  obtain rfl : w1 = wz := hw.symm
  clear hw
  go_wp2_with fail
  refine (len_plain HP.out).mono ?_
  rintro e wz ⟨rfl, hw⟩
  obtain rfl : w1 = wz := hw.symm
  clear hw
  go_wp2_with fail
  refine (waiting_nil w1).mono ?_
  rintro e wz ⟨rfl, hw⟩
  obtain rfl : w1 = wz := hw.symm
  clear hw
  go_wp2_with fail
  refine (waiting_plain HP.out).mono ?_
  rintro e wz ⟨rfl, hw⟩
  obtain rfl : w1 = wz := hw.symm
  clear hw
  go_wp2_with fail
  refine (lives19_any _).mono ?_
  rintro e wL ⟨rfl, hbL⟩
  have hfin := bstep HB.out hbL
  clear hbL
  go_wp2_with fail
  go_ret
  exact ⟨rfl, hfin⟩

set_option maxRecDepth 100000 in
theorem lifted (os : Os) (started : os.Started) (H : Type) (enc : TypeId × Value → H) :
    ReturnsInHanded {} Try.checked os 7 .any (Rows.queueNobodySpec.pre6 enc Try.prog Try.f7 Rows.queueNobodyRow.domain false) (Rows.queueNobodySpec.post enc Try.prog Try.f7 false true false false) := by
  refine returnsInHanded_of_change (C := Try.checked) own started (by kernel_rfl) Try.func7
    (ChangeSpec.witness6 (enc := enc) (C := Try.checked) false ⟨#[], #[.int .i64 0], []⟩ 8 (by kernel_rfl) (by kernel_rfl) (by kernel_rfl) (by kernel_rfl)) ?_
  intro W base args ds gs before hval0 hW hcnd _
  have hval : ∀ (j : Nat) t v, Try.f7.params[j]? = some t → args[j]? = some v → Value.okWide Try.prog W .any base t v := hval0
  have hW' := hW
  obtain ⟨p, q, hA0, hV, rfl, hfz, hnd⟩ := hW
  have hA : DataW.TrodAll enc Try.prog W 0 (fun _ => true) true Try.f7.params.toList args.toList ds p := hA0
  rw [Try.params7] at hA hval
  obtain ⟨v0, vs0, d0, ds0, p0, q0, hargs, rfl, rfl, h0, r0⟩ := trodAll_cons hA
  obtain ⟨rfl, rfl, rfl⟩ := trodAll_nil r0
  obtain rfl : args = #[v0] := by cases args; simp_all
  obtain ⟨rfl, rfl⟩ := trodVars_none hV
  have k0 := h0
  have lt0 : ∀ x ∈ p0, x.block < W.heap.size := by obtain ⟨m, hm⟩ := k0; exact DataW.trod_lt m _ _ _ hm
  obtain ⟨n, rfl, hn⟩ := open_i64 (hval 0 3 v0 rfl rfl) h0
  clear hA0 hval0
  refine (walk n W hn).mono fun e W' ⟨he, bel⟩ => ?_
  subst he
  exact ⟨_, rfl, _, _, _, [], _, [], hW', trodAll_mk1 (shut_bool Try.underlying4 _), (trodAll_cons_mk (Below.trod laidOut (by kernel_rfl) (of_decide_eq_true (by kernel_rfl)) k0 bel lt0) trodAll_mk0), rfl, bel.frame _, fun h => by cases h⟩

theorem over : Rows.queueNobodyRow.holds Try.pinned (OpenSpec.ofChange Rows.queueNobodySpec) :=
  OpenClaim.holds_of_wide 7 Try.f7 rfl rfl rfl rfl rfl rfl rfl ⟨rfl, rfl, rfl, rfl, rfl⟩ rfl rfl rfl rfl rfl (by kernel_rfl) Try.func7 (by kernel_rfl)
    (of_decide_eq_true (by kernel_rfl)) (by unfold Func.isWrapper; first | (rw [if_pos (by decide +kernel)]; kernel_rfl) | (rw [if_neg (by decide +kernel)]; exact ⟨rfl, rfl⟩))
    (fun os started H enc _ => lifted os started H enc)

/-- the statement -/
theorem proved : Rows.QueueNobodySaid := over
end Go.Proofs.Ytedingegmiacmaa.queueNobody
namespace Go.Proofs.Ytedingegmiacmaa
theorem queueNobody_holds : Rows.QueueNobodySaid := queueNobody.proved
#print axioms queueNobody_holds
end Go.Proofs.Ytedingegmiacmaa
