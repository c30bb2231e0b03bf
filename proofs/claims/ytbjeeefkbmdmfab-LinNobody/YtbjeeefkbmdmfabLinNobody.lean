/- LinNobody: what a task answers that no call made. -/
import Derived.Test.YtbjeeefkbmdmfabRows
import Derived.Test.YtbjeeefkbmdmfabOrIn
import Derived.Test.YtbjeeefkbmdmfabTmNo
import Derived.WalkKit
import Derived.ProofKit
import Derived.OpenShut
import Derived.ShutString
import Derived.ChangeOld
import Derived.Below
namespace Go.Proofs.Ytbjeeefkbmdmfab.linNobody
open Go.ChangeShapes Go.WideShapes Go.ChangeAt Go.RowKit
open Go.ChangeMaps (open_string shut_string)
set_option linter.unusedVariables false

theorem own : ownKnob Try.prog.godebug = none := by kernel_rfl
theorem laidOut : laidOutB Try.prog = true := by kernel_rfl


set_option maxRecDepth 100000 in
set_option maxHeartbeats 8000000 in
theorem walk (n : Int) (w : World) (hn : I64 n) :
    Calls Try.prog 4 #[.int .i64 n] w fun e w' => e = .returned (.bool true) ∧ Below w.heap.size w w' := by
  have hb1 : Below w.heap.size w (w.alloc (.cells #[.pointer none, .int .i64 0, .int .i64 0, .slice none 0 0, .int .u64 0, .slice none 0 0, .map none, .slice none 0 0, .int .i64 0, .int .i64 0, .slice none 0 0] 46)) := (Below.refl _ _).alloc (Nat.le_refl _) _
  have HP1 : Bx (PlT (w.alloc (.cells #[.pointer none, .int .i64 0, .int .i64 0, .slice none 0 0, .int .u64 0, .slice none 0 0, .map none, .slice none 0 0, .int .i64 0, .int .i64 0, .slice none 0 0] 46)) w.heap.size) := ⟨heap_alloc_new _ _⟩
  have HB1 := Bx.mk hb1
  obtain ⟨g, HG⟩ : ∃ g, Bx (w.heap.size = g) := ⟨_, ⟨rfl⟩⟩
  rw [HG.out] at HP1
  clear hb1 hn
  go_enter Try.func4, Try.ntmps4
  go_upto_region 3 with fail
  rw [HG.out]
  generalize w.alloc (.cells #[.pointer none, .int .i64 0, .int .i64 0, .slice none 0 0, .int .u64 0, .slice none 0 0, .map none, .slice none 0 0, .int .i64 0, .int .i64 0, .slice none 0 0] 46) = w1 at HP1 HB1 ⊢
  go_wp2_with fail
  refine (ver_nil w1).mono ?_
  rintro e w2 ⟨rfl, hb2⟩
  have hb3 : Below w2.heap.size w2 (w2.alloc (.cells #[.int .i64 0, .slice none 0 0, .int .i64 0] 34)) := (Below.refl _ _).alloc (Nat.le_refl _) _
  have HP3 := Bx.mk (HP1.out.below (bstep hb2 hb3))
  have HB3 := Bx.mk (bstep HB1.out (bstep hb2 hb3))
  clear hb2 hb3 HP1 HB1
  go_upto_region 4 with fail
  generalize w2.alloc (.cells #[.int .i64 0, .slice none 0 0, .int .i64 0] 34) = w3 at HP3 HB3 ⊢
  go_wp2_with fail
  refine (ver_plain w3 HP3.out).mono ?_
  rintro e w4 ⟨rfl, hb4⟩
  have hb5 : Below w4.heap.size w4 (w4.alloc (.cells #[.int .i64 0, .slice none 0 0, .int .i64 0] 34)) := (Below.refl _ _).alloc (Nat.le_refl _) _
  have HP5 := Bx.mk (HP3.out.below (bstep hb4 hb5))
  have HB := Bx.mk (bstep HB3.out (bstep hb4 hb5))
  clear hb4 hb5 HP3 HB3
  go_upto_region 5 with fail
  generalize w4.alloc (.cells #[.int .i64 0, .slice none 0 0, .int .i64 0] 34) = w5 at HP5 HB ⊢
  go_wp2_with fail
  refine (go_nil n w5).mono ?_
  rintro e wz ⟨rfl, hw⟩
  obtain rfl : w5 = wz := hw.symm
  clear hw
  go_wp2_with fail
  refine (go_plain n w5 HP5.out).mono ?_
  rintro e wz ⟨rfl, hw⟩
  obtain rfl : w5 = wz := hw.symm
  clear hw
  go_wp2_with fail
  refine (over_nil w5).mono ?_
  rintro e wz ⟨rfl, hw⟩
  obtain rfl : w5 = wz := hw.symm
  clear hw
  go_wp2_with fail
  refine (over_plain w5 HP5.out).mono ?_
  rintro e wz ⟨rfl, hw⟩
  obtain rfl : w5 = wz := hw.symm
  clear hw
  go_wp2_with fail
  refine (tries_nil w5).mono ?_
  rintro e wz ⟨rfl, hw⟩
  obtain rfl : w5 = wz := hw.symm
  clear hw
  go_wp2_with fail
  refine (tries_plain w5 HP5.out).mono ?_
  rintro e wz ⟨rfl, hw⟩
  obtain rfl : w5 = wz := hw.symm
  clear hw
  go_wp2_with fail
  refine (lives18_any _).mono ?_
  rintro e wL ⟨rfl, hbL⟩
  have hfin := bstep HB.out hbL
  clear hbL
  go_wp2_with fail
  go_ret
  exact ⟨rfl, hfin⟩

set_option maxRecDepth 100000 in
theorem lifted (os : Os) (started : os.Started) (H : Type) (enc : TypeId × Value → H) :
    ReturnsInHanded {} Try.checked os 4 .any (Rows.linNobodySpec.pre6 enc Try.prog Try.f4 Rows.linNobodyRow.domain false) (Rows.linNobodySpec.post enc Try.prog Try.f4 false true false false) := by
  refine returnsInHanded_of_change (C := Try.checked) own started (by kernel_rfl) Try.func4
    (ChangeSpec.witness6 (enc := enc) (C := Try.checked) false ⟨#[], #[.int .i64 0], []⟩ 8 (by kernel_rfl) (by kernel_rfl) (by kernel_rfl) (by kernel_rfl)) ?_
  intro W base args ds gs before hval0 hW hcnd _
  have hval : ∀ (j : Nat) t v, Try.f4.params[j]? = some t → args[j]? = some v → Value.okWide Try.prog W .any base t v := hval0
  have hW' := hW
  obtain ⟨p, q, hA0, hV, rfl, hfz, hnd⟩ := hW
  have hA : DataW.TrodAll enc Try.prog W 0 (fun _ => true) true Try.f4.params.toList args.toList ds p := hA0
  rw [Try.params4] at hA hval
  obtain ⟨v0, vs0, d0, ds0, p0, q0, hargs, rfl, rfl, h0, r0⟩ := trodAll_cons hA
  obtain ⟨rfl, rfl, rfl⟩ := trodAll_nil r0
  obtain rfl : args = #[v0] := by cases args; simp_all
  obtain ⟨rfl, rfl⟩ := trodVars_none hV
  have k0 := h0
  have lt0 : ∀ x ∈ p0, x.block < W.heap.size := by obtain ⟨m, hm⟩ := k0; exact DataW.trod_lt m _ _ _ hm
  obtain ⟨n, rfl, hn⟩ := open_i64 (hval 0 3 v0 rfl rfl) h0
  clear hA0 hval0
  refine (walk n W hn).mono fun e W' ⟨he, bel⟩ => ?_
  subst he
  exact ⟨_, rfl, _, _, _, [], _, [], hW', trodAll_mk1 (shut_bool Try.underlying4 _), (trodAll_cons_mk (Below.trod laidOut (by kernel_rfl) (of_decide_eq_true (by kernel_rfl)) k0 bel lt0) trodAll_mk0), rfl, bel.frame _, fun h => by cases h⟩

theorem over : Rows.linNobodyRow.holds Try.pinned (OpenSpec.ofChange Rows.linNobodySpec) :=
  OpenClaim.holds_of_wide 4 Try.f4 rfl rfl rfl rfl rfl rfl rfl ⟨rfl, rfl, rfl, rfl, rfl⟩ rfl rfl rfl rfl rfl (by kernel_rfl) Try.func4 (by kernel_rfl)
    (of_decide_eq_true (by kernel_rfl)) (by unfold Func.isWrapper; first | (rw [if_pos (by decide +kernel)]; kernel_rfl) | (rw [if_neg (by decide +kernel)]; exact ⟨rfl, rfl⟩))
    (fun os started H enc _ => lifted os started H enc)

/-- the statement -/
theorem proved : Rows.LinNobodySaid := over
end Go.Proofs.Ytbjeeefkbmdmfab.linNobody
namespace Go.Proofs.Ytbjeeefkbmdmfab
theorem linNobody_holds : Rows.LinNobodySaid := linNobody.proved
#print axioms linNobody_holds
end Go.Proofs.Ytbjeeefkbmdmfab
