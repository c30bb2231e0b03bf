/- For every int64 x and int n the law WordSigned returns true (P1.4): the lowest bits with their sign are a number of so many bits that has the same lowest bits; of such a number they are itself. No condition. -/
import Derived.Test.YthlkdbfaelgadabRows
import Derived.Test.YthlkdbfaelgadabLives
import Derived.Test.YthlkdbfaelgadabTurn
import Derived.Test.YthlkdbfaelgadabLeast
import Derived.WalkKit
import Derived.ProofKit
import Derived.OpenShut
import Derived.ShutString
import Derived.ChangeOld
import Derived.Below
namespace Go.Proofs.Ythlkdbfaelgadab.wordSigned
open Go.ChangeShapes Go.WideShapes Go.ChangeAt Go.RowKit
open Go.ChangeMaps (open_string shut_string)
set_option linter.unusedVariables false

theorem own : ownKnob Try.prog.godebug = none := by kernel_rfl

/-! ### STEP 1: THE WALK: the Go text returns true. 'Below w.heap.size w w'': the world has at most new blocks (Derived/RowKit3.lean). Part the cases AHEAD of 'go_enter' where a test parts the walk; take each callee by a contract of your own. -/
set_option maxHeartbeats 1000000 in
theorem walk (a0 : Int) (a1 : Int) (w0 : (Lit.int .i64 a0).wf = true) (w1 : (Lit.int .i64 a1).wf = true) (w : World) :
    Calls Try.prog 5 #[.int .i64 a0, .int .i64 a1] w fun e w' => e = .returned (.bool true) ∧ Below w.heap.size w w' := by
  have hx : -9223372036854775808 ≤ a0 ∧ a0 ≤ 9223372036854775807 := bounds_i64 w0
  go_enter Try.func5, Try.ntmps5
  go_wp2_with fail
  refine (least_any a1 1 63 _).mono ?_
  rintro e w' ⟨rfl, rfl⟩
  have hA := least_bd a1 1 63 (by decide)
  obtain ⟨n, hn⟩ : ∃ n : Nat, leastV a1 1 63 = n := ⟨(leastV a1 1 63).toNat, by omega⟩
  rw [hn] at hA ⊢
  clear hn
  have hn0 : 1 ≤ n := by omega
  have hn1 : n < 64 := by omega
  have hL := low_bd a0 n hn0
  have hP := pow_le62 (n - 1) (by omega)
  have hP0 := pow_pos2 (n - 1)
  go_wp2_with fail
  refine (low_some a0 n _ hx.1 hx.2 hn0 hn1).mono ?_
  rintro e w' ⟨rfl, rfl⟩
  have hd1 : decide (lowV a0 n < -2 ^ (n - 1)) = false := by rw [decide_eq_false_iff_not]; omega
  have hd2 : decide (2 ^ (n - 1) - 1 < lowV a0 n) = false := by rw [decide_eq_false_iff_not]; omega
  have hd3 : (IntKind.u64.wrap (IntKind.u64.wrap (lowV a0 n) * 2 ^ (64 - n)) != IntKind.u64.wrap (IntKind.u64.wrap a0 * 2 ^ (64 - n))) = false := by
    simp only [IntKind.wrap_u64]
    rw [low_same a0 n hn0 hn1]
    simp
  go_wp2_with fail
  refine (low_some (lowV a0 n) n _ (by omega) (by omega) hn0 hn1).mono ?_
  rintro e w' ⟨rfl, rfl⟩
  rw [low_idem]
  go_wp2_with fail
  refine (low_more a0 64 _ (by decide)).mono ?_
  rintro e w' ⟨rfl, rfl⟩
  go_wp2_with fail
  refine (low_less a0 0 _ (by decide)).mono ?_
  rintro e w' ⟨rfl, rfl⟩
  go_wp2_with fail
  refine (lives_any _).mono ?_
  rintro e w' ⟨rfl, hb⟩
  go_wp2
  go_ret
  exact ⟨rfl, hb⟩

/-! ### THE ROW's STEP: WRITTEN OUT: LEAVE IT -/
set_option maxRecDepth 100000 in
theorem lifted (os : Os) (started : os.Started) (H : Type) (enc : TypeId × Value → H) :
    ReturnsInHanded {} Try.checked os 5 .any (Rows.wordSignedSpec.pre6 enc Try.prog Try.f5 Rows.wordSignedRow.domain false) (Rows.wordSignedSpec.post enc Try.prog Try.f5 false true false false) := by
  refine returnsInHanded_of_change (C := Try.checked) own started (by kernel_rfl) Try.func5
    (ChangeSpec.witness6 (enc := enc) (C := Try.checked) false ⟨#[], #[.int .i64 0, .int .i64 0], []⟩ 8 (by kernel_rfl) (by kernel_rfl) (by kernel_rfl) (by kernel_rfl)) ?_
  intro W base args ds gs before hval0 hW hcnd _
  have hval : ∀ (j : Nat) t v, Try.f5.params[j]? = some t → args[j]? = some v → Value.okWide Try.prog W .any base t v := hval0
  have hW' := hW
  obtain ⟨p, q, hA0, hV, rfl, hfz, hnd⟩ := hW
  have hA : DataW.TrodAll enc Try.prog W 0 (fun _ => true) true Try.f5.params.toList args.toList ds p := hA0
  rw [Try.params5] at hA hval
  obtain ⟨v0, vs0, d0, ds0, p0, q0, hargs, rfl, rfl, h0, r0⟩ := trodAll_cons hA
  obtain ⟨v1, vs1, d1, ds1, p1, q1, rfl, rfl, rfl, h1, r1⟩ := trodAll_cons r0
  obtain ⟨rfl, rfl, rfl⟩ := trodAll_nil r1
  obtain rfl : args = #[v0, v1] := by cases args; simp_all
  obtain ⟨rfl, rfl⟩ := trodVars_none hV
  obtain ⟨a0, rfl, rfl, rfl, w0⟩ := open_int Try.underlying2 (hval 0 2 v0 rfl rfl) h0
  obtain ⟨a1, rfl, rfl, rfl, w1⟩ := open_int Try.underlying3 (hval 1 3 v1 rfl rfl) h1
  clear hA0 hval0
  refine (walk a0 a1 w0 w1 W).mono fun e W' ⟨he, bel⟩ => ?_
  subst he
  exact ⟨_, rfl, _, _, _, [], _, [], hW', trodAll_mk1 (shut_bool Try.underlying4 _), (trodAll_cons_mk (shut_int Try.underlying2 w0) (trodAll_cons_mk (shut_int Try.underlying3 w1) trodAll_mk0)), rfl, bel.frame _, fun h => by cases h⟩

theorem over : Rows.wordSignedRow.holds Try.pinned (OpenSpec.ofChange Rows.wordSignedSpec) :=
  OpenClaim.holds_of_wide 5 Try.f5 rfl rfl rfl rfl rfl rfl rfl ⟨rfl, rfl, rfl, rfl, rfl⟩ rfl rfl rfl rfl rfl (by kernel_rfl) Try.func5 (by kernel_rfl)
    (of_decide_eq_true (by kernel_rfl)) (by unfold Func.isWrapper; first | (rw [if_pos (by decide +kernel)]; kernel_rfl) | (rw [if_neg (by decide +kernel)]; exact ⟨rfl, rfl⟩))
    (fun os started H enc _ => lifted os started H enc)

/-- ████ THE STATEMENT ████ -/
theorem proved : Rows.WordSignedSaid :=
  over
end Go.Proofs.Ythlkdbfaelgadab.wordSigned
namespace Go.Proofs.Ythlkdbfaelgadab
theorem wordSigned_holds : Rows.WordSignedSaid := wordSigned.proved
#print axioms wordSigned_holds
end Go.Proofs.Ythlkdbfaelgadab
