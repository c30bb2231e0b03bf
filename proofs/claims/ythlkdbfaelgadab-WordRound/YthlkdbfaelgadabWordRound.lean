/- For every two uint32 x, y and every two ints a, b the law WordRound returns true (P1.5): turned by a, then by b, is turned by both, 32 places are none, no bit is lost. No condition. -/
import Derived.Test.YthlkdbfaelgadabRows
import Derived.Test.YthlkdbfaelgadabLives
import Derived.Test.YthlkdbfaelgadabTurn
import Derived.Test.YthlkdbfaelgadabLeast
import Derived.WalkKit
import Derived.ProofKit
import Derived.OpenShut
import Derived.ShutString
import Derived.ChangeOld
import Derived.Below
namespace Go.Proofs.Ythlkdbfaelgadab.wordRound
open Go.ChangeShapes Go.WideShapes Go.ChangeAt Go.RowKit
open Go.ChangeMaps (open_string shut_string)
set_option linter.unusedVariables false

theorem own : ownKnob Try.prog.godebug = none := by kernel_rfl

/-! ### STEP 1: THE WALK: the Go text returns true. 'Below w.heap.size w w'': the world has at most new blocks (Derived/RowKit3.lean). Part the cases AHEAD of 'go_enter' where a test parts the walk; take each callee by a contract of your own. -/
set_option maxHeartbeats 1000000 in
theorem walk (a0 : Int) (a1 : Int) (a2 : Int) (a3 : Int) (w0 : (Lit.int .u32 a0).wf = true) (w1 : (Lit.int .u32 a1).wf = true) (w2 : (Lit.int .i64 a2).wf = true) (w3 : (Lit.int .i64 a3).wf = true) (w : World) :
    Calls Try.prog 4 #[.int .u32 a0, .int .u32 a1, .int .i64 a2, .int .i64 a3] w fun e w' => e = .returned (.bool true) ∧ Below w.heap.size w w' := by
  have hx : 0 ≤ a0 ∧ a0 ≤ 4294967295 := bounds_u32 w0
  have hy : 0 ≤ a1 ∧ a1 ≤ 4294967295 := bounds_u32 w1
  go_enter Try.func4, Try.ntmps4
  go_wp2_with fail
  refine (least_any a2 (-1000) 1000 _).mono ?_
  rintro e w' ⟨rfl, rfl⟩
  have hA := least_bd a2 (-1000) 1000 (by decide)
  generalize leastV a2 (-1000) 1000 = A at hA ⊢
  go_wp2_with fail
  refine (least_any a3 (-1000) 1000 _).mono ?_
  rintro e w' ⟨rfl, rfl⟩
  have hB := least_bd a3 (-1000) 1000 (by decide)
  generalize leastV a3 (-1000) 1000 = B at hB ⊢
  have hT := turn_bd a0 A hx.1 (by omega)
  have hU := turn_bd a1 A hy.1 (by omega)
  go_wp2_with fail
  refine (turn_any a0 A _ hx.1 (by omega) (by omega) (by omega)).mono ?_
  rintro e w' ⟨rfl, rfl⟩
  go_wp2_with fail
  refine (turn_any (turnV a0 A) B _ hT.1 hT.2 (by omega) (by omega)).mono ?_
  rintro e w' ⟨rfl, rfl⟩
  rw [turn_add a0 A B hx.1 (by omega)]
  go_wp2_with fail
  refine (turn_any a0 (A + B) _ hx.1 (by omega) (by omega) (by omega)).mono ?_
  rintro e w' ⟨rfl, rfl⟩
  go_wp2_with fail
  refine (turn_any a0 32 _ hx.1 (by omega) (by omega) (by omega)).mono ?_
  rintro e w' ⟨rfl, rfl⟩
  rw [turn_zero a0 32 (by decide)]
  go_wp2_with fail
  refine (turn_any a0 A _ hx.1 (by omega) (by omega) (by omega)).mono ?_
  rintro e w' ⟨rfl, rfl⟩
  go_wp2_with fail
  refine (turn_any (turnV a0 A) (-A) _ hT.1 hT.2 (by omega) (by omega)).mono ?_
  rintro e w' ⟨rfl, rfl⟩
  rw [turn_add a0 A (-A) hx.1 (by omega), turn_zero a0 (A + -A) (by omega)]
  obtain ⟨Z, hZ, hZb, HZ⟩ : ∃ Z : Int, bits .xor .u32 a0 a1 = Z ∧ (0 ≤ Z ∧ Z < 4294967296) ∧ Hid (bits .xor .u32 (turnV a0 A) (turnV a1 A) = turnV Z A) := by
    refine ⟨_, u32_xor a0 a1 hx.1 (by omega) hy.1 (by omega), ⟨by omega, ?_⟩, ?_⟩
    · have := xor_lt32 a0.toNat a1.toNat (by omega) (by omega); omega
    · show _ = _
      rw [u32_xor _ _ hT.1 hT.2 hU.1 hU.2, turn_xor a0 a1 A hx.1 (by omega) hy.1 (by omega)]
  go_wp2_with fail
  refine (turn_any Z A _ hZb.1 hZb.2 (by omega) (by omega)).mono ?_
  rintro e w' ⟨rfl, rfl⟩
  go_wp2_with fail
  refine (turn_any a0 A _ hx.1 (by omega) (by omega) (by omega)).mono ?_
  rintro e w' ⟨rfl, rfl⟩
  go_wp2_with fail
  refine (turn_any a1 A _ hy.1 (by omega) (by omega) (by omega)).mono ?_
  rintro e w' ⟨rfl, rfl⟩
  have hx2 := HZ.out
  clear HZ
  go_wp2_with fail
  refine (lives_any _).mono ?_
  rintro e w' ⟨rfl, hb⟩
  go_wp2
  go_ret
  exact ⟨rfl, hb⟩

/-! ### THE ROW's STEP: WRITTEN OUT: LEAVE IT -/
set_option maxRecDepth 100000 in
theorem lifted (os : Os) (started : os.Started) (H : Type) (enc : TypeId × Value → H) :
    ReturnsInHanded {} Try.checked os 4 .any (Rows.wordRoundSpec.pre6 enc Try.prog Try.f4 Rows.wordRoundRow.domain false) (Rows.wordRoundSpec.post enc Try.prog Try.f4 false true false false) := by
  refine returnsInHanded_of_change (C := Try.checked) own started (by kernel_rfl) Try.func4
    (ChangeSpec.witness6 (enc := enc) (C := Try.checked) false ⟨#[], #[.int .u32 0, .int .u32 0, .int .i64 0, .int .i64 0], []⟩ 8 (by kernel_rfl) (by kernel_rfl) (by kernel_rfl) (by kernel_rfl)) ?_
  intro W base args ds gs before hval0 hW hcnd _
  have hval : ∀ (j : Nat) t v, Try.f4.params[j]? = some t → args[j]? = some v → Value.okWide Try.prog W .any base t v := hval0
  have hW' := hW
  obtain ⟨p, q, hA0, hV, rfl, hfz, hnd⟩ := hW
  have hA : DataW.TrodAll enc Try.prog W 0 (fun _ => true) true Try.f4.params.toList args.toList ds p := hA0
  rw [Try.params4] at hA hval
  obtain ⟨v0, vs0, d0, ds0, p0, q0, hargs, rfl, rfl, h0, r0⟩ := trodAll_cons hA
  obtain ⟨v1, vs1, d1, ds1, p1, q1, rfl, rfl, rfl, h1, r1⟩ := trodAll_cons r0
  obtain ⟨v2, vs2, d2, ds2, p2, q2, rfl, rfl, rfl, h2, r2⟩ := trodAll_cons r1
  obtain ⟨v3, vs3, d3, ds3, p3, q3, rfl, rfl, rfl, h3, r3⟩ := trodAll_cons r2
  obtain ⟨rfl, rfl, rfl⟩ := trodAll_nil r3
  obtain rfl : args = #[v0, v1, v2, v3] := by cases args; simp_all
  obtain ⟨rfl, rfl⟩ := trodVars_none hV
  obtain ⟨a0, rfl, rfl, rfl, w0⟩ := open_int Try.underlying33 (hval 0 33 v0 rfl rfl) h0
  obtain ⟨a1, rfl, rfl, rfl, w1⟩ := open_int Try.underlying33 (hval 1 33 v1 rfl rfl) h1
  obtain ⟨a2, rfl, rfl, rfl, w2⟩ := open_int Try.underlying3 (hval 2 3 v2 rfl rfl) h2
  obtain ⟨a3, rfl, rfl, rfl, w3⟩ := open_int Try.underlying3 (hval 3 3 v3 rfl rfl) h3
  clear hA0 hval0
  refine (walk a0 a1 a2 a3 w0 w1 w2 w3 W).mono fun e W' ⟨he, bel⟩ => ?_
  subst he
  exact ⟨_, rfl, _, _, _, [], _, [], hW', trodAll_mk1 (shut_bool Try.underlying4 _), (trodAll_cons_mk (shut_int Try.underlying33 w0) (trodAll_cons_mk (shut_int Try.underlying33 w1) (trodAll_cons_mk (shut_int Try.underlying3 w2) (trodAll_cons_mk (shut_int Try.underlying3 w3) trodAll_mk0)))), rfl, bel.frame _, fun h => by cases h⟩

theorem over : Rows.wordRoundRow.holds Try.pinned (OpenSpec.ofChange Rows.wordRoundSpec) :=
  OpenClaim.holds_of_wide 4 Try.f4 rfl rfl rfl rfl rfl rfl rfl ⟨rfl, rfl, rfl, rfl, rfl⟩ rfl rfl rfl rfl rfl (by kernel_rfl) Try.func4 (by kernel_rfl)
    (of_decide_eq_true (by kernel_rfl)) (by unfold Func.isWrapper; first | (rw [if_pos (by decide +kernel)]; kernel_rfl) | (rw [if_neg (by decide +kernel)]; exact ⟨rfl, rfl⟩))
    (fun os started H enc _ => lifted os started H enc)

/-- ████ THE STATEMENT ████ -/
theorem proved : Rows.WordRoundSaid :=
  over
end Go.Proofs.Ythlkdbfaelgadab.wordRound
namespace Go.Proofs.Ythlkdbfaelgadab
theorem wordRound_holds : Rows.WordRoundSaid := wordRound.proved
#print axioms wordRound_holds
end Go.Proofs.Ythlkdbfaelgadab
