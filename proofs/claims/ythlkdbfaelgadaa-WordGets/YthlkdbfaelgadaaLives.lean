/- 'lives' answers true: one byte is put, 1 is folded to 2. -/
import Derived.Test.YthlkdbfaelgadaaPut
import Derived.Test.YthlkdbfaelgadaaZig
namespace Go.Proofs.Ythlkdbfaelgadaa
open Go.RowKit
set_option linter.unusedVariables false

set_option maxHeartbeats 400000 in
theorem lives_any (w : World) :
    Calls Try.prog 12 #[] w fun e w' => e = .returned (.bool true) ∧ Below w.heap.size w w' := by
  go_enter Try.func12, Try.ntmps12
  go_wp2_with fail
  refine (put_some 1 1 _ (by decide) (by decide) (by decide) (by decide)).mono ?_
  rintro e w1 ⟨v, rfl, hown, hb⟩
  obtain ⟨ao, cap, rfl, hbt⟩ := Bts.of_owns hown (by intro c hc; simp [putL, sh] at hc; subst hc; decide)
  clear hown hbt
  go_wp2_with fail
  refine (zig_any 1 _ (by decide) (by decide)).mono ?_
  rintro e w2 ⟨rfl, rfl⟩
  have hz : zigV 1 = 2 := by decide
  rw [hz]
  go_wp2
  go_ret
  exact ⟨rfl, hb⟩
end Go.Proofs.Ythlkdbfaelgadaa
