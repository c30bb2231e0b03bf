/- What the document's Least answers. -/
import Derived.Test.YtedingegmiacmaaBase
namespace Go.Proofs.Ytedingegmiacmaa
open Go.RowKit
set_option linter.unusedVariables false
def leastV (n lo hi : Int) : Int := if n < lo then lo else if hi < n then hi else n
set_option maxRecDepth 100000 in
theorem least_bd (n lo hi : Int) (h : lo ≤ hi) : lo ≤ leastV n lo hi ∧ leastV n lo hi ≤ hi := by
  unfold leastV; split
  · omega
  · split <;> omega
set_option maxRecDepth 100000 in
theorem least_any (n lo hi : Int) (w : World) :
    Calls Try.prog 22 #[.int .i64 n, .int .i64 lo, .int .i64 hi] w fun e w' => e = .returned (.int .i64 (leastV n lo hi)) ∧ w = w' := by
  unfold leastV
  by_cases h1 : n < lo
  · rw [if_pos h1]
    go_enter Try.func22, Try.ntmps22
    go_wp2
    go_ret
    exact ⟨rfl, rfl⟩
  · rw [if_neg h1]
    by_cases h2 : hi < n
    · rw [if_pos h2]
      go_enter Try.func22, Try.ntmps22
      go_wp2
      go_ret
      exact ⟨rfl, rfl⟩
    · rw [if_neg h2]
      go_enter Try.func22, Try.ntmps22
      go_wp2
      go_ret
      exact ⟨rfl, rfl⟩
end Go.Proofs.Ytedingegmiacmaa
