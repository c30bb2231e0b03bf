/- What the calls of Zig, Zag and of the document's Zig answer, for every number. -/
import Derived.Test.YthlkdbfaelgadaaBase
namespace Go.Proofs.Ythlkdbfaelgadaa
open Go.RowKit
set_option linter.unusedVariables false

def zigV (x : Int) : Int := if 0 ≤ x then 2 * x else -2 * x - 1
def zagV (u : Int) : Int := if u % 2 = 0 then u / 2 else - (u / 2) - 1

theorem zig_bd (x : Int) (h1 : -9223372036854775808 ≤ x) (h2 : x ≤ 9223372036854775807) : 0 ≤ zigV x ∧ zigV x ≤ 18446744073709551615 := by
  unfold zigV; split <;> omega
theorem zag_bd (u : Int) (h1 : 0 ≤ u) (h2 : u ≤ 18446744073709551615) : -9223372036854775808 ≤ zagV u ∧ zagV u ≤ 9223372036854775807 := by
  unfold zagV; split <;> omega
theorem zag_zig (x : Int) : zagV (zigV x) = x := by
  unfold zigV zagV; split <;> split <;> omega
theorem zig_zag (u : Int) (h : 0 ≤ u) : zigV (zagV u) = u := by
  unfold zigV zagV; split <;> split <;> omega

theorem zig_any (x : Int) (w : World) (h1 : -9223372036854775808 ≤ x) (h2 : x ≤ 9223372036854775807) :
    Calls Try.prog 21 #[.int .i64 x] w fun e w' => e = .returned (.int .u64 (zigV x)) ∧ w = w' := by
  unfold zigV
  by_cases h : 0 ≤ x
  · rw [if_pos h]
    go_enter Try.func21, Try.ntmps21
    go_wp2
    go_ret
    exact ⟨rfl, rfl⟩
  · rw [if_neg h]
    go_enter Try.func21, Try.ntmps21
    go_wp2
    go_ret
    exact ⟨by go_num, rfl⟩

theorem refzig_any (x : Int) (w : World) (h1 : -9223372036854775808 ≤ x) (h2 : x ≤ 9223372036854775807) :
    Calls Try.prog 22 #[.int .i64 x] w fun e w' => e = .returned (.int .u64 (zigV x)) ∧ w = w' := by
  unfold zigV
  by_cases h : 0 ≤ x
  · rw [if_pos h]
    go_enter Try.func22, Try.ntmps22
    go_wp2
    go_ret
    exact ⟨rfl, rfl⟩
  · rw [if_neg h]
    go_enter Try.func22, Try.ntmps22
    go_wp2
    go_ret
    exact ⟨by go_num, rfl⟩

theorem zag_any (u : Int) (w : World) (h1 : 0 ≤ u) (h2 : u ≤ 18446744073709551615) :
    Calls Try.prog 23 #[.int .u64 u] w fun e w' => e = .returned (.int .i64 (zagV u)) ∧ w = w' := by
  unfold zagV
  by_cases h : u % 2 = 0
  · rw [if_pos h]
    go_enter Try.func23, Try.ntmps23
    go_wp2
    go_ret
    exact ⟨by go_num, rfl⟩
  · rw [if_neg h]
    have hb : (u % 2 == 0) = false := by simpa using h
    go_enter Try.func23, Try.ntmps23
    go_wp2
    go_ret
    exact ⟨by go_num, rfl⟩
end Go.Proofs.Ythlkdbfaelgadaa
