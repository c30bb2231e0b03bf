/- A short number's bytes. No walk. Numbers folded and unfolded. No walk. -/
import Derived.Test.YtpfijaojgeceeaaDoorBase
import Derived.Test.YtpfijaojgeceeaaDoorVarMath
namespace Go.Proofs.YtpfijaojgeceeaaDoor
open Go.RowKit
set_option linter.unusedVariables false

def varL (x : Int) : List Int := varF 9 x
set_option maxRecDepth 100000 in
theorem varL_byt (x : Int) (h0 : 0 ≤ x) (h1 : x ≤ 18446744073709551615) : Byt (varL x) :=
  varF_byt 9 x h0 (by rw [show (128 : Int) ^ (9 + 1) = 1180591620717411303424 from rfl]; omega)
set_option maxRecDepth 100000 in
theorem varL_length (x : Int) : 1 ≤ (varL x).length ∧ (varL x).length ≤ 10 := varF_length 9 x
end Go.Proofs.YtpfijaojgeceeaaDoor
namespace Go.Proofs.YtpfijaojgeceeaaDoor
open Go.RowKit
set_option linter.unusedVariables false

def zigV (x : Int) : Int := if 0 ≤ x then 2 * x else -2 * x - 1
def zagV (u : Int) : Int := if u % 2 = 0 then u / 2 else - (u / 2) - 1

set_option maxRecDepth 100000 in
theorem zig_bd (x : Int) (h1 : -9223372036854775808 ≤ x) (h2 : x ≤ 9223372036854775807) : 0 ≤ zigV x ∧ zigV x ≤ 18446744073709551615 := by
  unfold zigV; split <;> omega
set_option maxRecDepth 100000 in
theorem zag_bd (u : Int) (h1 : 0 ≤ u) (h2 : u ≤ 18446744073709551615) : -9223372036854775808 ≤ zagV u ∧ zagV u ≤ 9223372036854775807 := by
  unfold zagV; split <;> omega
set_option maxRecDepth 100000 in
theorem zag_zig (x : Int) : zagV (zigV x) = x := by
  unfold zigV zagV; split <;> split <;> omega
set_option maxRecDepth 100000 in
theorem zig_zag (u : Int) (h : 0 ≤ u) : zigV (zagV u) = u := by
  unfold zigV zagV; split <;> split <;> omega
end Go.Proofs.YtpfijaojgeceeaaDoor
