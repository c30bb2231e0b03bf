/- A short number's bytes. No walk. -/
import Derived.Test.YtlodbkjjkhpbaaaDoorBase
import Derived.Test.YtlodbkjjkhpbaaaDoorVarMath
namespace Go.Proofs.YtlodbkjjkhpbaaaDoor
open Go.RowKit
set_option linter.unusedVariables false

def varL (x : Int) : List Int := varF 9 x
set_option maxRecDepth 100000 in
theorem varL_byt (x : Int) (h0 : 0 ≤ x) (h1 : x ≤ 18446744073709551615) : Byt (varL x) :=
  varF_byt 9 x h0 (by rw [show (128 : Int) ^ (9 + 1) = 1180591620717411303424 from rfl]; omega)
set_option maxRecDepth 100000 in
theorem varL_length (x : Int) : 1 ≤ (varL x).length ∧ (varL x).length ≤ 10 := varF_length 9 x
end Go.Proofs.YtlodbkjjkhpbaaaDoor
