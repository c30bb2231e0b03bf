/- What is asked of a tenant. No walk. -/
import Derived.Test.YtpfijaojgeceeaaDoorBase
namespace Go.Proofs.YtpfijaojgeceeaaDoor
open Go.RowKit
set_option linter.unusedVariables false

/-- what is asked -/
structure As where
  k : Int
  nm : ByteArray
  sp : ByteArray
  b : List Int
  A : Int
  B : Int
def as0 : As := ⟨0, ⟨#[]⟩, ⟨#[]⟩, [], 0, 0⟩
end Go.Proofs.YtpfijaojgeceeaaDoor
