/- What Next, Room and Texts of a log answer. -/
import Derived.Test.YtjnjokbdoendkaaWalSmall
namespace Go.Proofs.Ytjnjokbdoendkaa
open Go.RowKit
set_option linter.unusedVariables false

/-- how long a text may be -/
def roomV (n next : Nat) : Int := if next = n then -1 else if 16384 < ((n : Int) - next) * 64 - 20 then 16384 else ((n : Int) - next) * 64 - 20
end Go.Proofs.Ytjnjokbdoendkaa
