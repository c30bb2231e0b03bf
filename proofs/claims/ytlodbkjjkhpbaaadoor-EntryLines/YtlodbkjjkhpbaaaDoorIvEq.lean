/- Lists of numbers that are the same. -/
import Derived.Test.YtlodbkjjkhpbaaaDoorCMem
import Derived.BigQuiet
namespace Go.Proofs.YtlodbkjjkhpbaaaDoor
open Go.RowKit
set_option linter.unusedVariables false

end Go.Proofs.YtlodbkjjkhpbaaaDoor
