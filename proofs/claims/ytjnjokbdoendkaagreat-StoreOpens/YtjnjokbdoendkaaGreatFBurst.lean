/- A row of at most 32 bits of bytes turned, one by one: no walk. -/
import Derived.Test.YtjnjokbdoendkaaGreatSrs
namespace Go.Proofs.YtjnjokbdoendkaaGreat
open Go.RowKit
set_option linter.unusedVariables false

end Go.Proofs.YtjnjokbdoendkaaGreat
