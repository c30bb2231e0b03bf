/- At most so many changes, in memory of their own; two lists of changes that are the same. -/
import Derived.Test.YtjnjokbdoendkaaGreatSdi
import Derived.Test.YtjnjokbdoendkaaGreatSsd
import Derived.Test.YtjnjokbdoendkaaGreatSma
import Derived.Test.YtjnjokbdoendkaaGreatSwt
namespace Go.Proofs.YtjnjokbdoendkaaGreat
open Go.RowKit
set_option linter.unusedVariables false

end Go.Proofs.YtjnjokbdoendkaaGreat
