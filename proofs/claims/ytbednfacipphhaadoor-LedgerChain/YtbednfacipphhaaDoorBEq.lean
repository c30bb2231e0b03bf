/- bytes as a text, and bytes.Equal. -/
import Derived.Test.YtbednfacipphhaaDoorStr
import Derived.Lib.Strings
import Derived.Laws.BitsAllLaws
import Derived.Laws.IdiomStrings
import Derived.Lib.SlicesS
namespace Go.Proofs.YtbednfacipphhaaDoor
open Go.RowKit
set_option linter.unusedVariables false

end Go.Proofs.YtbednfacipphhaaDoor
