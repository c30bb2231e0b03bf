/- A verdict in words: the program's. -/
import Derived.Test.YtipakjenggeflaaGreatDoorPkaf
import Derived.Test.YtipakjenggeflaaGreatDoorPkae
import Derived.Test.YtipakjenggeflaaGreatDoorPkaa
import Derived.Test.YtipakjenggeflaaGreatDoorPkad
import Derived.Test.YtipakjenggeflaaGreatDoorPkag
import Derived.Test.YtipakjenggeflaaGreatDoorDecAny
import Derived.Test.YtipakjenggeflaaGreatDoorPkaj
import Derived.BigQuiet
import Derived.Deep.CutRange
import Derived.Laws.OwnMore
import Derived.ChangeKeysEq
import Derived.Deep.OwnRows
import Derived.Lib.Join
namespace Go.Proofs.YtipakjenggeflaaGreatDoor
open Go.RowKit
set_option linter.unusedVariables false

set_option maxRecDepth 100000 in
theorem itoa_len {x : Int} (h : V64 x) : (Lib.itoa x).length ≤ 21 := by
  have := decS_size (n := x) h.1 h.2
  unfold decS at this
  rw [Lib.size_eq] at this
  exact this
end Go.Proofs.YtipakjenggeflaaGreatDoor
