/- A position as a map's key. No walk. -/
import Derived.Test.YtipakjenggeflaaGreatDoorSetMap
import Derived.Test.YtipakjenggeflaaGreatDoorPkar
import Derived.DeepKeys4
namespace Go.Proofs.YtipakjenggeflaaGreatDoor
open Go.RowKit
set_option linter.unusedVariables false
open Go.MapKept Go.Maps

/-- a position as a value -/
def psV (q : Ps) : Value := .agg #[.int .u64 (q.1 : Nat), .int .i64 (q.2.getD 0 0), .int .i64 (q.2.getD 1 0), .int .i64 (q.2.getD 2 0), .int .i64 (q.2.getD 3 0)]
end Go.Proofs.YtipakjenggeflaaGreatDoor
