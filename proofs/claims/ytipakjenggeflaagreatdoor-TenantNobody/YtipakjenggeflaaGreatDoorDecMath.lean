/- Decimal digits: which number they are, how they are ordered. -/
import Derived.Test.YtipakjenggeflaaGreatDoorPkab
import Derived.Lib.ItoaNum
import Derived.Sort.Grow
namespace Go.Proofs.YtipakjenggeflaaGreatDoor
open Go.RowKit
set_option linter.unusedVariables false
open Go.Lib (decDigits nDigits itoa)

set_option maxRecDepth 100000 in
theorem below_grow (w : World) (k : Nat) (os : Array Obj) : Below w.heap.size w (Sort.grow (w.drewN k) os) :=
  ⟨rfl, rfl, rfl, by simp, fun j hj => Sort.heap_grow_old (w.drewN k) os hj⟩
end Go.Proofs.YtipakjenggeflaaGreatDoor
