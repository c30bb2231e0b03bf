/- A machine is made. -/
import Derived.Test.YtipakjenggeflaaGreatDoorPkae
import Derived.Test.YtipakjenggeflaaGreatDoorPkaa
import Derived.Test.YtipakjenggeflaaGreatDoorPkag
import Derived.Deep.CutRange
import Derived.Defers
import Derived.Recover
import Derived.Laws.OwnMore
import Derived.BigQuiet
import Derived.Deep.OwnRows
import Derived.BigRegion
import Derived.Laws.IdiomStrings
import Derived.Lib.Strings
namespace Go.Proofs.YtipakjenggeflaaGreatDoor
open Go.RowKit
set_option linter.unusedVariables false

/-- a machine in memory -/
structure Mc (w : World) (gm gc cc : Nat) (l : List Ic) : Prop where
  row : w.heap[gm]? = some (.cells #[.slice (some ⟨gc, 0, none⟩) l.length cc] 319 (0, 0))
  ics : Ics w (some ⟨gc, 0, none⟩) l.length cc l
  ok : (thrC l).2.2 = 0
  ln : 1 ≤ l.length ∧ l.length ≤ 200
section
variable {w w' : World} {gm gc cc : Nat} {l : List Ic}
set_option maxRecDepth 100000 in
theorem Mc.keep (h : Mc w gm gc cc l) (h1 : w'.heap[gm]? = w.heap[gm]?) (h2 : w'.heap[gc]? = w.heap[gc]?) (hs : w.heap.size ≤ w'.heap.size) : Mc w' gm gc cc l :=
  ⟨h1.trans h.row, h.ics.keep (fun p e _ => by cases e; exact h2) hs, h.ok, h.ln⟩
end
end Go.Proofs.YtipakjenggeflaaGreatDoor
