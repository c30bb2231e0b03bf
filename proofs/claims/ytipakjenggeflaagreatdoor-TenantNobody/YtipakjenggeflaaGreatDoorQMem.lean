/- The program's queue in memory; whose turn it is, round by round. No walk. -/
import Derived.Test.YtipakjenggeflaaGreatDoorPkae
import Derived.Test.YtipakjenggeflaaGreatDoorPkaa
import Derived.Sort.Row
import Derived.Sort.WalkB12
namespace Go.Proofs.YtipakjenggeflaaGreatDoor
open Go.RowKit
set_option linter.unusedVariables false

/-- what a queue's numbers say -/
structure QV (R : List Int) (most : Nat) (L : List Int) : Prop where
  m : R.getD 0 0 = (most : Int)
  j : ∀ i, i < L.length → R.getD (1 + i) 0 = L.getD i 0
  n : R.getD 9 0 = (L.length : Int)
  l : L.length ≤ 8
/-- the program's queue in memory -/
def Qm (w : World) (g most : Nat) (L : List Int) : Prop := ∃ R, Nb 161 10 w g R ∧ QV R most L
section
variable {w w' : World} {g most : Nat} {L : List Int} {R : List Int}
set_option maxRecDepth 100000 in
theorem Qm.lt (h : Qm w g most L) : g < w.heap.size := by obtain ⟨R, h1, _⟩ := h; exact h1.lt
set_option maxRecDepth 100000 in
theorem Qm.keep (h : Qm w g most L) (hb : w'.heap[g]? = w.heap[g]?) : Qm w' g most L := by obtain ⟨R, h1, h2⟩ := h; exact ⟨R, h1.keep hb, h2⟩
end
end Go.Proofs.YtipakjenggeflaaGreatDoor
