/- A tenant on a disk, ask by ask, job by job; the room that it takes. No walk. -/
import Derived.Test.YtipakjenggeflaaGreatDoorPkak
import Derived.Test.YtipakjenggeflaaGreatDoorPkae
import Derived.Test.YtipakjenggeflaaGreatDoorPkaa
import Derived.Test.YtipakjenggeflaaGreatDoorPkat
namespace Go.Proofs.YtipakjenggeflaaGreatDoor
open Go.RowKit
set_option linter.unusedVariables false

/-- a tenant with its disk and its log -/
structure TX where
  s : DS
  L : LS
  T : TS
set_option maxRecDepth 100000 in
theorem cmC_200 (e : Int) : cmC e = 200 ↔ e = 0 := by
  unfold cmC
  by_cases h : e = 0
  · simp [h]
  · rw [if_neg h]
    constructor
    · intro h2
      split at h2 <;> cases h2
    · intro h2; exact absurd h2 h
end Go.Proofs.YtipakjenggeflaaGreatDoor
