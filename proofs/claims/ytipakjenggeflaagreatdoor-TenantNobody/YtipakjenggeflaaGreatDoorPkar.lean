/- A set of places as the bits of a number. No walk. The frames of a search that goes by a stack, against the search. No walk. -/
import Derived.Test.YtipakjenggeflaaGreatDoorPkae
import Derived.Test.YtipakjenggeflaaGreatDoorPkaa
import Derived.Laws.Bits64b
namespace Go.Proofs.YtipakjenggeflaaGreatDoor
open Go.RowKit
set_option linter.unusedVariables false

/-- which places are in -/
def bsI (n x : Nat) : List Bool := (List.range n).map x.testBit
end Go.Proofs.YtipakjenggeflaaGreatDoor
namespace Go.Proofs.YtipakjenggeflaaGreatDoor
open Go.RowKit
set_option linter.unusedVariables false

/-- a frame: the set's bits, the cells, the place -/
structure Fr where
  x : Nat
  S : List Int
  k : Nat
/-- a position: the set's bits, the cells -/
abbrev Ps := Nat × List Int
def Fr.q (f : Fr) : Ps := (f.x, f.S)
def psO (n : Nat) (q : Ps) : Po := (bsI n q.1, q.2)
def Fr.p (n : Nat) (f : Fr) : Po := psO n f.q
/-- a position's numbers fit -/
structure PsK (n : Nat) (q : Ps) : Prop where
  lt : q.1 < 2 ^ n
  four : q.2.length = 4
  v : ∀ y ∈ q.2, V64 y
/-- those below, as they are gone on with: the top one first -/
def belF (n : Nat) (B : List Fr) : List (Po × Nat) := B.reverse.map fun f => (f.p n, f.k + 1)
def kB (n : Nat) (B : List Fr) (f : Fr) : List (Fm Po) := kOf n (B.map Fr.k) ((f.p n, f.k) :: belF n B)
/-- where it stands, a try due -/
def Run (s : Sr Po) (X : Ss Po) (B : List Fr) (f : Fr) (M : List Ps) (t : Nat) : Prop :=
  X = ⟨0, [], kB s.n B f, M.map (psO s.n), t⟩ ∧ f.k < s.n ∧ s.free (f.p s.n) f.k = true ∧ s.full (f.p s.n) = false
end Go.Proofs.YtipakjenggeflaaGreatDoor
