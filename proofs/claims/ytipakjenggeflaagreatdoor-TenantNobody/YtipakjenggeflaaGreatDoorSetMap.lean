/- A map that is a set: its keys, each with the same element. No walk. -/
import Derived.Test.YtipakjenggeflaaGreatDoorPkae
import Derived.MapKept
import Derived.Maps.Keyed
namespace Go.Proofs.YtipakjenggeflaaGreatDoor
open Go.RowKit Go.MapKept Go.Maps

/-- the keys of a map are these -/
structure Km (P : Program) (k : TypeId) (V : Value) (es : Array MapEntry) (clock : Nat) (L : List Value) : Prop where
  ks : es.toList.map (fun e => e.key) = L
  vs : ∀ e ∈ es.toList, e.val = V
  st : Stamped es clock
  kk : ∀ v ∈ L, ∃ l, keyOf P k v = some l
end Go.Proofs.YtipakjenggeflaaGreatDoor
