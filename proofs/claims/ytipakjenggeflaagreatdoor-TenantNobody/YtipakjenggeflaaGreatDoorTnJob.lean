/- What a job that waits says. No walk. -/
import Derived.Test.YtipakjenggeflaaGreatDoorPkaj
import Derived.Test.YtipakjenggeflaaGreatDoorPkab
import Derived.Lib.Bytealg
import Derived.Laws.Concat
import Derived.Lib.AtoiAllCases
import Derived.Lib.Join
import Derived.Lib.Repeat
import Derived.Lib.TrimByte
import Derived.Lib.ItoaLen
namespace Go.Proofs.YtipakjenggeflaaGreatDoor
open Go.RowKit
set_option linter.unusedVariables false
open Go.Lib (decDigits itoa)

/-- a job that waits: the history's name, the specification's, when it was asked for -/
structure Jb where
  h : ByteArray
  s : ByteArray
  t : Int
/-- it can be -/
structure JOk (x : Jb) : Prop where
  h : NameP x.h
  s : NameP x.s
  t : 0 ≤ x.t ∧ x.t ≤ 1099511627776
/-- its three words -/
def jobL (x : Jb) : List UInt8 := Lib.join [x.h.data.toList, x.s.data.toList, itoa x.t] [32]
def jobS (x : Jb) : ByteArray := ⟨(jobL x).toArray⟩
/-- its value: blanks behind, up to 160 bytes -/
def jobV (x : Jb) : ByteArray := jobS x ++ ⟨(Lib.repeatL [32] (160 - (jobS x).size)).toArray⟩
def vJ (x : Jb) : List Int := strL (jobV x)
end Go.Proofs.YtipakjenggeflaaGreatDoor
