/- What texts are to these proofs: the byte at a place of a string; small facts on strings and lists. -/
import Derived.Test.YtjnjokbdoendkaaGreatBase
import Derived.Lib.Strings
namespace Go.Proofs.YtjnjokbdoendkaaGreat
open Go.RowKit
set_option linter.unusedVariables false

/-- the byte at a place of a string -/
def sb (s : ByteArray) (i : Nat) : Int := ((s.data.toList.getD i 0).toNat : Int)
set_option maxRecDepth 100000 in
theorem sb_eq (s : ByteArray) (i : Nat) (h : i < s.size) : (((s[i]'h).toNat : Nat) : Int) = sb s i := by
  have h2 : i < s.data.toList.length := by rw [← Lib.size_eq]; exact h
  unfold sb
  rw [List.getD_eq_getElem?_getD, List.getElem?_eq_getElem h2, Option.getD_some]
  rfl
end Go.Proofs.YtjnjokbdoendkaaGreat
