/- What Name answers, the program's and the document's: whether a text is a name. -/
import Derived.Test.YtlodbkjjkhpbaaaDoorTBase
namespace Go.Proofs.YtlodbkjjkhpbaaaDoor
open Go.RowKit
set_option linter.unusedVariables false

/-- a to z; 0 to 9 -/
def isLet (c : Int) : Bool := decide (97 ≤ c) && decide (c ≤ 122)
def isDig (c : Int) : Bool := decide (48 ≤ c) && decide (c ≤ 57)
def isNamed (c : Int) : Bool := isLet c || (isDig c || decide (c = 45))
/-- what a name is -/
def NameP (s : ByteArray) : Prop := 1 ≤ s.size ∧ s.size ≤ 16 ∧ isLet (sb s 0) = true ∧ ∀ j, j < s.size → isNamed (sb s j) = true

/-- the same as an answer -/
def nameB (s : ByteArray) : Bool := decide (1 ≤ s.size) && (decide (s.size ≤ 16) && (isLet (sb s 0) && (List.range s.size).all fun j => isNamed (sb s j)))
set_option maxRecDepth 100000 in
theorem nameB_iff (s : ByteArray) : nameB s = true ↔ NameP s := by simp [nameB, NameP]
set_option maxRecDepth 100000 in
theorem nameB_yes {s : ByteArray} (h : NameP s) : true = nameB s := ((nameB_iff s).2 h).symm
set_option maxRecDepth 100000 in
theorem nameB_not {s : ByteArray} (h : ¬ NameP s) : false = nameB s := by
  cases e : nameB s
  · rfl
  · exact absurd ((nameB_iff s).1 e) h
set_option maxRecDepth 100000 in
theorem named_step {s : ByteArray} {k : Nat} (h : ∀ j, j < k → isNamed (sb s j) = true) (hk : isNamed (sb s k) = true) : ∀ j, j < k + 1 → isNamed (sb s j) = true := by
  intro j hj
  by_cases e : j = k
  · rw [e]; exact hk
  · exact h j (by omega)

end Go.Proofs.YtlodbkjjkhpbaaaDoor
