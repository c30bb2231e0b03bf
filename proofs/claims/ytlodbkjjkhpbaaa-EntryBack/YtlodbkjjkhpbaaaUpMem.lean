/- What stays when new memory is made. No walk. -/
import Derived.Test.YtlodbkjjkhpbaaaNewVar
namespace Go.Proofs.Ytlodbkjjkhpbaaa
open Go.RowKit
set_option linter.unusedVariables false

/-- what stays when new memory is made -/
def Up (Q : World → Prop) : Prop := ∀ W W', Q W → Below W.heap.size W W' → Q W'
/-- held, and new memory changes it not -/
structure HX (Q : World → Prop) (w W : World) : Prop where
  low : Below w.heap.size w W
  up : Up Q
  q : Q W
set_option maxRecDepth 100000 in
theorem HX.step {Q : World → Prop} {w W W' : World} (h : HX Q w W) (hb : Below W.heap.size W W') : HX Q w W' := ⟨bstep h.low hb, h.up, h.up _ _ h.q hb⟩
set_option maxRecDepth 100000 in
theorem up_row {g : Nat} {o : Obj} : Up (fun W => W.heap[g]? = some o) := fun W W' h hb => (hb.block g (Array.getElem?_eq_some_iff.1 h).1).trans h
set_option maxRecDepth 100000 in
theorem up_size {N : Nat} : Up (fun W => N ≤ W.heap.size) := fun W W' h hb => Nat.le_trans h hb.size
set_option maxRecDepth 100000 in
theorem Up.and {P Q : World → Prop} (h : Up P) (k : Up Q) : Up (fun W => P W ∧ Q W) := fun W W' q hb => ⟨h _ _ q.1 hb, k _ _ q.2 hb⟩
end Go.Proofs.Ytlodbkjjkhpbaaa
