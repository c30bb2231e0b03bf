/- What the document's Put answers. -/
import Derived.Test.YtaphbenkkicbhabDoorPut
namespace Go.Proofs.YtaphbenkkicbhabDoor
open Go.RowKit
set_option linter.unusedVariables false

theorem putL_getD (x : Int) (n k : Nat) (h : k < n) : (putL x n).getD k 0 = sh x (n - 1 - k) % 256 := by
  induction n generalizing k with
  | zero => omega
  | succ n ih =>
    cases k with
    | zero => simp [putL]
    | succ k =>
      have := ih k (by omega)
      rw [show n + 1 - 1 - (k + 1) = n - 1 - k from by omega, ← this]
      simp [putL]
theorem putL_take (x : Int) (n k : Nat) (h : k < n) : (putL x n).take (k + 1) = (putL x n).take k ++ [sh x (n - 1 - k) % 256] := by
  rw [take_succ_getD _ k (by rw [putL_length]; exact h), putL_getD x n k h]
theorem putL_byt (x : Int) (n : Nat) : Byt (putL x n) := by
  induction n with
  | zero => exact Byt.nil
  | succ n ih => exact Byt.cons (by omega) ih


theorem refput_rel {w wr w1 : World} {x : Int} {n k : Nat} {v v' : Value} {c : Int} {o : Obj} (hk : k < n) (hc : c = sh x (n - 1 - k) % 256)
    (hown : wr.ownsRow w.heap.size 5 1 v k (bv ((putL x n).take k))) (hb : Below w.heap.size w wr)
    (h1 : w1.ownsRow w.heap.size 5 1 v' (k + 1) (bv ((putL x n).take k) ++ [.int .u8 c])) (hg : (wr.alloc o).grownBy w1 v.ownBlock) :
    w1.ownsRow w.heap.size 5 1 v' (k + 1) (bv ((putL x n).take (k + 1))) ∧ Below w.heap.size w w1 := by
  refine ⟨?_, ?_⟩
  · rw [putL_take x n k hk, bv_append, ← hc]; exact h1
  · refine (hb.alloc hb.size o).grown hg (by have := hb.size; simp; omega) ?_
    intro g hg'
    exact (hown.lt g hg').1

end Go.Proofs.YtaphbenkkicbhabDoor
