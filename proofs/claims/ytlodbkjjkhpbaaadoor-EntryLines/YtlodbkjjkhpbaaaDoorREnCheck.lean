/- What the document's own Check answers. -/
import Derived.Test.YtlodbkjjkhpbaaaDoorEnCheck
namespace Go.Proofs.YtlodbkjjkhpbaaaDoor
open Go.RowKit
set_option linter.unusedVariables false

set_option maxRecDepth 100000 in
theorem chk_ord {j t k r : Int} {DH DS o : List Int} (h : ordO o = false) : chkN ⟨j, t, DH, DS, k, r, o⟩ = 2 := by
  unfold chkN
  rw [if_neg]
  intro hc
  have := ((canN_iff _).1 hc).2.2
  simp only at this
  rw [h] at this
  cases this
set_option maxRecDepth 100000 in
theorem contains_take {o : List Int} {m i : Nat} {x : Int} (hi : i < m) (hm : m ≤ o.length) (h : o.getD i 0 = x) : (o.take m).contains x = true := by
  rw [List.contains_eq_mem, decide_eq_true_eq]
  have h2 : (o.take m)[i]? = some x := by rw [List.getElem?_take, if_pos hi, List.getElem?_eq_getElem (by omega), ← h, List.getD_eq_getElem?_getD, List.getElem?_eq_getElem (by omega)]; rfl
  exact List.mem_of_getElem? h2
set_option maxRecDepth 100000 in
theorem not_contains {o : List Int} {m : Nat} {x : Int} (h : ∀ i, i < m → i < o.length → o.getD i 0 ≠ x) : (o.take m).contains x = false := by
  rw [List.contains_eq_mem, decide_eq_false_iff_not]
  intro hx
  obtain ⟨i, hi, e⟩ := List.mem_iff_getElem.1 hx
  rw [List.length_take] at hi
  apply h i (by omega) (by omega)
  rw [List.getElem_take] at e
  rw [List.getD_eq_getElem?_getD, List.getElem?_eq_getElem (by omega), ← e]; rfl
end Go.Proofs.YtlodbkjjkhpbaaaDoor
