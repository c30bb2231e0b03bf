/- Numbers in a block of their own. No walk. -/
import Derived.Test.YtedingegmiacmaaKeep
namespace Go.Proofs.Ytedingegmiacmaa
open Go.RowKit
set_option linter.unusedVariables false

def ivA (R : List Int) : Array Value := (R.map (Value.int .i64)).toArray
set_option maxRecDepth 100000 in
theorem ivA_get (R : List Int) (i : Nat) (h : i < R.length) : (ivA R)[i]? = some (.int .i64 (R.getD i 0)) := by
  unfold ivA; rw [List.getElem?_toArray, List.getElem?_map, List.getElem?_eq_getElem h, List.getD_eq_getElem?_getD, List.getElem?_eq_getElem h]; rfl
set_option maxRecDepth 100000 in
theorem ivA_set (R : List Int) (i : Nat) (x : Int) : (ivA R).setIfInBounds i (.int .i64 x) = ivA (R.set i x) := by
  unfold ivA; rw [List.setIfInBounds_toArray, List.map_set]
set_option maxRecDepth 100000 in
theorem getD_set (R : List Int) (i j : Nat) (x : Int) (h : i < R.length) : (R.set i x).getD j 0 = if j = i then x else R.getD j 0 := by
  by_cases e : j = i
  · subst e; rw [if_pos rfl, List.getD_eq_getElem?_getD, List.getElem?_set_self h]; rfl
  · rw [if_neg e, List.getD_eq_getElem?_getD, List.getElem?_set_ne (Ne.symm e), ← List.getD_eq_getElem?_getD]
/-- numbers in a block of their own -/
structure Nb (T : TypeId) (n : Nat) (w : World) (g : Nat) (R : List Int) : Prop where
  row : w.heap[g]? = some (.cells (ivA R) T (0, 0))
  len : R.length = n
section
variable {T : TypeId} {n : Nat} {w w' : World} {g : Nat} {R : List Int}
set_option maxRecDepth 100000 in
theorem Nb.lt (h : Nb T n w g R) : g < w.heap.size := (Array.getElem?_eq_some_iff.1 h.row).1
set_option maxRecDepth 100000 in
theorem Nb.cell (h : Nb T n w g R) (i : Nat) (hi : i < n) : w.cell? ⟨g, i, none⟩ = some (.int .i64 (R.getD i 0)) := by
  rw [cell_of_row _ g i _ _ (0, 0) h.row]; exact ivA_get R i (by rw [h.len]; exact hi)
set_option maxRecDepth 100000 in
theorem Nb.froz (h : Nb T n w g R) (i : Nat) : w.frozen? ⟨g, i, none⟩ = false := frozen_of_row _ g i _ _ h.row
set_option maxRecDepth 100000 in
theorem Nb.set (h : Nb T n w g R) (i : Nat) (x : Int) : Nb T n (w.setCell ⟨g, i, none⟩ (.int .i64 x)) g (R.set i x) :=
  ⟨by rw [heap_setCell_same w g i _ T _ h.row, ivA_set], by rw [List.length_set]; exact h.len⟩
set_option maxRecDepth 100000 in
theorem Nb.keep (h : Nb T n w g R) (hb : w'.heap[g]? = w.heap[g]?) : Nb T n w' g R := ⟨hb.trans h.row, h.len⟩
set_option maxRecDepth 100000 in
theorem Nb.kept {own : Nat → Prop} (h : Nb T n w g R) (hb : Kept own w w') (ho : ¬ own g) : Nb T n w' g R := h.keep (hb.block g h.lt ho)
set_option maxRecDepth 100000 in
theorem Nb.below (h : Nb T n w g R) (hb : Below w.heap.size w w') : Nb T n w' g R := h.keep (hb.block g h.lt)
set_option maxRecDepth 100000 in
theorem Nb.new (w : World) (R : List Int) (T : TypeId) : Nb T R.length (w.alloc (.cells (ivA R) T)) w.heap.size R := ⟨heap_alloc_new _ _, rfl⟩
end
set_option maxRecDepth 100000 in
theorem kept_own {a w : World} {g : Nat} (h : Kept (fun j => j = g) a w) (i : Nat) (x : Value) : Kept (fun j => j = g) a (w.setCell ⟨g, i, none⟩ x) := h.setCell (g := g) (Or.inl (Eq.refl g)) _ _
set_option maxRecDepth 100000 in
theorem getD_append_last (s : List Int) (x : Int) (i : Nat) : (s ++ [x]).getD i 0 = if i = s.length then x else s.getD i 0 := by
  by_cases e : i = s.length
  · subst e; rw [if_pos rfl, List.getD_eq_getElem?_getD, List.getElem?_append_right (Nat.le_refl _)]; simp
  · rw [if_neg e]
    by_cases h : i < s.length
    · rw [List.getD_eq_getElem?_getD, List.getElem?_append_left h, ← List.getD_eq_getElem?_getD]
    · rw [List.getD_eq_getElem?_getD, List.getElem?_eq_none (by rw [List.length_append]; show s.length + 1 ≤ i; omega), List.getD_eq_getElem?_getD, List.getElem?_eq_none (by omega)]
end Go.Proofs.Ytedingegmiacmaa
