/- Bools in a block of their own. No walk. -/
import Derived.Test.YtedingegmiacmaaQTurn
import Derived.Test.YtedingegmiacmaaQLives
import Derived.Deep.OwnRows
namespace Go.Proofs.Ytedingegmiacmaa
open Go.RowKit
set_option linter.unusedVariables false

/-- bools in a block of their own -/
structure Bb (w : World) (g n : Nat) (B : List Bool) : Prop where
  row : w.heap[g]? = some (.cells (B.map Value.bool).toArray 4 (0, 0))
  len : B.length = n
section
variable {w w' : World} {g n : Nat} {B : List Bool}
set_option maxRecDepth 100000 in
theorem Bb.lt (h : Bb w g n B) : g < w.heap.size := (Array.getElem?_eq_some_iff.1 h.row).1
set_option maxRecDepth 100000 in
theorem Bb.cell (h : Bb w g n B) (i : Nat) (hi : i < n) : w.cell? ⟨g, i, none⟩ = some (.bool (B.getD i false)) := by
  have hi2 : i < B.length := by rw [h.len]; exact hi
  rw [cell_of_row _ g i _ _ (0, 0) h.row, List.getElem?_toArray, List.getElem?_map, List.getElem?_eq_getElem hi2, List.getD_eq_getElem?_getD, List.getElem?_eq_getElem hi2]; rfl
set_option maxRecDepth 100000 in
theorem Bb.froz (h : Bb w g n B) (i : Nat) : w.frozen? ⟨g, i, none⟩ = false := frozen_of_row _ g i _ _ h.row
set_option maxRecDepth 100000 in
theorem Bb.set (h : Bb w g n B) (i : Nat) (x : Bool) : Bb (w.setCell ⟨g, i, none⟩ (.bool x)) g n (B.set i x) :=
  ⟨by rw [heap_setCell_same w g i _ _ _ h.row, List.setIfInBounds_toArray, List.map_set], by rw [List.length_set]; exact h.len⟩
set_option maxRecDepth 100000 in
theorem Bb.below (h : Bb w g n B) (hb : Below w.heap.size w w') : Bb w' g n B := ⟨(hb.block g h.lt).trans h.row, h.len⟩
set_option maxRecDepth 100000 in
theorem Bb.bvs (h : Bb w g n B) (hn : n ≤ 1000) : Bvs w (some ⟨g, 0, none⟩) n n B :=
  ⟨h.len, Nat.le_refl _, by unfold maxLen; omega, (fun e => by cases e), fun _ => ⟨g, 0, rfl, h.lt, fun i hi j hj => by
    obtain rfl : j = 0 := by omega
    have hi2 : i < n := by rw [← h.len]; exact hi
    rw [Nat.zero_add, Nat.mul_one, Nat.add_zero, h.cell i hi2, List.getD_eq_getElem?_getD, List.getElem?_eq_getElem hi]; rfl⟩⟩
end
set_option maxRecDepth 100000 in
theorem made_1 (z : Value) (n : Nat) : (madeCells #[z] n).toList = List.replicate n z := by
  apply List.ext_getElem?
  intro i
  by_cases hi : i < n
  · rw [Array.getElem?_toList]
    unfold madeCells
    rw [Array.getElem?_map, Array.getElem?_range, if_pos hi, List.getElem?_replicate, if_pos hi]
    simp [Nat.mod_one]
  · rw [List.getElem?_eq_none (by rw [Array.length_toList, size_madeCells]; omega), List.getElem?_eq_none (by rw [List.length_replicate]; omega)]
set_option maxRecDepth 100000 in
theorem made_b (n : Nat) : madeCells #[.bool false] n = ((List.replicate n false).map Value.bool).toArray := by
  apply Array.ext'
  rw [made_1, List.toList_toArray, List.map_replicate]
end Go.Proofs.Ytedingegmiacmaa
