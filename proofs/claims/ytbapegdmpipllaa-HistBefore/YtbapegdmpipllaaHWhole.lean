/- What there is to be counted of a history's operations. No walk. -/
import Derived.Test.YtbapegdmpipllaaHFew
import Derived.Test.YtbapegdmpipllaaHBef
import Derived.Test.YtbapegdmpipllaaHistText2
namespace Go.Proofs.Ytbapegdmpipllaa
open Go.RowKit
set_option linter.unusedVariables false

set_option maxRecDepth 100000 in
theorem Try.infoI : (Try.prog.info? 3).map (fun i => (i.zero, i.size, i.bytes)) = some (some (.int .i64 0), 1, 8) := by kernel_rfl
/-- so many numbers as cells -/
def ctC (n : Nat) (h : Nat → Nat) : List Value := (List.range n).map (fun j => Value.int .i64 (h j : Int))
set_option maxRecDepth 100000 in
theorem ctC_len (n : Nat) (h : Nat → Nat) : (ctC n h).length = n := by simp [ctC]
set_option maxRecDepth 100000 in
theorem ctC_get (n : Nat) (h : Nat → Nat) (j : Nat) (hj : j < n) : (ctC n h)[j]? = some (.int .i64 (h j : Int)) := by unfold ctC; rw [List.getElem?_map, List.getElem?_range hj]; rfl
set_option maxRecDepth 100000 in
theorem ctC_congr {n : Nat} {h g : Nat → Nat} (e : ∀ j, j < n → h j = g j) : ctC n h = ctC n g := by
  unfold ctC; exact List.map_congr_left fun j hj => by rw [e j (List.mem_range.1 hj)]
set_option maxRecDepth 100000 in
theorem ctC_set (n : Nat) (h g : Nat → Nat) (p : Nat) (hp : p < n) (x : Int) (hx : x = (g p : Int)) (hg : ∀ j, j < n → j ≠ p → g j = h j) : (ctC n h).set p (.int .i64 x) = ctC n g := by
  apply List.ext_getElem?
  intro j
  by_cases hj : j < n
  · rw [ctC_get n g j hj]
    by_cases e : p = j
    · subst e; rw [List.getElem?_set_self (by rw [ctC_len]; exact hj), hx]
    · rw [List.getElem?_set_ne e, ctC_get n h j hj, hg j hj (fun k => e k.symm)]
  · rw [List.getElem?_eq_none (by rw [List.length_set, ctC_len]; omega), List.getElem?_eq_none (by rw [ctC_len]; omega)]
set_option maxRecDepth 100000 in
theorem mk_ints (n : Nat) : (madeCells (Value.int .i64 0).cells (n * 1)).toList = ctC n (fun _ => 0) := by
  apply List.ext_getElem?
  intro i
  unfold ctC
  rw [List.getElem?_map]
  by_cases hi : i < n
  · rw [List.getElem?_range hi]; simp [madeCells, Value.cells, hi, Nat.mod_one]
  · rw [List.getElem?_eq_none (by rw [Array.length_toList, size_madeCells]; omega), List.getElem?_eq_none (by rw [List.length_range]; omega)]; rfl
set_option maxRecDepth 100000 in
theorem take_op (O : List Opr) (i : Nat) (h : i < O.length) : O.take (i + 1) = O.take i ++ [O.getD i op0] := by
  rw [List.take_add_one, List.getD_eq_getElem?_getD, List.getElem?_eq_getElem h]; rfl
set_option maxRecDepth 100000 in
theorem sn_snoc (O : List Opr) (i : Nat) (h : i < O.length) (j : Int) : sn (O.take (i + 1)) j = sn (O.take i) j + ((if (O.getD i op0).f = j then 1 else 0) + (if (O.getD i op0).d = true ∧ (O.getD i op0).t = j then 1 else 0)) := by
  rw [take_op O i h, sn_append]; rfl
set_option maxRecDepth 100000 in
theorem sn_le (O : List Opr) (i : Nat) (j : Int) : sn (O.take i) j ≤ sn O j := by
  have h := sn_append (O.take i) (O.drop i) j
  rw [List.take_append_drop] at h
  omega
set_option maxRecDepth 100000 in
theorem pair_get {R : Opr → Opr → Prop} {O : List Opr} (h : O.Pairwise R) {k i : Nat} (hk : k < i) (hi : i < O.length) : R (O.getD k op0) (O.getD i op0) := by
  have h1 := List.pairwise_iff_getElem.1 h k i (by omega) hi hk
  rw [List.getD_eq_getElem?_getD, List.getElem?_eq_getElem (show k < O.length by omega), List.getD_eq_getElem?_getD, List.getElem?_eq_getElem hi]
  exact h1
set_option maxRecDepth 100000 in
theorem get_mem {O : List Opr} {i : Nat} (hi : i < O.length) : O.getD i op0 ∈ O := by
  rw [List.getD_eq_getElem?_getD, List.getElem?_eq_getElem hi]; exact List.getElem_mem hi
set_option maxRecDepth 100000 in
theorem sn_open {x fN j : Nat} {t : Int} : x + ((if (fN : Int) = (j : Int) then 1 else 0) + (if false = true ∧ t = (j : Int) then 1 else 0)) = x + (if fN = j then 1 else 0) := by
  rw [if_neg (show ¬ (false = true ∧ t = (j : Int)) from fun h => by cases h.1)]
  by_cases h : fN = j
  · rw [if_pos (by omega), if_pos h]
  · rw [if_neg (by omega), if_neg h]
set_option maxRecDepth 100000 in
theorem sn_done {x fN tN j : Nat} : x + ((if (fN : Int) = (j : Int) then 1 else 0) + (if true = true ∧ (tN : Int) = (j : Int) then 1 else 0)) = x + (if fN = j then 1 else 0) + (if tN = j then 1 else 0) := by
  have e1 : (if (fN : Int) = (j : Int) then 1 else 0) = (if fN = j then 1 else 0) := by
    by_cases h : fN = j
    · rw [if_pos (by omega), if_pos h]
    · rw [if_neg (by omega), if_neg h]
  have e2 : (if true = true ∧ (tN : Int) = (j : Int) then 1 else 0) = (if tN = j then 1 else 0) := by
    by_cases h : tN = j
    · rw [if_pos ⟨rfl, by omega⟩, if_pos h]
    · rw [if_neg (by rintro ⟨_, h2⟩; omega), if_neg h]
  rw [e1, e2, Nat.add_assoc]
end Go.Proofs.Ytbapegdmpipllaa
