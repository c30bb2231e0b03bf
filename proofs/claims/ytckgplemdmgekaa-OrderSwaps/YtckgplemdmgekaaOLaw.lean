/- What the laws of orders hold. No walk. -/
import Derived.Test.YtckgplemdmgekaaOLives
import Derived.Test.YtckgplemdmgekaaOFew
import Derived.Test.YtckgplemdmgekaaLeast
namespace Go.Proofs.Ytckgplemdmgekaa
open Go.RowKit
set_option linter.unusedVariables false

section
variable {α : Type} {en : α → List Value} {k : Nat} {w w' : World} {ao : Option Addr} {len cap : Nat} {L : List α}
set_option maxRecDepth 100000 in
theorem Ls.blk (h : Ls en k w ao len cap L) : ∀ p, ao = some p → 0 < len → p.block < w.heap.size := by
  intro p e hp
  obtain ⟨b, off, e2, hlt, _⟩ := h.spot hp
  rw [e] at e2; cases e2; exact hlt
end
/-- numbers as cells -/
def ctC (n : Nat) (h : Nat → Nat) : List Value := (List.range n).map (fun j => Value.int .i64 (h j : Int))
set_option maxRecDepth 100000 in
theorem ctC_len (n : Nat) (h : Nat → Nat) : (ctC n h).length = n := by simp [ctC]
set_option maxRecDepth 100000 in
theorem ctC_get (n : Nat) (h : Nat → Nat) (j : Nat) (hj : j < n) : (ctC n h)[j]? = some (.int .i64 (h j : Int)) := by unfold ctC; rw [List.getElem?_map, List.getElem?_range hj]; rfl
set_option maxRecDepth 100000 in
theorem ctC_set (n : Nat) (h g : Nat → Nat) (p : Nat) (hp : p < n) (x : Int) (hx : x = (g p : Int)) (hg : ∀ j, j < n → j ≠ p → g j = h j) : (ctC n h).set p (.int .i64 x) = ctC n g := by
  apply List.ext_getElem?
  intro j
  by_cases hj : j < n
  · rw [ctC_get n g j hj]
    by_cases e : p = j
    · subst e; rw [List.getElem?_set_self (by rw [ctC_len]; exact hj), hx]
    · rw [List.getElem?_set_ne e, ctC_get n h j hj, hg j hj (fun k => e k.symm)]
  · rw [List.getElem?_eq_none (by rw [List.length_set, ctC_len]; omega), List.getElem?_eq_none (by rw [ctC_len]; omega)]
set_option maxRecDepth 100000 in
theorem mk_ints (n : Nat) : (madeCells (Value.int .i64 0).cells (n * 1)).toList = ctC n (fun _ => 0) := by
  apply List.ext_getElem?
  intro i
  unfold ctC
  rw [List.getElem?_map]
  by_cases hi : i < n
  · rw [List.getElem?_range hi]; simp [madeCells, Value.cells, hi, Nat.mod_one]
  · rw [List.getElem?_eq_none (by rw [Array.length_toList, size_madeCells]; omega), List.getElem?_eq_none (by rw [List.length_range]; omega)]; rfl
/-- where a place stands among the first of an order, from 1 on; 0: nowhere -/
def plA (J : List Int) : Nat → Nat → Nat
  | 0, _ => 0
  | k + 1, j => if J.getD k 0 = (j : Int) then k + 1 else plA J k j
set_option maxRecDepth 100000 in
theorem plA_pos {J : List Int} : ∀ {k j : Nat}, 0 < plA J k j → plA J k j - 1 < k ∧ J.getD (plA J k j - 1) 0 = (j : Int)
  | 0, j, h => by unfold plA at h; omega
  | k + 1, j, h => by
    unfold plA at h ⊢
    by_cases e : J.getD k 0 = (j : Int)
    · rw [if_pos e]; exact ⟨by omega, by rw [Nat.add_sub_cancel]; exact e⟩
    · rw [if_neg e] at h ⊢
      have := plA_pos h
      exact ⟨by omega, this.2⟩
set_option maxRecDepth 100000 in
theorem plA_has {J : List Int} : ∀ {k j i : Nat}, i < k → J.getD i 0 = (j : Int) → 0 < plA J k j
  | 0, j, i, h, _ => absurd h (Nat.not_lt_zero _)
  | k + 1, j, i, h, e => by
    unfold plA
    by_cases e2 : J.getD k 0 = (j : Int)
    · rw [if_pos e2]; omega
    · rw [if_neg e2]
      by_cases e3 : i = k
      · subst e3; exact absurd e e2
      · exact plA_has (by omega) e
set_option maxRecDepth 100000 in
theorem plA_le (J : List Int) (k j : Nat) : plA J k j ≤ k := by
  rcases Nat.eq_zero_or_pos (plA J k j) with h | h
  · omega
  · have := (plA_pos h).1; omega
set_option maxRecDepth 100000 in
theorem plA_new {m : Nat} {J : List Int} (h : ordA m J = true) {k p : Nat} (hk : k < J.length) (e : J.getD k 0 = (p : Int)) : plA J k p = 0 := by
  rcases Nat.eq_zero_or_pos (plA J k p) with h1 | h1
  · exact h1
  · obtain ⟨h2, h3⟩ := plA_pos h1
    have := ordA_inj h (i := plA J k p - 1) (k := k) (by omega) hk (h3.trans e.symm)
    omega
set_option maxRecDepth 100000 in
theorem plA_done {ops : List Opr} {J : List Int} (h : ordN ops J = false) {j : Nat} (hj : j < ops.length) (hd : (ops.getD j op0).d = true) : 0 < plA J J.length j := by
  have hm := ordN_iff.1 h j hj hd
  obtain ⟨i, hi, e⟩ := List.getElem_of_mem hm
  exact plA_has hi (by rw [List.getD_eq_getElem?_getD, List.getElem?_eq_getElem hi]; exact e)
set_option maxRecDepth 100000 in
/-- time, as places have it -/
theorem plA_time {ops : List Opr} {J : List Int} (h : ordT ops J = false) {i k : Nat} (hi : 0 < plA J J.length i) (hk : 0 < plA J J.length k) (hb : befO (ops.getD i op0) (ops.getD k op0) = true) : plA J J.length i ≤ plA J J.length k := by
  obtain ⟨i1, i2⟩ := plA_pos hi
  obtain ⟨k1, k2⟩ := plA_pos hk
  rcases Nat.lt_or_ge (plA J J.length k) (plA J J.length i) with hlt | hge
  · have := ordT_iff.1 h (plA J J.length k - 1) (plA J J.length i - 1) (by omega) i1
    rw [i2, k2, opAt_nat, opAt_nat, hb] at this
    cases this
  · exact hge
set_option maxRecDepth 100000 in
/-- an owned row of numbers -/
theorem own_iv {w : World} {N g m c : Nat} {J : List Int} (h : w.ownsRow N 3 1 (.slice (some ⟨g, 0, none⟩) m c) m (J.flatMap ivC)) (hl : J.length = m) (i : Nat) (hi : i < m) {x : Int} (hx : J.getD i 0 = x) : w.cell? ⟨g, i, none⟩ = some (.int .i64 x) := by
  have := h.cellAt i (by omega)
  rw [this, iv_get J i (by omega) 0, hx]
set_option maxRecDepth 100000 in
theorem own_put {w : World} {N g m c : Nat} {J : List Int} (h : w.ownsRow N 3 1 (.slice (some ⟨g, 0, none⟩) m c) m (J.flatMap ivC)) (i : Nat) (y : Int) : (w.setCell ⟨g, i, none⟩ (.int .i64 y)).ownsRow N 3 1 (.slice (some ⟨g, 0, none⟩) m c) m ((J.set i y).flatMap ivC) := by
  have h1 := (h.stored i (.int .i64 y)).1
  rw [iv_set] at h1
  exact h1
set_option maxRecDepth 100000 in
theorem op_zero : (Try.prog.info? 38).map (fun i => i.zero.map (·.cells.size)) = some (some 7) := by kernel_rfl
set_option maxRecDepth 100000 in
theorem op_size : (Try.prog.info? 38).map (·.size) = some 7 := by kernel_rfl
def opA (X : Opr) : Array Value := #[.int .i64 X.c, .int .i64 X.o, .int .i64 X.a, .bool X.d, .int .i64 X.r, .int .i64 X.f, .int .i64 X.t]
set_option maxRecDepth 100000 in
theorem op_one (X : Opr) : (#[Value.int .i64 X.c, .int .i64 X.o, .int .i64 X.a, .bool X.d, .int .i64 X.r, .int .i64 X.f, .int .i64 X.t]).all (·.oneCell') = true := by simp [Value.oneCell']
end Go.Proofs.Ytckgplemdmgekaa
