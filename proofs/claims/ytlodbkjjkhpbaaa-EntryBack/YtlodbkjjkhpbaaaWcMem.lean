/- Sixty-four bools in a variable. No walk. -/
import Derived.Test.YtlodbkjjkhpbaaaCMem
namespace Go.Proofs.Ytlodbkjjkhpbaaa
open Go.RowKit
set_option linter.unusedVariables false

/-- who stands there: sixty-four bools in a variable -/
def WC (w : World) (g : Nat) (W : Int → Bool) : Prop := ∃ cs : Array Value, w.heap[g]? = some (.cells cs 68 (0, 0)) ∧ cs.size = 64 ∧ ∀ c : Nat, c < 64 → cs[c]? = some (.bool (W c))
set_option maxRecDepth 100000 in
theorem WC.cell {w : World} {g : Nat} {W : Int → Bool} (h : WC w g W) (c : Nat) (hc : c < 64) : w.cell? ⟨g, c, none⟩ = some (.bool (W c)) ∧ w.frozen? ⟨g, c, none⟩ = false := by
  obtain ⟨cs, h1, _, h3⟩ := h
  exact ⟨by rw [cell_of_row _ _ c cs _ (0, 0) h1]; exact h3 c hc, frozen_of_row _ _ c cs _ h1⟩
set_option maxRecDepth 100000 in
theorem WC.lt {w : World} {g : Nat} {W : Int → Bool} (h : WC w g W) : g < w.heap.size := by
  obtain ⟨cs, h1, _⟩ := h
  exact (Array.getElem?_eq_some_iff.1 h1).1
set_option maxRecDepth 100000 in
theorem WC.below {w w' : World} {g : Nat} {W : Int → Bool} (h : WC w g W) (hb : Below w.heap.size w w') : WC w' g W := by
  have hlt := h.lt
  obtain ⟨cs, h1, h2⟩ := h
  exact ⟨cs, (hb.block g hlt).trans h1, h2⟩
set_option maxRecDepth 100000 in
theorem WC.set {w : World} {g : Nat} {W W' : Int → Bool} (h : WC w g W) (c : Nat) (hc : c < 64) (k : Bool) (hW : ∀ d : Int, W' d = if d = (c : Int) then k else W d) : WC (w.setCell ⟨g, c, none⟩ (.bool k)) g W' := by
  obtain ⟨cs, h1, h2, h3⟩ := h
  refine ⟨cs.setIfInBounds c (.bool k), heap_setCell_same w g c cs _ _ h1, by simp [h2], fun d hd => ?_⟩
  rw [Array.getElem?_setIfInBounds, hW d]
  by_cases e : c = d
  · subst e; rw [if_pos rfl, if_pos (by omega), if_pos rfl]
  · rw [if_neg e, if_neg (by omega)]; exact h3 d hd
set_option maxRecDepth 100000 in
theorem wc_get (c : Nat) (hc : c < 64) : (#[.bool false, .bool false, .bool false, .bool false, .bool false, .bool false, .bool false, .bool false, .bool false, .bool false, .bool false, .bool false, .bool false, .bool false, .bool false, .bool false, .bool false, .bool false, .bool false, .bool false, .bool false, .bool false, .bool false, .bool false, .bool false, .bool false, .bool false, .bool false, .bool false, .bool false, .bool false, .bool false, .bool false, .bool false, .bool false, .bool false, .bool false, .bool false, .bool false, .bool false, .bool false, .bool false, .bool false, .bool false, .bool false, .bool false, .bool false, .bool false, .bool false, .bool false, .bool false, .bool false, .bool false, .bool false, .bool false, .bool false, .bool false, .bool false, .bool false, .bool false, .bool false, .bool false, .bool false, .bool false] : Array Value)[c]? = some (.bool false) := by
  rw [show (#[.bool false, .bool false, .bool false, .bool false, .bool false, .bool false, .bool false, .bool false, .bool false, .bool false, .bool false, .bool false, .bool false, .bool false, .bool false, .bool false, .bool false, .bool false, .bool false, .bool false, .bool false, .bool false, .bool false, .bool false, .bool false, .bool false, .bool false, .bool false, .bool false, .bool false, .bool false, .bool false, .bool false, .bool false, .bool false, .bool false, .bool false, .bool false, .bool false, .bool false, .bool false, .bool false, .bool false, .bool false, .bool false, .bool false, .bool false, .bool false, .bool false, .bool false, .bool false, .bool false, .bool false, .bool false, .bool false, .bool false, .bool false, .bool false, .bool false, .bool false, .bool false, .bool false, .bool false, .bool false] : Array Value) = Array.replicate 64 (.bool false) from rfl, Array.getElem?_replicate, if_pos hc]
set_option maxRecDepth 100000 in
theorem wc_new (w : World) : WC (w.alloc (.cells #[.bool false, .bool false, .bool false, .bool false, .bool false, .bool false, .bool false, .bool false, .bool false, .bool false, .bool false, .bool false, .bool false, .bool false, .bool false, .bool false, .bool false, .bool false, .bool false, .bool false, .bool false, .bool false, .bool false, .bool false, .bool false, .bool false, .bool false, .bool false, .bool false, .bool false, .bool false, .bool false, .bool false, .bool false, .bool false, .bool false, .bool false, .bool false, .bool false, .bool false, .bool false, .bool false, .bool false, .bool false, .bool false, .bool false, .bool false, .bool false, .bool false, .bool false, .bool false, .bool false, .bool false, .bool false, .bool false, .bool false, .bool false, .bool false, .bool false, .bool false, .bool false, .bool false, .bool false, .bool false] 68)) w.heap.size (fun _ => false) :=
  ⟨_, heap_alloc_new w _, rfl, fun c hc => wc_get c hc⟩
set_option maxRecDepth 100000 in
theorem take_iv (C : List Int) (m : Nat) (h : m < C.length) : C.take (m + 1) = C.take m ++ [C.getD m 0] := by
  rw [List.take_add_one, List.getElem?_eq_getElem h, List.getD_eq_getElem?_getD, List.getElem?_eq_getElem h]; rfl
set_option maxRecDepth 100000 in
theorem all_snoc {p : Nat → Bool} {m : Nat} (h : (List.range m).all p = true) (h2 : p m = true) : (List.range (m + 1)).all p = true := by
  rw [List.range_succ, List.all_append, h, Bool.true_and]; simp [h2]
end Go.Proofs.Ytlodbkjjkhpbaaa
