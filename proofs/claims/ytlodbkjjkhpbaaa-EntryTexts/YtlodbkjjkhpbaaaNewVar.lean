/- A new variable of so many cells, whatever is in it. No walk. -/
import Derived.Test.YtlodbkjjkhpbaaaAlloc
import Derived.Test.YtlodbkjjkhpbaaaKeep
namespace Go.Proofs.Ytlodbkjjkhpbaaa
open Go.RowKit
set_option linter.unusedVariables false

/-- a new variable -/
structure NV (T : TypeId) (sz N0 g : Nat) (wr : World) : Prop where
  ge : N0 ≤ g
  row : ∃ cs : Array Value, cs.size = sz ∧ wr.heap[g]? = some (.cells cs T (0, 0))
set_option maxRecDepth 100000 in
theorem NV.lt {T : TypeId} {sz N0 g : Nat} {wr : World} (h : NV T sz N0 g wr) : g < wr.heap.size := by obtain ⟨cs, _, e⟩ := h.row; exact (Array.getElem?_eq_some_iff.1 e).1
set_option maxRecDepth 100000 in
theorem NV.step {T : TypeId} {sz N0 g : Nat} {wr w1 : World} (h : NV T sz N0 g wr) (hb : Below wr.heap.size wr w1) : NV T sz N0 g w1 := by
  have hlt := h.lt
  obtain ⟨cs, hs, e⟩ := h.row
  exact ⟨h.ge, cs, hs, (hb.block g hlt).trans e⟩
set_option maxRecDepth 100000 in
theorem NV.new {T : TypeId} {sz N0 : Nat} {wr : World} {cs : Array Value} (hN : N0 ≤ wr.heap.size) (hs : cs.size = sz) : NV T sz N0 wr.heap.size (wr.alloc (.cells cs T)) := ⟨hN, cs, hs, heap_alloc_new _ _⟩
set_option maxRecDepth 100000 in
theorem NV.there {T : TypeId} {sz N0 g : Nat} {wr : World} (h : NV T sz N0 g wr) {D : Array Value} (hD : D.size = sz) : wr.there g 0 D.size := by
  obtain ⟨cs, hs, e⟩ := h.row
  have := there_row e
  rw [hs, ← hD] at this
  exact this
set_option maxRecDepth 100000 in
theorem NV.put {T : TypeId} {sz N0 g : Nat} {wr : World} (h : NV T sz N0 g wr) {D : Array Value} (hD : D.size = sz) : (wr.setCells g 0 D.toList).heap[g]? = some (.cells D T (0, 0)) := by
  obtain ⟨cs, hs, e⟩ := h.row
  exact heap_stored e (by rw [hs, hD])
set_option maxRecDepth 100000 in
theorem NV.but {T : TypeId} {sz N0 g h : Nat} {wr : World} (k : NV T sz N0 g wr) (hne : g ≠ h) (vs : List Value) : NV T sz N0 g (wr.setCells h 0 vs) := by
  obtain ⟨cs, hs, e⟩ := k.row
  exact ⟨k.ge, cs, hs, (setCells_other hne vs 0).trans e⟩
set_option maxRecDepth 100000 in
theorem nv_but {wr : World} {g h : Nat} {T : TypeId} {D : Array Value} (k : wr.heap[g]? = some (.cells D T (0, 0))) (hne : g ≠ h) (vs : List Value) : (wr.setCells h 0 vs).heap[g]? = some (.cells D T (0, 0)) := (setCells_other hne vs 0).trans k
set_option maxRecDepth 100000 in
theorem nv_range {w w' : World} {b o : Nat} {vs : List Value} (h : w.rangeAt b o vs) (hb : Below w.heap.size w w') (hlt : b < w.heap.size) : w'.rangeAt b o vs := fun j v hj => (hb.cell hlt).trans (h j v hj)
end Go.Proofs.Ytlodbkjjkhpbaaa
