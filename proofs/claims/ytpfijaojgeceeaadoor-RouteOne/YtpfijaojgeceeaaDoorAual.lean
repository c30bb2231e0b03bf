/- A new variable of so many cells, whatever is in it. No walk. Numbers and bools in memory. No walk. -/
import Derived.Test.YtpfijaojgeceeaaDoorAuaj
import Derived.Test.YtpfijaojgeceeaaDoorKeep
import Derived.Test.YtpfijaojgeceeaaDoorLsMem
namespace Go.Proofs.YtpfijaojgeceeaaDoor
open Go.RowKit
set_option linter.unusedVariables false

/-- a new variable -/
structure NV (T : TypeId) (sz N0 g : Nat) (wr : World) : Prop where
  ge : N0 ≤ g
  row : ∃ cs : Array Value, cs.size = sz ∧ wr.heap[g]? = some (.cells cs T (0, 0))
set_option maxRecDepth 100000 in
theorem NV.lt {T : TypeId} {sz N0 g : Nat} {wr : World} (h : NV T sz N0 g wr) : g < wr.heap.size := by obtain ⟨cs, _, e⟩ := h.row; exact (Array.getElem?_eq_some_iff.1 e).1
set_option maxRecDepth 100000 in
theorem NV.step {T : TypeId} {sz N0 g : Nat} {wr w1 : World} (h : NV T sz N0 g wr) (hb : Below wr.heap.size wr w1) : NV T sz N0 g w1 := by
  have hlt := h.lt
  obtain ⟨cs, hs, e⟩ := h.row
  exact ⟨h.ge, cs, hs, (hb.block g hlt).trans e⟩
set_option maxRecDepth 100000 in
theorem NV.new {T : TypeId} {sz N0 : Nat} {wr : World} {cs : Array Value} (hN : N0 ≤ wr.heap.size) (hs : cs.size = sz) : NV T sz N0 wr.heap.size (wr.alloc (.cells cs T)) := ⟨hN, cs, hs, heap_alloc_new _ _⟩
set_option maxRecDepth 100000 in
theorem NV.there {T : TypeId} {sz N0 g : Nat} {wr : World} (h : NV T sz N0 g wr) {D : Array Value} (hD : D.size = sz) : wr.there g 0 D.size := by
  obtain ⟨cs, hs, e⟩ := h.row
  have := there_row e
  rw [hs, ← hD] at this
  exact this
set_option maxRecDepth 100000 in
theorem NV.put {T : TypeId} {sz N0 g : Nat} {wr : World} (h : NV T sz N0 g wr) {D : Array Value} (hD : D.size = sz) : (wr.setCells g 0 D.toList).heap[g]? = some (.cells D T (0, 0)) := by
  obtain ⟨cs, hs, e⟩ := h.row
  exact heap_stored e (by rw [hs, hD])
set_option maxRecDepth 100000 in
theorem NV.but {T : TypeId} {sz N0 g h : Nat} {wr : World} (k : NV T sz N0 g wr) (hne : g ≠ h) (vs : List Value) : NV T sz N0 g (wr.setCells h 0 vs) := by
  obtain ⟨cs, hs, e⟩ := k.row
  exact ⟨k.ge, cs, hs, (setCells_other hne vs 0).trans e⟩
set_option maxRecDepth 100000 in
theorem nv_but {wr : World} {g h : Nat} {T : TypeId} {D : Array Value} (k : wr.heap[g]? = some (.cells D T (0, 0))) (hne : g ≠ h) (vs : List Value) : (wr.setCells h 0 vs).heap[g]? = some (.cells D T (0, 0)) := (setCells_other hne vs 0).trans k
set_option maxRecDepth 100000 in
theorem nv_range {w w' : World} {b o : Nat} {vs : List Value} (h : w.rangeAt b o vs) (hb : Below w.heap.size w w') (hlt : b < w.heap.size) : w'.rangeAt b o vs := fun j v hj => (hb.cell hlt).trans (h j v hj)
end Go.Proofs.YtpfijaojgeceeaaDoor
namespace Go.Proofs.YtpfijaojgeceeaaDoor
open Go.RowKit
set_option linter.unusedVariables false

def ivC (d : Int) : List Value := [.int .i64 d]
def bvC (g : Bool) : List Value := [.bool g]
set_option maxRecDepth 100000 in
theorem ivC_len (d : Int) : (ivC d).length = 1 := rfl
set_option maxRecDepth 100000 in
theorem bvC_len (g : Bool) : (bvC g).length = 1 := rfl
set_option maxRecDepth 100000 in
theorem ivC_one (d : Int) : ∀ u ∈ ivC d, u.oneCell' = true := by intro u hu; simp [ivC] at hu; subst hu; rfl
set_option maxRecDepth 100000 in
theorem bvC_one (g : Bool) : ∀ u ∈ bvC g, u.oneCell' = true := by intro u hu; simp [bvC] at hu; subst hu; rfl
abbrev Ivs := Ls ivC 1
abbrev Bvs := Ls bvC 1
set_option maxRecDepth 100000 in
theorem Ls.iv {w : World} {ao : Option Addr} {len cap : Nat} {L : List Int} (h : Ivs w ao len cap L) (i : Nat) (hi : i < len) (z : Int) : ∃ b off, ao = some ⟨b, off, none⟩ ∧ b < w.heap.size ∧ w.cell? ⟨b, off + i, none⟩ = some (.int .i64 (L.getD i z)) := by
  obtain ⟨b, off, e, hlt, hc⟩ := h.spot (by omega)
  have hi2 : i < L.length := by rw [h.len_eq]; exact hi
  have e1 : L.getD i z = L[i] := by rw [List.getD_eq_getElem?_getD, List.getElem?_eq_getElem hi2]; rfl
  have h1 := hc i hi2 0 (by decide)
  rw [Nat.mul_one, Nat.add_zero] at h1
  exact ⟨b, off, e, hlt, by rw [e1]; exact h1⟩
set_option maxRecDepth 100000 in
theorem iv_map (D : List Int) : D.flatMap ivC = D.map (Value.int .i64) := by
  induction D with
  | nil => rfl
  | cons d t ih => rw [List.flatMap_cons, ih]; rfl
set_option maxRecDepth 100000 in
theorem bv_map (G : List Bool) : G.flatMap bvC = G.map Value.bool := by
  induction G with
  | nil => rfl
  | cons d t ih => rw [List.flatMap_cons, ih]; rfl
set_option maxRecDepth 100000 in
theorem iv_set (D : List Int) (j : Nat) (d : Int) : (D.flatMap ivC).set j (.int .i64 d) = (D.set j d).flatMap ivC := by rw [iv_map, iv_map, List.map_set]
set_option maxRecDepth 100000 in
theorem bv_set (G : List Bool) (j : Nat) (g : Bool) : (G.flatMap bvC).set j (.bool g) = (G.set j g).flatMap bvC := by rw [bv_map, bv_map, List.map_set]
set_option maxRecDepth 100000 in
theorem iv_get (D : List Int) (j : Nat) (h : j < D.length) (z : Int) : (D.flatMap ivC)[j]? = some (.int .i64 (D.getD j z)) := by rw [iv_map, List.getElem?_map, List.getElem?_eq_getElem h, List.getD_eq_getElem?_getD, List.getElem?_eq_getElem h]; rfl
set_option maxRecDepth 100000 in
theorem bv_get' (G : List Bool) (j : Nat) (h : j < G.length) (z : Bool) : (G.flatMap bvC)[j]? = some (.bool (G.getD j z)) := by rw [bv_map, List.getElem?_map, List.getElem?_eq_getElem h, List.getD_eq_getElem?_getD, List.getElem?_eq_getElem h]; rfl
end Go.Proofs.YtpfijaojgeceeaaDoor
