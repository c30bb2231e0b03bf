/- Numbers and bools in memory. No walk. -/
import Derived.Test.YtpfijaojgeceeaaDoorLsMem
namespace Go.Proofs.YtpfijaojgeceeaaDoor
open Go.RowKit
set_option linter.unusedVariables false

def ivC (d : Int) : List Value := [.int .i64 d]
def bvC (g : Bool) : List Value := [.bool g]
set_option maxRecDepth 100000 in
theorem ivC_len (d : Int) : (ivC d).length = 1 := rfl
set_option maxRecDepth 100000 in
theorem bvC_len (g : Bool) : (bvC g).length = 1 := rfl
set_option maxRecDepth 100000 in
theorem ivC_one (d : Int) : ∀ u ∈ ivC d, u.oneCell' = true := by intro u hu; simp [ivC] at hu; subst hu; rfl
set_option maxRecDepth 100000 in
theorem bvC_one (g : Bool) : ∀ u ∈ bvC g, u.oneCell' = true := by intro u hu; simp [bvC] at hu; subst hu; rfl
abbrev Ivs := Ls ivC 1
abbrev Bvs := Ls bvC 1
set_option maxRecDepth 100000 in
theorem Ls.iv {w : World} {ao : Option Addr} {len cap : Nat} {L : List Int} (h : Ivs w ao len cap L) (i : Nat) (hi : i < len) (z : Int) : ∃ b off, ao = some ⟨b, off, none⟩ ∧ b < w.heap.size ∧ w.cell? ⟨b, off + i, none⟩ = some (.int .i64 (L.getD i z)) := by
  obtain ⟨b, off, e, hlt, hc⟩ := h.spot (by omega)
  have hi2 : i < L.length := by rw [h.len_eq]; exact hi
  have e1 : L.getD i z = L[i] := by rw [List.getD_eq_getElem?_getD, List.getElem?_eq_getElem hi2]; rfl
  have h1 := hc i hi2 0 (by decide)
  rw [Nat.mul_one, Nat.add_zero] at h1
  exact ⟨b, off, e, hlt, by rw [e1]; exact h1⟩
set_option maxRecDepth 100000 in
theorem iv_map (D : List Int) : D.flatMap ivC = D.map (Value.int .i64) := by
  induction D with
  | nil => rfl
  | cons d t ih => rw [List.flatMap_cons, ih]; rfl
set_option maxRecDepth 100000 in
theorem bv_map (G : List Bool) : G.flatMap bvC = G.map Value.bool := by
  induction G with
  | nil => rfl
  | cons d t ih => rw [List.flatMap_cons, ih]; rfl
set_option maxRecDepth 100000 in
theorem iv_set (D : List Int) (j : Nat) (d : Int) : (D.flatMap ivC).set j (.int .i64 d) = (D.set j d).flatMap ivC := by rw [iv_map, iv_map, List.map_set]
set_option maxRecDepth 100000 in
theorem bv_set (G : List Bool) (j : Nat) (g : Bool) : (G.flatMap bvC).set j (.bool g) = (G.set j g).flatMap bvC := by rw [bv_map, bv_map, List.map_set]
set_option maxRecDepth 100000 in
theorem iv_get (D : List Int) (j : Nat) (h : j < D.length) (z : Int) : (D.flatMap ivC)[j]? = some (.int .i64 (D.getD j z)) := by rw [iv_map, List.getElem?_map, List.getElem?_eq_getElem h, List.getD_eq_getElem?_getD, List.getElem?_eq_getElem h]; rfl
set_option maxRecDepth 100000 in
theorem bv_get' (G : List Bool) (j : Nat) (h : j < G.length) (z : Bool) : (G.flatMap bvC)[j]? = some (.bool (G.getD j z)) := by rw [bv_map, List.getElem?_map, List.getElem?_eq_getElem h, List.getD_eq_getElem?_getD, List.getElem?_eq_getElem h]; rfl
end Go.Proofs.YtpfijaojgeceeaaDoor
