/- One of the bools of a list. No walk. -/
import Derived.Test.YtedingegmiacmaaCMem
namespace Go.Proofs.Ytedingegmiacmaa
open Go.RowKit
set_option linter.unusedVariables false

set_option maxRecDepth 100000 in
theorem Ls.bv {w : World} {ao : Option Addr} {len cap : Nat} {L : List Bool} (h : Bvs w ao len cap L) (i : Nat) (hi : i < len) : ∃ b off, ao = some ⟨b, off, none⟩ ∧ b < w.heap.size ∧ w.cell? ⟨b, off + i, none⟩ = some (.bool (L.getD i false)) := by
  obtain ⟨b, off, e, hlt, hc⟩ := h.spot (by omega)
  have hi2 : i < L.length := by rw [h.len_eq]; exact hi
  have e1 : L.getD i false = L[i] := by rw [List.getD_eq_getElem?_getD, List.getElem?_eq_getElem hi2]; rfl
  have h1 := hc i hi2 0 (by decide)
  rw [Nat.mul_one, Nat.add_zero] at h1
  exact ⟨b, off, e, hlt, by rw [e1]; exact h1⟩
set_option maxRecDepth 100000 in
theorem bv_cell {w : World} {b off n c : Nat} {L : List Bool} {x : Bool} (h : Bvs w (some ⟨b, off, none⟩) n c L) (i : Nat) (hi : i < n) (hx : L.getD i false = x) : w.cell? ⟨b, off + i, none⟩ = some (.bool x) := by
  obtain ⟨b', off', e, _, hh⟩ := h.bv i hi
  cases e
  rw [hx] at hh
  exact hh
end Go.Proofs.Ytedingegmiacmaa
