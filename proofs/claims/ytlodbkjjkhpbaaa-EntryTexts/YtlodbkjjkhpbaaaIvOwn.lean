/- An owned row of numbers: one of them, and one that is written. No walk. -/
import Derived.Test.YtlodbkjjkhpbaaaCMem
namespace Go.Proofs.Ytlodbkjjkhpbaaa
open Go.RowKit
set_option linter.unusedVariables false

set_option maxRecDepth 100000 in
theorem own_iv {w : World} {N g m c : Nat} {J : List Int} (h : w.ownsRow N 3 1 (.slice (some ⟨g, 0, none⟩) m c) m (J.flatMap ivC)) (hl : J.length = m) (i : Nat) (hi : i < m) {x : Int} (hx : J.getD i 0 = x) : w.cell? ⟨g, i, none⟩ = some (.int .i64 x) := by
  have := h.cellAt i (by omega)
  rw [this, iv_get J i (by omega) 0, hx]
set_option maxRecDepth 100000 in
theorem own_put {w : World} {N g m c : Nat} {J : List Int} (h : w.ownsRow N 3 1 (.slice (some ⟨g, 0, none⟩) m c) m (J.flatMap ivC)) (i : Nat) (y : Int) : (w.setCell ⟨g, i, none⟩ (.int .i64 y)).ownsRow N 3 1 (.slice (some ⟨g, 0, none⟩) m c) m ((J.set i y).flatMap ivC) := by
  have h1 := (h.stored i (.int .i64 y)).1
  rw [iv_set] at h1
  exact h1
end Go.Proofs.Ytlodbkjjkhpbaaa
