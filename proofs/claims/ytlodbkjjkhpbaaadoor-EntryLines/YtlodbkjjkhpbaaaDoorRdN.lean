/- How many bytes a short number has. No walk. -/
import Derived.Test.YtlodbkjjkhpbaaaDoorHistText
namespace Go.Proofs.YtlodbkjjkhpbaaaDoor
open Go.RowKit
set_option linter.unusedVariables false

/-- how many bytes a short number has -/
def rdn (l : List Int) : Nat := (rd l 0 0).2.1.toNat
set_option maxRecDepth 100000 in
theorem rdn_bd {l : List Int} (hb : Byt l) : rdn l ≤ l.length ∧ (rd l 0 0).2.1 = (rdn l : Int) := by
  unfold rdn
  by_cases he : (rd l 0 0).2.2 = 0
  · rcases hr : rd l 0 0 with ⟨x, n, e⟩
    rw [hr] at he
    simp only at he
    subst he
    obtain ⟨m, _, h2, h3, _⟩ := rd_back hb hr
    simp only
    omega
  · rw [(rd_err l 0 0 he).2]; simp
end Go.Proofs.YtlodbkjjkhpbaaaDoor
