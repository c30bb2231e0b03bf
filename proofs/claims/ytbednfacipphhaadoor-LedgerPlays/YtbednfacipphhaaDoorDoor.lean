/- From the row's list to the table's cells. -/
import Derived.Test.YtbednfacipphhaaDoorCards
import Derived.Test.YtbednfacipphhaaDoorTie
import Derived.Test.YtbednfacipphhaaDoorAuae
import Derived.ProofKit
import Derived.OpenShut
import Derived.Deep.DeepHandedRow
import Derived.Lib.LaidTab
namespace Go.Proofs.YtbednfacipphhaaDoor
open Go.RowKit
set_option linter.unusedVariables false

set_option maxRecDepth 100000 in
theorem own : ownKnob Tryd.prog.godebug = none := by kernel_rfl
set_option maxRecDepth 100000 in
theorem gTab : Tryd.prog.globalNamed "inquest/sha.addends" = some 0 := by kernel_rfl
set_option maxRecDepth 100000 in
theorem gTabType : (Tryd.prog.globals[0]?).map (·.type) = some 138 := by kernel_rfl
set_option maxRecDepth 100000 in
theorem cellsA : Tryd.prog.cellsOf 138 = 64 := by kernel_rfl
set_option maxRecDepth 100000 in
theorem cellsE : Tryd.prog.cellsOf 102 = 1 := by kernel_rfl
set_option maxRecDepth 100000 in
/-- what the row's list gives: the table's cells hold the numbers k -/
theorem tab_of_laid {W : World} (h : laidMetH Tryd.prog [("inquest/sha.addends", Rows.laid_inquest_sha_addends)] W) : Tab W := by
  have ht : Lib.TabIs Tryd.prog W "inquest/sha.addends" .u32 keyL := Lib.tabIs_of_head (rest := []) gTab gTabType Tryd.underlying138 Tryd.underlying102 cellsE cellsA h
  have hc : ∀ i, i < 64 → W.cell? ⟨0, i, none⟩ = some (.int .u32 (keyL.getD i 0)) := fun i hi => by
    have h1 := World.var?_cell gTab ht i
    rw [h1, List.getElem?_toArray]
    exact uv_getD keyL i hi
  exact ⟨block_lt_of_cell (hc 0 (by decide)), hc⟩
end Go.Proofs.YtbednfacipphhaaDoor
