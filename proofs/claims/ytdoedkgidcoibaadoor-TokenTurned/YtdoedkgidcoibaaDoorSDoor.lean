/- From the row's list to the table of addends. -/
import Derived.Test.YtdoedkgidcoibaaDoorTDoor
import Derived.Test.YtdoedkgidcoibaaDoorSmb
namespace Go.Proofs.YtdoedkgidcoibaaDoor
open Go.RowKit
set_option linter.unusedVariables false

theorem gTab : Tryd.prog.globalNamed "inquest/sha.addends" = some 4 := by kernel_rfl
theorem gTabType : (Tryd.prog.globals[4]?).map (·.type) = some 105 := by kernel_rfl
theorem cellsA : Tryd.prog.cellsOf 105 = 64 := by kernel_rfl
theorem cellsE32 : Tryd.prog.cellsOf 83 = 1 := by kernel_rfl
set_option maxRecDepth 100000 in
/-- what the row's list gives: the table's cells hold the numbers k -/
theorem tab_at {W : World} {l : List (String × DataW Unit)} (h : laidMet Tryd.prog l W) (i : Nat) (hi : l[i]? = some ("inquest/sha.addends", Rows.laid_inquest_sha_addends)) : Tab W := by
  obtain ⟨r, h2⟩ := laid_at l i h hi
  have ht : Lib.TabIs Tryd.prog W "inquest/sha.addends" .u32 keyL := Lib.tabIs_of_head gTab gTabType Tryd.underlying105 Tryd.underlying83 cellsE32 cellsA h2
  have hc : ∀ i, i < 64 → W.cell? ⟨4, i, none⟩ = some (.int .u32 (keyL.getD i 0)) := fun i hi => by
    have h1 := World.var?_cell gTab ht i
    rw [h1, List.getElem?_toArray]
    exact uv_getD keyL i hi
  exact ⟨block_lt_of_cell (hc 0 (by decide)), hc⟩
end Go.Proofs.YtdoedkgidcoibaaDoor
