/- What the document's three, key and First answer. -/
import Derived.Test.YtaphbenkkicbhabDoorShaMath
import Derived.Test.YtaphbenkkicbhabDoorTurn
namespace Go.Proofs.YtaphbenkkicbhabDoor
open Go.RowKit
set_option linter.unusedVariables false


theorem uv_getD (l : List Int) (i : Nat) (h : i < l.length) : (uv l)[i]? = some (.int .u32 (l.getD i 0)) := by
  rw [uv, List.getElem?_map, List.getElem?_eq_getElem h, List.getD_eq_getElem?_getD, List.getElem?_eq_getElem h]; rfl
theorem keyL_length : keyL.length = 64 := rfl
theorem keyL_size : (uv keyL).toArray.size = 64 := rfl
theorem key_info : (Tryd.prog.info? 69).map (·.size) = some (uv keyL).toArray.size := by kernel_rfl
end Go.Proofs.YtaphbenkkicbhabDoor
