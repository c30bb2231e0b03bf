/- What New, Count and Add answer. -/
import Derived.Test.YtaphbenkkicbhaaDoorTake
namespace Go.Proofs.YtaphbenkkicbhaaDoor
open Go.RowKit
set_option linter.unusedVariables false

set_option maxRecDepth 100000 in
set_option maxHeartbeats 400000 in
theorem new_any (w : World) :
    Calls Tryd.prog 43 #[] w fun e w' => ∃ g, e = .returned (.pointer (some ⟨g, 0, none⟩)) ∧ HashAt w' g [] ∧ w.heap.size ≤ g ∧ Below w.heap.size w w' := by
  go_enter Tryd.func43, Tryd.ntmps43
  go_wp2_with fail
  refine (first_any _).mono ?_
  rintro e w1 ⟨rfl, hb1⟩
  have hsz := hb1.size
  have HB : Bx (Below w.heap.size w (w1.alloc (.cells (hcl st0 (List.replicate 64 0) 0).toArray 78))) := ⟨hb1.alloc hb1.size _⟩
  have HH : Bx (HashAt (w1.alloc (.cells (hcl st0 (List.replicate 64 0) 0).toArray 78)) w1.heap.size []) := ⟨⟨_, rst_nil, heap_alloc_new _ _⟩⟩
  clear hb1
  simp only []
  go_step
  refine wpList_run rfl (.agg (hcl st0 (List.replicate 64 0) 0).toArray) w1 (by kernel_rfl) ?_
  generalize (hcl st0 (List.replicate 64 0) 0).toArray = A at HB HH ⊢
  go_wp2
  go_ret
  exact ⟨_, rfl, HH.out, hsz, HB.out⟩

theorem hash_made {w : World} {g n : Nat} {s : St} {r : List Int} {t : TypeId} (h : w.heap[g]? = some (.cells (hcl s r n).toArray t (0, 0))) : w.cell? ⟨g, 0, none⟩ = some (.bool true) := by
  rw [cell_of_row w g 0 _ t (0, 0) h]; rfl
end Go.Proofs.YtaphbenkkicbhaaDoor
