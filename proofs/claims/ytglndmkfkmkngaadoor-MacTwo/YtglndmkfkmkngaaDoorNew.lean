/- What New, Count and Add answer. -/
import Derived.Test.YtglndmkfkmkngaaDoorTake
namespace Go.Proofs.YtglndmkfkmkngaaDoor
open Go.RowKit
set_option linter.unusedVariables false

set_option maxRecDepth 100000 in
set_option maxHeartbeats 400000 in
theorem new_any (w : World) :
    Calls Tryd.prog 27 #[] w fun e w' => ∃ g, e = .returned (.pointer (some ⟨g, 0, none⟩)) ∧ HashAt w' g [] ∧ w.heap.size ≤ g ∧ Below w.heap.size w w' := by
  go_enter Tryd.func27, Tryd.ntmps27
  go_wp2_with fail
  refine (first_any _).mono ?_
  rintro e w1 ⟨rfl, hb1⟩
  have hsz := hb1.size
  have HB : Bx (Below w.heap.size w (w1.alloc (.cells (hcl st0 (List.replicate 64 0) 0).toArray 56))) := ⟨hb1.alloc hb1.size _⟩
  have HH : Bx (HashAt (w1.alloc (.cells (hcl st0 (List.replicate 64 0) 0).toArray 56)) w1.heap.size []) := ⟨⟨_, rst_nil, heap_alloc_new _ _⟩⟩
  clear hb1
  simp only []
  go_step
  refine wpList_run rfl (.agg (hcl st0 (List.replicate 64 0) 0).toArray) w1 (by kernel_rfl) ?_
  generalize (hcl st0 (List.replicate 64 0) 0).toArray = A at HB HH ⊢
  go_wp2
  go_ret
  exact ⟨_, rfl, HH.out, hsz, HB.out⟩

theorem hash_made {w : World} {g n : Nat} {s : St} {r : List Int} {t : TypeId} (h : w.heap[g]? = some (.cells (hcl s r n).toArray t (0, 0))) : w.cell? ⟨g, 0, none⟩ = some (.bool true) := by
  rw [cell_of_row w g 0 _ t (0, 0) h]; rfl
set_option maxHeartbeats 400000 in
theorem add_nil (v : Value) (w : World) :
    Calls Tryd.prog 30 #[.pointer none, v] w fun e w' => e = .returned (.int .i64 1) ∧ w = w' := by
  go_enter Tryd.func30, Tryd.ntmps30
  go_wp2
  go_ret
  exact ⟨rfl, rfl⟩
set_option maxHeartbeats 400000 in
theorem add_plain (g : Nat) (v : Value) (w : World) (hc : w.cell? ⟨g, 0, none⟩ = some (.bool false)) :
    Calls Tryd.prog 30 #[.pointer (some ⟨g, 0, none⟩), v] w fun e w' => e = .returned (.int .i64 1) ∧ w = w' := by
  go_enter Tryd.func30, Tryd.ntmps30
  go_wp2
  go_ret
  exact ⟨rfl, rfl⟩
set_option maxHeartbeats 400000 in
theorem add_any (g : Nat) (l m : List Int) (a : Option Addr) (len cap : Nat) (w : World) (hh : HashAt w g l) (hm : Bts w a len cap m) (ha : 0 < len → ∀ p, a = some p → p.block ≠ g) (hg : 0 < g) (htab : Tab w) (hbd : l.length + len ≤ 4611686018427387904) :
    Calls Tryd.prog 30 #[.pointer (some ⟨g, 0, none⟩), .slice a len cap] w fun e w' => e = .returned (.int .i64 0) ∧ HashAt w' g (l ++ m) ∧ But g w w' := by
  obtain ⟨r, hr, hrow⟩ := hh
  have hc := hash_made hrow
  have HH : Hid (HashAt w g l) := ⟨r, hr, hrow⟩
  clear hrow
  go_enter Tryd.func30, Tryd.ntmps30
  go_wp2_with fail
  refine (take_any g l m a len cap _ HH.out hm ha hg htab hbd).mono ?_
  rintro e w1 ⟨⟨v, rfl⟩, hash, hbut⟩
  go_wp2
  go_ret
  exact ⟨rfl, hash, hbut⟩
end Go.Proofs.YtglndmkfkmkngaaDoor
