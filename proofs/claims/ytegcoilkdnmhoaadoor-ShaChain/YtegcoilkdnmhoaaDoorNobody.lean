/- What the Sum of a hash answers that no call made. -/
import Derived.Test.YtegcoilkdnmhoaaDoorHSum
import Derived.Test.YtegcoilkdnmhoaaDoorEql
namespace Go.Proofs.YtegcoilkdnmhoaaDoor
open Go.RowKit
set_option linter.unusedVariables false

/-- an operation that the kernel runs, by its name -/
theorem wpList_runOp {P : Program} {ops : Array Oper} {rest : List Oper} {o : Oper} {a : Act} {w : World} {Q : Exit → Act → World → Prop} (hgd : o.guard = none) (op : Op) (ho : o.op = op) (v : Value) (w' : World)
    (hrun : (execOp a.eval o).run P w = .ok (.value v) w') (h : wpList P ops Q rest (a.put o.dst v) w') : wpList P ops Q (o :: rest) a w := wpList_run hgd v w' hrun h
/-- 32 noughts -/
def z32 : Array Value := (bv (List.replicate 32 0)).toArray
theorem zero_size : z32.size = 32 := rfl
theorem zero_one : z32.all (·.oneCell') = true := all_oneCell_toArray (bv_one (List.replicate 32 0))
theorem zero_info : (Tryd.prog.info? 26).map (·.size) = some z32.size := by rw [zero_size]; exact dig_info
theorem zero_eq (w : World) : (Op.equalIn 10000 26 (.agg z32) (.agg #[.int .u8 0, .int .u8 0, .int .u8 0, .int .u8 0, .int .u8 0, .int .u8 0, .int .u8 0, .int .u8 0, .int .u8 0, .int .u8 0, .int .u8 0, .int .u8 0, .int .u8 0, .int .u8 0, .int .u8 0, .int .u8 0, .int .u8 0, .int .u8 0, .int .u8 0, .int .u8 0, .int .u8 0, .int .u8 0, .int .u8 0, .int .u8 0, .int .u8 0, .int .u8 0, .int .u8 0, .int .u8 0, .int .u8 0, .int .u8 0, .int .u8 0, .int .u8 0])).run Tryd.prog w = .ok true w := dig_eq (List.replicate 32 0) (by simp) w
theorem zero_start (w : World) : Bx (((w.alloc (.cells z32 26)).setCells w.heap.size 0 z32.toList).heap[w.heap.size]? = some (.cells z32 26 (0, 0))) ∧ Bx (Below w.heap.size w ((w.alloc (.cells z32 26)).setCells w.heap.size 0 z32.toList)) ∧ Bx ((w.alloc (.cells z32 26)).there w.heap.size 0 z32.size) := by
  have hb0 : Below w.heap.size w (w.alloc (.cells z32 26)) := (Below.refl _ _).alloc (Nat.le_refl _) _
  exact ⟨⟨heap_stored (vs := z32) (heap_alloc_new w (.cells z32 26)) rfl⟩, ⟨below_setCells hb0 w.heap.size (Nat.le_refl _) z32.toList 0⟩, ⟨there_new w z32 26⟩⟩

set_option maxRecDepth 100000 in
set_option maxHeartbeats 400000 in
theorem hsum_nil (w : World) :
    Calls Tryd.prog 24 #[.pointer none] w fun e w' => e = .returned (.agg z32) ∧ Below w.heap.size w w' := by
  obtain ⟨HS, HB, HT⟩ := zero_start w
  go_enter Tryd.func24, Tryd.ntmps24
  go_wp2_with (first | (refine wpList_runOp rfl (.alloc 26) rfl (.pointer (some ⟨w.heap.size, 0, none⟩)) (w.alloc (.cells z32 26)) (by kernel_rfl) ?_) | (refine wpList_runOp rfl (.build 26 #[]) rfl (.agg z32) (w.alloc (.cells z32 26)) (by kernel_rfl) ?_; refine wpList_store_mid rfl 26 (.tmp 2) (.tmp 16) rfl w.heap.size 0 z32 rfl rfl HT.out zero_info zero_one ?_))
  exact bodyPost_ret (v := .agg z32) (results_cell_row rfl _ _ w.heap.size 26 z32 (0, 0) _ rfl HS.out Tryd.underlying26 rfl zero_info) rfl ⟨rfl, HB.out⟩
set_option maxRecDepth 100000 in
set_option maxHeartbeats 400000 in
theorem hsum_plain (g : Nat) (w : World) (hg : g < w.heap.size) (hc : w.cell? ⟨g, 0, none⟩ = some (.bool false)) :
    Calls Tryd.prog 24 #[.pointer (some ⟨g, 0, none⟩)] w fun e w' => e = .returned (.agg z32) ∧ Below w.heap.size w w' := by
  have hb0 : Below w.heap.size w (w.alloc (.cells z32 26)) := (Below.refl _ _).alloc (Nat.le_refl _) _
  have hc0 := (hb0.cell (p := ⟨g, 0, none⟩) hg).trans hc
  obtain ⟨HS, HB, HT⟩ := zero_start w
  clear hb0
  go_enter Tryd.func24, Tryd.ntmps24
  go_wp2_with (first | (refine wpList_runOp rfl (.alloc 26) rfl (.pointer (some ⟨w.heap.size, 0, none⟩)) (w.alloc (.cells z32 26)) (by kernel_rfl) ?_) | (refine wpList_runOp rfl (.build 26 #[]) rfl (.agg z32) (w.alloc (.cells z32 26)) (by kernel_rfl) ?_; refine wpList_store_mid rfl 26 (.tmp 2) (.tmp 16) rfl w.heap.size 0 z32 rfl rfl HT.out zero_info zero_one ?_))
  exact bodyPost_ret (v := .agg z32) (results_cell_row rfl _ _ w.heap.size 26 z32 (0, 0) _ rfl HS.out Tryd.underlying26 rfl zero_info) rfl ⟨rfl, HB.out⟩
end Go.Proofs.YtegcoilkdnmhoaaDoor
