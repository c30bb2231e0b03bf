/- A digest in a variable, and its bytes. -/
import Derived.Test.YtfkloilbjfleeaaDoorSmc
namespace Go.Proofs.YtfkloilbjfleeaaDoor
open Go.RowKit
set_option linter.unusedVariables false

theorem dig_all (O : Nat) (w : World) : (Instr.sliceAt 42 (.pointer (some ⟨O, 0, none⟩)) none none none).run Tryd.prog w = .ok (.slice (some ⟨O, 0, none⟩) 32 32) w := by
  have hlen : Tryd.prog.arrayLen 42 = 32 := by kernel_rfl
  have ht : Tryd.prog.underlying 42 = some (.array (Tryd.prog.arrayLen 42) (Tryd.prog.elem 42)) := by kernel_rfl
  have hsz : (sizeOf (Tryd.prog.elem 42)).run Tryd.prog w = .ok 1 w := by kernel_rfl
  rw [run_sliceAt_array_all w 42 ⟨O, 0, none⟩ ht, hsz, hlen]
  simp only [Result.andThen_ok, slicedAt]
  rw [if_neg (by decide), Addr.add_lit]
theorem bts_cells {w : World} {g n : Nat} {l : List Int} {t : TypeId} (h : w.heap[g]? = some (.cells (bv l).toArray t (0, 0))) (hb : Byt l) (hn : l.length = n) (hm : n ≤ maxLen) : Bts w (some ⟨g, 0, none⟩) n n l := by
  refine ⟨hn, hb, Nat.le_refl _, hm, (fun hh => by cases hh), fun _ => ⟨g, 0, rfl, (Array.getElem?_eq_some_iff.1 h).1, fun i hi => ?_⟩⟩
  rw [Nat.zero_add]; exact bv_cell h i (by omega)
/-- a digest that is put into a new variable -/
structure DV (w W : World) (l : List Int) : Prop where
  low : Below w.heap.size w W
  row : W.heap[w.heap.size]? = some (.cells (bv l).toArray 42 (0, 0))
theorem dig_var (w : World) (l : List Int) (hl : l.length = 32) (D : Array Value) (hD : D = (bv l).toArray) : DV w ((w.alloc (.cells #[.int .u8 0, .int .u8 0, .int .u8 0, .int .u8 0, .int .u8 0, .int .u8 0, .int .u8 0, .int .u8 0, .int .u8 0, .int .u8 0, .int .u8 0, .int .u8 0, .int .u8 0, .int .u8 0, .int .u8 0, .int .u8 0, .int .u8 0, .int .u8 0, .int .u8 0, .int .u8 0, .int .u8 0, .int .u8 0, .int .u8 0, .int .u8 0, .int .u8 0, .int .u8 0, .int .u8 0, .int .u8 0, .int .u8 0, .int .u8 0, .int .u8 0, .int .u8 0] 42)).setCells w.heap.size 0 D.toList) l ∧ (w.alloc (.cells #[.int .u8 0, .int .u8 0, .int .u8 0, .int .u8 0, .int .u8 0, .int .u8 0, .int .u8 0, .int .u8 0, .int .u8 0, .int .u8 0, .int .u8 0, .int .u8 0, .int .u8 0, .int .u8 0, .int .u8 0, .int .u8 0, .int .u8 0, .int .u8 0, .int .u8 0, .int .u8 0, .int .u8 0, .int .u8 0, .int .u8 0, .int .u8 0, .int .u8 0, .int .u8 0, .int .u8 0, .int .u8 0, .int .u8 0, .int .u8 0, .int .u8 0, .int .u8 0] 42)).there w.heap.size 0 D.size ∧ (Tryd.prog.info? 42).map (·.size) = some D.size ∧ D.all (·.oneCell') = true := by
  have hs : D.size = 32 := by rw [hD, List.size_toArray, bv_length, hl]
  refine ⟨⟨below_setCells ((Below.refl _ _).alloc (Nat.le_refl _) _) _ (Nat.le_refl _) _ _, ?_⟩, by rw [hs]; exact there_new _ _ _, by rw [hs]; exact dig_info, by rw [hD]; exact all_oneCell_toArray (bv_one _)⟩
  rw [← hD]; exact heap_stored (vs := D) (heap_alloc_new _ _) (by rw [hs]; rfl)
theorem DV.bts {w W : World} {l : List Int} (h : DV w W l) (hb : Byt l) (hl : l.length = 32) : Bts W (some ⟨w.heap.size, 0, none⟩) 32 32 l := bts_cells h.row hb hl (by unfold maxLen; omega)
end Go.Proofs.YtfkloilbjfleeaaDoor
