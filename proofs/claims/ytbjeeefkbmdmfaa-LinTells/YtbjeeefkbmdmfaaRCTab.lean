/- The document's own table. -/
import Derived.Test.YtbjeeefkbmdmfaaLng
import Derived.Deep.MidRow
import Derived.Deep.CutRange
namespace Go.Proofs.Ytbjeeefkbmdmfaa
open Go.RowKit
set_option linter.unusedVariables false

/-- a line of the table, as cells -/
def rwC (o : Int) : List Value := [.int .i64 (nkO o), .int .i64 (tkO o), .int .i64 (ptO o), .int .i64 (thO o)]
def tabC : Array Value := #[
  .int .i64 1, .int .i64 0, .int .i64 1, .int .i64 0,  .int .i64 0, .int .i64 1, .int .i64 0, .int .i64 0,  .int .i64 0, .int .i64 1, .int .i64 2, .int .i64 0,  .int .i64 0, .int .i64 2, .int .i64 2, .int .i64 0,
  .int .i64 2, .int .i64 0, .int .i64 1, .int .i64 0,  .int .i64 2, .int .i64 1, .int .i64 0, .int .i64 0,  .int .i64 0, .int .i64 0, .int .i64 1, .int .i64 0,  .int .i64 0, .int .i64 0, .int .i64 1, .int .i64 0,
  .int .i64 0, .int .i64 2, .int .i64 1, .int .i64 0,  .int .i64 0, .int .i64 2, .int .i64 1, .int .i64 0,  .int .i64 0, .int .i64 2, .int .i64 1, .int .i64 0,  .int .i64 0, .int .i64 2, .int .i64 1, .int .i64 0,
  .int .i64 0, .int .i64 2, .int .i64 1, .int .i64 0,  .int .i64 0, .int .i64 2, .int .i64 1, .int .i64 0,  .int .i64 0, .int .i64 2, .int .i64 1, .int .i64 0,  .int .i64 0, .int .i64 1, .int .i64 1, .int .i64 0,
  .int .i64 3, .int .i64 0, .int .i64 0, .int .i64 1,  .int .i64 3, .int .i64 1, .int .i64 0, .int .i64 2,  .int .i64 0, .int .i64 1, .int .i64 0, .int .i64 3,  .int .i64 0, .int .i64 0, .int .i64 0, .int .i64 3]
set_option maxRecDepth 100000 in
theorem tabC_get {o : Nat} (h : o ≤ 19) : tabC[o * 4]? = some (.int .i64 (nkO o)) ∧ tabC[o * 4 + 1]? = some (.int .i64 (tkO o)) ∧ tabC[o * 4 + 2]? = some (.int .i64 (ptO o)) ∧ tabC[o * 4 + 3]? = some (.int .i64 (thO o)) := by
  match o, h with
  | 0, _ => exact ⟨rfl, rfl, rfl, rfl⟩
  | 1, _ => exact ⟨rfl, rfl, rfl, rfl⟩
  | 2, _ => exact ⟨rfl, rfl, rfl, rfl⟩
  | 3, _ => exact ⟨rfl, rfl, rfl, rfl⟩
  | 4, _ => exact ⟨rfl, rfl, rfl, rfl⟩
  | 5, _ => exact ⟨rfl, rfl, rfl, rfl⟩
  | 6, _ => exact ⟨rfl, rfl, rfl, rfl⟩
  | 7, _ => exact ⟨rfl, rfl, rfl, rfl⟩
  | 8, _ => exact ⟨rfl, rfl, rfl, rfl⟩
  | 9, _ => exact ⟨rfl, rfl, rfl, rfl⟩
  | 10, _ => exact ⟨rfl, rfl, rfl, rfl⟩
  | 11, _ => exact ⟨rfl, rfl, rfl, rfl⟩
  | 12, _ => exact ⟨rfl, rfl, rfl, rfl⟩
  | 13, _ => exact ⟨rfl, rfl, rfl, rfl⟩
  | 14, _ => exact ⟨rfl, rfl, rfl, rfl⟩
  | 15, _ => exact ⟨rfl, rfl, rfl, rfl⟩
  | 16, _ => exact ⟨rfl, rfl, rfl, rfl⟩
  | 17, _ => exact ⟨rfl, rfl, rfl, rfl⟩
  | 18, _ => exact ⟨rfl, rfl, rfl, rfl⟩
  | 19, _ => exact ⟨rfl, rfl, rfl, rfl⟩
  | n + 20, h => exact absurd h (by omega)
set_option maxRecDepth 100000 in
theorem is15_any (o : Int) (w : World) :
    Calls Try.prog 70 #[.int .i64 o] w fun e w' => e = .returned (.bool (isO o)) ∧ w' = w := by
  by_cases h0 : 0 ≤ o
  · have e : isO o = decide (o ≤ 19) := by unfold isO; simp [h0]
    rw [e]; clear e
    go_enter Try.func70, Try.ntmps70
    go_wp2_with fail
    go_ret
    exact ⟨rfl, rfl⟩
  · have e : isO o = false := by unfold isO; simp; omega
    rw [e]; clear e
    go_enter Try.func70, Try.ntmps70
    go_wp2_with fail
    go_ret
    exact ⟨rfl, rfl⟩
set_option maxRecDepth 100000 in
set_option maxHeartbeats 2000000 in
theorem table_any (o : Nat) (w : World) (ho : o ≤ 19) :
    Calls Try.prog 80 #[.int .i64 o] w fun e w' => e = .returned (.agg #[.int .i64 (nkO o), .int .i64 (tkO o), .int .i64 (ptO o), .int .i64 (thO o)]) ∧ Below w.heap.size w w' := by
  obtain ⟨t0, t1, t2, t3⟩ := tabC_get ho
  go_enter Try.func80, Try.ntmps80
  go_upto_region 2 with fail
  generalize hW : World.alloc (World.alloc w _) _ = W
  have hr0 : W.heap[w.heap.size]? = some (.cells #[.int .i64 0, .int .i64 0, .int .i64 0, .int .i64 0] 144 (0, 0)) := by
    rw [← hW]; exact (((Below.refl _ _).alloc (Nat.le_refl _) _).block _ (by rw [World.size_alloc]; omega)).trans (heap_alloc_new w _)
  have hr1 : W.heap[w.heap.size + 1]? = some (.cells tabC 144 (0, 0)) := by
    rw [← hW, ← World.size_alloc w (.cells #[.int .i64 0, .int .i64 0, .int .i64 0, .int .i64 0] 144)]; exact heap_alloc_new _ _
  have hb : Below w.heap.size w W := by
    rw [← hW]; exact ((Below.refl _ _).alloc (Nat.le_refl _) _).alloc (by rw [World.size_alloc]; omega) _
  clear hW
  have HB := Bx.mk hb
  have y0 := (cell_of_row _ _ (o * 4) _ _ (0, 0) hr1).trans t0
  have y1 := (cell_of_row _ _ (o * 4 + 1) _ _ (0, 0) hr1).trans t1
  have y2 := (cell_of_row _ _ (o * 4 + 2) _ _ (0, 0) hr1).trans t2
  have y3 := (cell_of_row _ _ (o * 4 + 3) _ _ (0, 0) hr1).trans t3
  have x0 := cell_of_row _ _ 0 _ _ (0, 0) hr0
  have x1 := cell_of_row _ _ 1 _ _ (0, 0) hr0
  have x2 := cell_of_row _ _ 2 _ _ (0, 0) hr0
  have x3 := cell_of_row _ _ 3 _ _ (0, 0) hr0
  have f0 := frozen_of_row _ _ 0 _ _ hr0
  have f1 := frozen_of_row _ _ 1 _ _ hr0
  have f2 := frozen_of_row _ _ 2 _ _ hr0
  have f3 := frozen_of_row _ _ 3 _ _ hr0
  have HZ : Bx (∀ a b c d : Value, (((W.setCell ⟨w.heap.size, 0, none⟩ a).setCell ⟨w.heap.size, 1, none⟩ b).setCell ⟨w.heap.size, 2, none⟩ c).setCell ⟨w.heap.size, 3, none⟩ d |>.heap[w.heap.size]? = some (.cells #[a, b, c, d] 144 (0, 0))) := ⟨fun a b c d => heap_setCell_same _ _ 3 _ _ _ (heap_setCell_same _ _ 2 _ _ _ (heap_setCell_same _ _ 1 _ _ _ (heap_setCell_same W _ 0 _ _ _ hr0)))⟩
  obtain ⟨k0, HE0⟩ : ∃ k, Bx (nkO (o : Int) = k) := ⟨_, ⟨rfl⟩⟩
  rw [HE0.out] at y0
  obtain ⟨k1, HE1⟩ : ∃ k, Bx (tkO (o : Int) = k) := ⟨_, ⟨rfl⟩⟩
  rw [HE1.out] at y1
  obtain ⟨k2, HE2⟩ : ∃ k, Bx (ptO (o : Int) = k) := ⟨_, ⟨rfl⟩⟩
  rw [HE2.out] at y2
  obtain ⟨k3, HE3⟩ : ∃ k, Bx (thO (o : Int) = k) := ⟨_, ⟨rfl⟩⟩
  rw [HE3.out] at y3
  obtain ⟨g, HG⟩ : ∃ g, Bx (w.heap.size = g) := ⟨_, ⟨rfl⟩⟩
  have HLE : Bx (w.heap.size ≤ g) := ⟨by rw [HG.out]; exact Nat.le_refl _⟩
  rw [HG.out] at x0 x1 x2 x3 y0 y1 y2 y3 f0 f1 f2 f3 HZ ⊢
  have HZ2 := Bx.mk (HZ.out (.int .i64 k0) (.int .i64 k1) (.int .i64 k2) (.int .i64 k3))
  have HB2 : Bx (Below w.heap.size w ((((W.setCell ⟨g, 0, none⟩ (.int .i64 k0)).setCell ⟨g, 1, none⟩ (.int .i64 k1)).setCell ⟨g, 2, none⟩ (.int .i64 k2)).setCell ⟨g, 3, none⟩ (.int .i64 k3))) := ⟨(((HB.out.setCell (p := ⟨g, 0, none⟩) HLE.out _).setCell (p := ⟨g, 1, none⟩) HLE.out _).setCell (p := ⟨g, 2, none⟩) HLE.out _).setCell (p := ⟨g, 3, none⟩) HLE.out _⟩
  have hI : (o : Int) < 20 := by omega
  clear t0 t1 t2 t3 hr0 hr1 hb HB HZ
  go_wp2_with fail
  generalize (((W.setCell ⟨g, 0, none⟩ (.int .i64 k0)).setCell ⟨g, 1, none⟩ (.int .i64 k1)).setCell ⟨g, 2, none⟩ (.int .i64 k2)).setCell ⟨g, 3, none⟩ (.int .i64 k3) = w9 at HZ2 HB2 ⊢
  have d0 := cell_of_row _ _ 0 _ _ (0, 0) HZ2.out
  have d1 := cell_of_row _ _ 1 _ _ (0, 0) HZ2.out
  have d2 := cell_of_row _ _ 2 _ _ (0, 0) HZ2.out
  have d3 := cell_of_row _ _ 3 _ _ (0, 0) HZ2.out
  exact bodyPost_ret (v := .agg #[.int .i64 k0, .int .i64 k1, .int .i64 k2, .int .i64 k3]) (by simp [results, Try.results80, go_sem, d0, d1, d2, d3]) rfl ⟨by rw [HE0.out, HE1.out, HE2.out, HE3.out], HB2.out⟩
end Go.Proofs.Ytbjeeefkbmdmfaa
