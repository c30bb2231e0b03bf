/- A task that no call made. -/
import Derived.Test.YtbjeeefkbmdmfabLnm
namespace Go.Proofs.Ytbjeeefkbmdmfab
open Go.RowKit
set_option linter.unusedVariables false

/-- a task with nothing in it -/
def PlT (w : World) (g : Nat) : Prop := w.heap[g]? = some (.cells #[.pointer none, .int .i64 0, .int .i64 0, .slice none 0 0, .int .u64 0, .slice none 0 0, .map none, .slice none 0 0, .int .i64 0, .int .i64 0, .slice none 0 0] 46 (0, 0))
set_option maxRecDepth 100000 in
theorem PlT.cells {w : World} {g : Nat} (h : PlT w g) : w.cell? ⟨g, 7, none⟩ = some (.slice none 0 0) ∧ w.cell? ⟨g, 8, none⟩ = some (.int .i64 0) ∧ w.cell? ⟨g, 9, none⟩ = some (.int .i64 0) :=
  ⟨cell_of_row _ g 7 _ _ (0, 0) h, cell_of_row _ g 8 _ _ (0, 0) h, cell_of_row _ g 9 _ _ (0, 0) h⟩
set_option maxRecDepth 100000 in
theorem PlT.below {w w' : World} {g : Nat} (h : PlT w g) (hb : Below w.heap.size w w') : PlT w' g := up_row _ _ h hb
set_option maxHeartbeats 1000000 in
theorem runs_nil (w : World)  : Calls Try.prog 19 #[.pointer none] w fun e w' => e = .returned (.bool false) ∧ w' = w := by
  skip
  go_enter Try.func19, Try.ntmps19
  go_wp2_with fail
  go_ret
  exact ⟨rfl, rfl⟩
set_option maxHeartbeats 1000000 in
theorem over_nil (w : World)  : Calls Try.prog 13 #[.pointer none] w fun e w' => e = .returned (.bool false) ∧ w' = w := by
  skip
  go_enter Try.func13, Try.ntmps13
  go_wp2_with fail
  go_ret
  exact ⟨rfl, rfl⟩
set_option maxHeartbeats 1000000 in
theorem tries_nil (w : World)  : Calls Try.prog 14 #[.pointer none] w fun e w' => e = .returned (.int .i64 0) ∧ w' = w := by
  skip
  go_enter Try.func14, Try.ntmps14
  go_wp2_with fail
  go_ret
  exact ⟨rfl, rfl⟩
set_option maxHeartbeats 1000000 in
theorem go_nil (n : Int) (w : World)  : Calls Try.prog 12 #[.pointer none, .int .i64 n] w fun e w' => e = .returned (.bool false) ∧ w' = w := by
  skip
  go_enter Try.func12, Try.ntmps12
  go_wp2_with fail
  go_loopw [6] (fun i wr => i = .int .i64 0 ∧ wr = w) (fun _ _ => 0)
  case atStart => exact ⟨rfl, rfl⟩
  case round =>
    obtain ⟨rfl, hw⟩ := hrel
    obtain rfl : w = wr := hw.symm
    clear hw
    by_cases hlt : 0 < n
    · go_wp2_with fail
      refine (runs_nil w ).mono ?_
      rintro e w1 ⟨rfl, hw⟩
      obtain rfl : w = w1 := hw.symm
      clear hw
      go_wp2_with fail
      refine (over_nil w ).mono ?_
      rintro e w1 ⟨rfl, hw⟩
      obtain rfl : w = w1 := hw.symm
      clear hw
      go_wp2_with fail
      go_ret
      exact ⟨rfl, rfl⟩
    · go_wp2_with fail
      refine (over_nil w ).mono ?_
      rintro e w1 ⟨rfl, hw⟩
      obtain rfl : w = w1 := hw.symm
      clear hw
      go_wp2_with fail
      go_ret
      exact ⟨rfl, rfl⟩
set_option maxHeartbeats 4000000 in
set_option maxRecDepth 100000 in
theorem ver_nil (w : World)  : Calls Try.prog 11 #[.pointer none] w fun e w' => e = .returned (.tuple #[.agg #[.int .i64 0, .slice none 0 0, .int .i64 0], .bool false]) ∧ Below w.heap.size w w' := by
  have hb0 : Below w.heap.size w (w.alloc (.cells #[.int .i64 0, .slice none 0 0, .int .i64 0] 34)) := (Below.refl _ _).alloc (Nat.le_refl _) _
  skip
  have HB0 := Bx.mk hb0
  have HR0 := Bx.mk (heap_alloc_new w (.cells #[.int .i64 0, .slice none 0 0, .int .i64 0] 34))
  obtain ⟨gr, HGR⟩ : ∃ gr, Bx (w.heap.size = gr) := ⟨_, ⟨rfl⟩⟩
  rw [HGR.out] at HR0
  clear hb0
  go_enter Try.func11, Try.ntmps11
  go_upto_region 1 with fail
  rw [HGR.out]
  generalize w.alloc (.cells #[.int .i64 0, .slice none 0 0, .int .i64 0] 34) = w1 at  HB0 HR0 ⊢
  go_wp2_with fail
  refine (over_nil w1 ).mono ?_
  rintro e w2 ⟨rfl, hw2⟩
  subst hw2
  have x0 := cell_of_row _ gr 0 _ _ (0, 0) HR0.out
  have x1 := cell_of_row _ gr 1 _ _ (0, 0) HR0.out
  have x2 := cell_of_row _ gr 2 _ _ (0, 0) HR0.out
  have f0 := frozen_of_row _ gr 0 _ _ HR0.out
  have f1 := frozen_of_row _ gr 1 _ _ HR0.out
  have f2 := frozen_of_row _ gr 2 _ _ HR0.out
  have HBE := Bx.mk (((HB0.out.setCell (p := ⟨gr, 0, none⟩) (by rw [HGR.out]; exact Nat.le_refl _) (.int .i64 0)).setCell (p := ⟨gr, 1, none⟩) (by rw [HGR.out]; exact Nat.le_refl _) (.slice none 0 0)).setCell (p := ⟨gr, 2, none⟩) (by rw [HGR.out]; exact Nat.le_refl _) (.int .i64 0))
  go_wp2_with fail
  exact bodyPost_ret (v := .tuple #[.agg #[.int .i64 0, .slice none 0 0, .int .i64 0], .bool false]) (by simp [results, Try.results11, go_sem, x0, x1, x2]) rfl ⟨rfl, HBE.out⟩
set_option maxHeartbeats 1000000 in
theorem runs_plain (w : World) {g : Nat} (h : PlT w g) : Calls Try.prog 19 #[.pointer (some ⟨g, 0, none⟩)] w fun e w' => e = .returned (.bool false) ∧ w' = w := by
  obtain ⟨c7, c8, c9⟩ := h.cells
  go_enter Try.func19, Try.ntmps19
  go_wp2_with fail
  go_ret
  exact ⟨rfl, rfl⟩
set_option maxHeartbeats 1000000 in
theorem over_plain (w : World) {g : Nat} (h : PlT w g) : Calls Try.prog 13 #[.pointer (some ⟨g, 0, none⟩)] w fun e w' => e = .returned (.bool false) ∧ w' = w := by
  obtain ⟨c7, c8, c9⟩ := h.cells
  go_enter Try.func13, Try.ntmps13
  go_wp2_with fail
  go_ret
  exact ⟨rfl, rfl⟩
set_option maxHeartbeats 1000000 in
theorem tries_plain (w : World) {g : Nat} (h : PlT w g) : Calls Try.prog 14 #[.pointer (some ⟨g, 0, none⟩)] w fun e w' => e = .returned (.int .i64 0) ∧ w' = w := by
  obtain ⟨c7, c8, c9⟩ := h.cells
  go_enter Try.func14, Try.ntmps14
  go_wp2_with fail
  go_ret
  exact ⟨rfl, rfl⟩
set_option maxHeartbeats 1000000 in
theorem go_plain (n : Int) (w : World) {g : Nat} (h : PlT w g) : Calls Try.prog 12 #[.pointer (some ⟨g, 0, none⟩), .int .i64 n] w fun e w' => e = .returned (.bool false) ∧ w' = w := by
  have H := Bx.mk h
  go_enter Try.func12, Try.ntmps12
  go_wp2_with fail
  go_loopw [6] (fun i wr => i = .int .i64 0 ∧ wr = w) (fun _ _ => 0)
  case atStart => exact ⟨rfl, rfl⟩
  case round =>
    obtain ⟨rfl, hw⟩ := hrel
    obtain rfl : w = wr := hw.symm
    clear hw
    by_cases hlt : 0 < n
    · go_wp2_with fail
      refine (runs_plain w H.out).mono ?_
      rintro e w1 ⟨rfl, hw⟩
      obtain rfl : w = w1 := hw.symm
      clear hw
      go_wp2_with fail
      refine (over_plain w H.out).mono ?_
      rintro e w1 ⟨rfl, hw⟩
      obtain rfl : w = w1 := hw.symm
      clear hw
      go_wp2_with fail
      go_ret
      exact ⟨rfl, rfl⟩
    · go_wp2_with fail
      refine (over_plain w H.out).mono ?_
      rintro e w1 ⟨rfl, hw⟩
      obtain rfl : w = w1 := hw.symm
      clear hw
      go_wp2_with fail
      go_ret
      exact ⟨rfl, rfl⟩
set_option maxHeartbeats 4000000 in
set_option maxRecDepth 100000 in
theorem ver_plain (w : World) {g : Nat} (h : PlT w g) : Calls Try.prog 11 #[.pointer (some ⟨g, 0, none⟩)] w fun e w' => e = .returned (.tuple #[.agg #[.int .i64 0, .slice none 0 0, .int .i64 0], .bool false]) ∧ Below w.heap.size w w' := by
  have hb0 : Below w.heap.size w (w.alloc (.cells #[.int .i64 0, .slice none 0 0, .int .i64 0] 34)) := (Below.refl _ _).alloc (Nat.le_refl _) _
  have HP := Bx.mk (h.below hb0)
  have HB0 := Bx.mk hb0
  have HR0 := Bx.mk (heap_alloc_new w (.cells #[.int .i64 0, .slice none 0 0, .int .i64 0] 34))
  obtain ⟨gr, HGR⟩ : ∃ gr, Bx (w.heap.size = gr) := ⟨_, ⟨rfl⟩⟩
  rw [HGR.out] at HR0
  clear hb0
  go_enter Try.func11, Try.ntmps11
  go_upto_region 1 with fail
  rw [HGR.out]
  generalize w.alloc (.cells #[.int .i64 0, .slice none 0 0, .int .i64 0] 34) = w1 at HP HB0 HR0 ⊢
  go_wp2_with fail
  refine (over_plain w1 HP.out).mono ?_
  rintro e w2 ⟨rfl, hw2⟩
  subst hw2
  have x0 := cell_of_row _ gr 0 _ _ (0, 0) HR0.out
  have x1 := cell_of_row _ gr 1 _ _ (0, 0) HR0.out
  have x2 := cell_of_row _ gr 2 _ _ (0, 0) HR0.out
  have f0 := frozen_of_row _ gr 0 _ _ HR0.out
  have f1 := frozen_of_row _ gr 1 _ _ HR0.out
  have f2 := frozen_of_row _ gr 2 _ _ HR0.out
  have HBE := Bx.mk (((HB0.out.setCell (p := ⟨gr, 0, none⟩) (by rw [HGR.out]; exact Nat.le_refl _) (.int .i64 0)).setCell (p := ⟨gr, 1, none⟩) (by rw [HGR.out]; exact Nat.le_refl _) (.slice none 0 0)).setCell (p := ⟨gr, 2, none⟩) (by rw [HGR.out]; exact Nat.le_refl _) (.int .i64 0))
  go_wp2_with fail
  exact bodyPost_ret (v := .tuple #[.agg #[.int .i64 0, .slice none 0 0, .int .i64 0], .bool false]) (by simp [results, Try.results11, go_sem, x0, x1, x2]) rfl ⟨rfl, HBE.out⟩
end Go.Proofs.Ytbjeeefkbmdmfab
