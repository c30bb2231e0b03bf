/- The document's own run in memory. No walk. -/
import Derived.Test.YtbjeeefkbmdmfaaLnb
import Derived.Test.YtbjeeefkbmdmfaaLnd
import Derived.Test.YtbjeeefkbmdmfaaKeep
import Derived.Laws.OwnMore
namespace Go.Proofs.Ytbjeeefkbmdmfaa
open Go.RowKit
set_option linter.unusedVariables false

/-- the document's own run: its cells, its stack, its place, how many were done, how it ended, the answer -/
structure Rr (w : World) (g : Nat) (v : VS) (u ov rt : Int) : Prop where
  ex : ∃ c0 c1 c2 c3 kz a cap, v.c = [c0, c1, c2, c3] ∧ w.heap[g]? = some (.cells #[.int .i64 c0, .int .i64 c1, .int .i64 c2, .int .i64 c3, .slice a v.s.length cap, .int .i64 v.p, .int .i64 u, .int .i64 kz, .int .i64 ov, .int .i64 rt] 133 (0, 0)) ∧ Ivs w a v.s.length cap v.s ∧ ∀ p, a = some p → p.block ≠ g
section
variable {w w' : World} {g : Nat} {v : VS} {u ov rt : Int}
set_option maxRecDepth 100000 in
theorem Rr.lt (h : Rr w g v u ov rt) : g < w.heap.size := by obtain ⟨_, _, _, _, _, _, _, _, h1, _⟩ := h.ex; exact (Array.getElem?_eq_some_iff.1 h1).1
set_option maxRecDepth 100000 in
theorem Rr.below (h : Rr w g v u ov rt) (hb : Below w.heap.size w w') : Rr w' g v u ov rt := by
  obtain ⟨c0, c1, c2, c3, kz, a, cap, e, h1, h2, h3⟩ := h.ex
  exact ⟨c0, c1, c2, c3, kz, a, cap, e, (hb.block g h.lt).trans h1, h2.below hb, h3⟩
set_option maxRecDepth 100000 in
/-- its cells, its stack, its place -/
theorem Rr.form (h : Rr w g v u ov rt) : ∃ c0 c1 c2 c3 kz a cap, v.c = [c0, c1, c2, c3] ∧ (w.cell? ⟨g, 4, none⟩ = some (.slice a v.s.length cap) ∧ w.cell? ⟨g, 5, none⟩ = some (.int .i64 v.p) ∧ w.cell? ⟨g, 6, none⟩ = some (.int .i64 u) ∧ w.cell? ⟨g, 8, none⟩ = some (.int .i64 ov) ∧ w.cell? ⟨g, 9, none⟩ = some (.int .i64 rt)) ∧ (∀ i, w.frozen? ⟨g, i, none⟩ = false) ∧ Ivs w a v.s.length cap v.s ∧ (∀ p, a = some p → p.block ≠ g) ∧ w.heap[g]? = some (.cells #[.int .i64 c0, .int .i64 c1, .int .i64 c2, .int .i64 c3, .slice a v.s.length cap, .int .i64 v.p, .int .i64 u, .int .i64 kz, .int .i64 ov, .int .i64 rt] 133 (0, 0)) := by
  obtain ⟨c0, c1, c2, c3, kz, a, cap, e, h1, h2, h3⟩ := h.ex
  exact ⟨c0, c1, c2, c3, kz, a, cap, e, ⟨cell_of_row _ g 4 _ _ (0, 0) h1, cell_of_row _ g 5 _ _ (0, 0) h1, cell_of_row _ g 6 _ _ (0, 0) h1, cell_of_row _ g 8 _ _ (0, 0) h1, cell_of_row _ g 9 _ _ (0, 0) h1⟩, fun i => frozen_of_row _ g i _ _ h1, h2, h3, h1⟩
set_option maxRecDepth 100000 in
theorem Rr.cellAt (h : Rr w g v u ov rt) (i : Nat) (hi : i < 4) : w.cell? ⟨g, i, none⟩ = some (.int .i64 (v.c.getD i 0)) ∧ w.frozen? ⟨g, i, none⟩ = false := by
  obtain ⟨c0, c1, c2, c3, kz, a, cap, e, h1, h2, h3⟩ := h.ex
  refine ⟨?_, frozen_of_row _ g i _ _ h1⟩
  rw [cell_of_row _ g i _ _ (0, 0) h1, e]
  match i, hi with
  | 0, _ => rfl
  | 1, _ => rfl
  | 2, _ => rfl
  | 3, _ => rfl
set_option maxRecDepth 100000 in
theorem ivs_other {a : Option Addr} {n cap : Nat} {l : List Int} (h : Ivs w a n cap l) (hn : ∀ p, a = some p → p.block ≠ g) (i : Nat) (x : Value) : Ivs (w.setCell ⟨g, i, none⟩ x) a n cap l := h.keep (fun p e _ => heap_setCell_other w ⟨g, i, none⟩ p.block x (hn p e)) (by simp [World.setCell])
set_option maxRecDepth 100000 in
theorem Rr.setU (h : Rr w g v u ov rt) (y : Int) : Rr (w.setCell ⟨g, 6, none⟩ (.int .i64 y)) g v y ov rt := by
  obtain ⟨c0, c1, c2, c3, kz, a, cap, e, h1, h2, h3⟩ := h.ex
  exact ⟨c0, c1, c2, c3, kz, a, cap, e, heap_setCell_same w g 6 _ _ _ h1, ivs_other h2 h3 _ _, h3⟩
set_option maxRecDepth 100000 in
theorem Rr.setP (h : Rr w g v u ov rt) (q : Nat) : Rr (w.setCell ⟨g, 5, none⟩ (.int .i64 q)) g ⟨v.c, v.s, q⟩ u ov rt := by
  obtain ⟨c0, c1, c2, c3, kz, a, cap, e, h1, h2, h3⟩ := h.ex
  exact ⟨c0, c1, c2, c3, kz, a, cap, e, heap_setCell_same w g 5 _ _ _ h1, ivs_other h2 h3 _ _, h3⟩
set_option maxRecDepth 100000 in
theorem Rr.setO (h : Rr w g v u ov rt) (y : Int) : Rr (w.setCell ⟨g, 8, none⟩ (.int .i64 y)) g v u y rt := by
  obtain ⟨c0, c1, c2, c3, kz, a, cap, e, h1, h2, h3⟩ := h.ex
  exact ⟨c0, c1, c2, c3, kz, a, cap, e, heap_setCell_same w g 8 _ _ _ h1, ivs_other h2 h3 _ _, h3⟩
set_option maxRecDepth 100000 in
theorem Rr.setT (h : Rr w g v u ov rt) (y : Int) : Rr (w.setCell ⟨g, 9, none⟩ (.int .i64 y)) g v u ov y := by
  obtain ⟨c0, c1, c2, c3, kz, a, cap, e, h1, h2, h3⟩ := h.ex
  exact ⟨c0, c1, c2, c3, kz, a, cap, e, heap_setCell_same w g 9 _ _ _ h1, ivs_other h2 h3 _ _, h3⟩
set_option maxRecDepth 100000 in
theorem Rr.setC (h : Rr w g v u ov rt) (i : Nat) (hi : i < 4) (y : Int) : Rr (w.setCell ⟨g, i, none⟩ (.int .i64 y)) g ⟨v.c.set i y, v.s, v.p⟩ u ov rt := by
  obtain ⟨c0, c1, c2, c3, kz, a, cap, e, h1, h2, h3⟩ := h.ex
  have hs := heap_setCell_same w g i _ _ (.int .i64 y) h1
  have hI := ivs_other h2 h3 i (.int .i64 y)
  rw [e]
  match i, hi with
  | 0, _ => exact ⟨y, c1, c2, c3, kz, a, cap, rfl, hs, hI, h3⟩
  | 1, _ => exact ⟨c0, y, c2, c3, kz, a, cap, rfl, hs, hI, h3⟩
  | 2, _ => exact ⟨c0, c1, y, c3, kz, a, cap, rfl, hs, hI, h3⟩
  | 3, _ => exact ⟨c0, c1, c2, y, kz, a, cap, rfl, hs, hI, h3⟩
set_option maxRecDepth 100000 in
theorem Rr.at5 (h : Rr w g v u ov rt) : w.cell? ⟨g, 5, none⟩ = some (.int .i64 v.p) ∧ w.frozen? ⟨g, 5, none⟩ = false := by obtain ⟨_, _, _, _, _, _, _, _, h1, _⟩ := h.ex; exact ⟨cell_of_row _ g 5 _ _ (0, 0) h1, frozen_of_row _ g 5 _ _ h1⟩
set_option maxRecDepth 100000 in
theorem Rr.at6 (h : Rr w g v u ov rt) : w.cell? ⟨g, 6, none⟩ = some (.int .i64 u) ∧ w.frozen? ⟨g, 6, none⟩ = false := by obtain ⟨_, _, _, _, _, _, _, _, h1, _⟩ := h.ex; exact ⟨cell_of_row _ g 6 _ _ (0, 0) h1, frozen_of_row _ g 6 _ _ h1⟩
set_option maxRecDepth 100000 in
theorem Rr.at8 (h : Rr w g v u ov rt) : w.cell? ⟨g, 8, none⟩ = some (.int .i64 ov) ∧ w.frozen? ⟨g, 8, none⟩ = false := by obtain ⟨_, _, _, _, _, _, _, _, h1, _⟩ := h.ex; exact ⟨cell_of_row _ g 8 _ _ (0, 0) h1, frozen_of_row _ g 8 _ _ h1⟩
set_option maxRecDepth 100000 in
theorem Rr.at9 (h : Rr w g v u ov rt) : w.cell? ⟨g, 9, none⟩ = some (.int .i64 rt) ∧ w.frozen? ⟨g, 9, none⟩ = false := by obtain ⟨_, _, _, _, _, _, _, _, h1, _⟩ := h.ex; exact ⟨cell_of_row _ g 9 _ _ (0, 0) h1, frozen_of_row _ g 9 _ _ h1⟩
set_option maxRecDepth 100000 in
theorem Rr.stk (h : Rr w g v u ov rt) {d : Nat} {sl : List Int} (hd : v.s.length = d) (hsl : v.s = sl) : ∃ st cap, w.cell? ⟨g, 4, none⟩ = some (.slice st d cap) ∧ w.frozen? ⟨g, 4, none⟩ = false ∧ Ivs w st d cap sl ∧ (∀ p, st = some p → p.block ≠ g) ∧ cap ≤ 9223372036854775807 ∧ d ≤ cap := by
  obtain ⟨_, _, _, _, _, st, cap, _, h1, h2, h3⟩ := h.ex
  have c4 := cell_of_row _ g 4 _ _ (0, 0) h1
  subst hd hsl
  have hm := h2.cap_le
  unfold maxLen at hm
  exact ⟨st, cap, c4, frozen_of_row _ g 4 _ _ h1, h2, h3, by omega, h2.le_cap⟩
set_option maxRecDepth 100000 in
/-- the top of the stack is gone -/
theorem Rr.cut {a : Option Addr} {cap : Nat} (h : Rr w g v u ov rt) (hc : w.cell? ⟨g, 4, none⟩ = some (.slice a v.s.length cap)) (m : Nat) (hm : v.s.length = m + 1) : Rr (w.setCell ⟨g, 4, none⟩ (.slice a m cap)) g ⟨v.c, off v 1, v.p⟩ u ov rt := by
  obtain ⟨c0, c1, c2, c3, kz, a', cap', e, h1, h2, h3⟩ := h.ex
  have h4 := cell_of_row _ g 4 _ _ (0, 0) h1
  rw [hc] at h4
  have h5 : (.slice a v.s.length cap : Value) = .slice a' v.s.length cap' := Option.some.inj h4
  cases h5
  have hl : (off v 1).length = m := by rw [off_len]; omega
  refine ⟨c0, c1, c2, c3, kz, a, cap, e, ?_, ?_, h3⟩
  · show _ = some (Obj.cells #[_, _, _, _, .slice a (off v 1).length cap, _, _, _, _, _] _ _)
    rw [hl]; exact heap_setCell_same w g 4 _ _ _ h1
  · have h6 : Ivs w a m cap (off v 1) := by
      have := h2.take m (by omega)
      unfold off
      rw [show v.s.length - 1 = m by omega]
      exact this
    show Ivs _ a (off v 1).length cap (off v 1)
    rw [hl]; exact ivs_other h6 h3 _ _
end
end Go.Proofs.Ytbjeeefkbmdmfaa
