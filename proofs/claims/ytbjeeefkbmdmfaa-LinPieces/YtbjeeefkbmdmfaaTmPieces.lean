/- What the law of pieces holds. No walk. -/
import Derived.Test.YtbjeeefkbmdmfaaLnm
namespace Go.Proofs.Ytbjeeefkbmdmfaa
open Go.RowKit
set_option linter.unusedVariables false
open Go.MapKept Go.Maps

/-- a task that goes in pieces: what was there ahead of it stays -/
structure PcI (D : TD) (N : Nat) (w0 wr : World) (vF : Value) (k : Nat) : Prop where
  ta : ∃ F M kd vO o, TaT D wr vF k F M kd vO o
  bl : Below N w0 wr
  nn : N ≤ w0.heap.size
section
variable {D : TD} {N : Nat} {w0 wr w' : World} {vF vF' : Value} {k k' : Nat}
set_option maxRecDepth 100000 in
theorem PcI.le (h : PcI D N w0 wr vF k) : N ≤ wr.heap.size := Nat.le_trans h.nn h.bl.size
set_option maxRecDepth 100000 in
theorem PcI.below (h : PcI D N w0 wr vF k) (hb : Below wr.heap.size wr w') : PcI D N w0 w' vF k := by
  obtain ⟨F, M, kd, vO, o, ht⟩ := h.ta
  exact ⟨⟨F, M, kd, vO, o, ht.below hb⟩, h.bl.trans (hb.mono h.le), h.nn⟩
set_option maxRecDepth 100000 in
theorem PcI.go (h : PcI D N w0 wr vF k) (hn : NewD N D) (hk : Kept (ownT D vF) wr w') (ht : ∃ F M kd vO o, TaT D w' vF' k' F M kd vO o) : PcI D N w0 w' vF' k' := by
  obtain ⟨F, M, kd, vO, o, h1⟩ := h.ta
  exact ⟨ht, h.bl.trans (h1.low hn hk h.le), h.nn⟩
set_option maxRecDepth 100000 in
theorem PcI.row (h : PcI D N w0 wr vF k) {g : Nat} {o : Obj} (hr : w0.heap[g]? = some o) (hg : g < N) : wr.heap[g]? = some o := (h.bl.block g hg).trans hr
set_option maxRecDepth 100000 in
theorem PcI.iv {a : Option Addr} {n c : Nat} {L : List Int} (h : PcI D N w0 wr vF k) (hi : Ivs w0 a n c L) (hp : ∀ p, a = some p → 0 < n → p.block < N) : Ivs wr a n c L := hi.low (N := N) hp (fun j hj _ => h.bl.block j hj) h.bl.size
end
set_option maxRecDepth 100000 in
/-- the cells of an owned row of numbers -/
theorem iv_there {w : World} {N g n c : Nat} {xs : List Value} (h : w.ownsRow N 3 1 (.slice (some ⟨g, 0, none⟩) n c) n xs) {i : Nat} (hi : i < n) : ∃ v, w.cell? ⟨g, i, none⟩ = some v := by
  have hl : xs.length = n * 1 := h.1
  have h1 := World.ownsRow.cellAt h i (by omega)
  rw [List.getElem?_eq_getElem (by omega)] at h1
  exact ⟨_, h1⟩
set_option maxRecDepth 100000 in
theorem iv_froz {w : World} {N g n c : Nat} {xs : List Value} (h : w.ownsRow N 3 1 (.slice (some ⟨g, 0, none⟩) n c) n xs) (i : Nat) : w.frozen? ⟨g, i, none⟩ = false := by
  rcases h.2 with ⟨e, _⟩ | ⟨g', c', cur, e, _, hg, _⟩
  · cases e
  · cases e; exact frozen_of_row w g i cur _ hg
end Go.Proofs.Ytbjeeefkbmdmfaa
