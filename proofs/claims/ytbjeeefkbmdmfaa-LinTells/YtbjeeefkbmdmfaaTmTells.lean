/- What the law of what a search tells holds. No walk. -/
import Derived.Test.YtbjeeefkbmdmfaaLnm
import Derived.Test.YtbjeeefkbmdmfaaRLin6
namespace Go.Proofs.Ytbjeeefkbmdmfaa
open Go.RowKit
set_option linter.unusedVariables false
open Go.MapKept Go.Maps

section
variable {D : TD} {w w' : World} {vF : Value} {k : Nat} {F : List Fr} {M : List Ps} {kd : Int} {vO : Value} {o : List Nat} {N : Nat}
set_option maxRecDepth 100000 in
/-- a task stays where nothing new is changed -/
theorem Tm.keepN (h : Tm D w vF F M k kd vO o) (hn : NewD N D) (hs : w.heap.size ≤ w'.heap.size) (hb : ∀ j, N ≤ j → j < w.heap.size → w'.heap[j]? = w.heap[j]?) : Tm D w' vF F M k kd vO o := by
  refine ⟨(hb _ hn.g h.lt).trans h.row, h.mc.keep (hb _ hn.gm h.mc.lt.1) (hb _ hn.gc h.mc.lt.2) hs,
    h.oo.stay (fun hp p e hl => hb _ (hn.aO hp p e) hl) hs, h.ah.stay (fun hp p e hl => hb _ (hn.aA hp p e) hl) hs, ?_,
    own_keep h.fr (fun j e => hb j (by have := (h.fr.lt j e).1; have := hn.g; omega) (h.fr.lt j e).2), own_keep h.od (fun j e => hb j (by have := (h.od.lt j e).1; have := hn.g; omega) (h.od.lt j e).2)⟩
  have hl := h.ltM
  obtain ⟨es, c, h1, h2⟩ := h.mp
  exact ⟨es, c, (hb _ hn.gM hl).trans h1, h2⟩
set_option maxRecDepth 100000 in
theorem TaT.keepN (h : TaT D w vF k F M kd vO o) (hn : NewD N D) (hs : w.heap.size ≤ w'.heap.size) (hb : ∀ j, N ≤ j → j < w.heap.size → w'.heap[j]? = w.heap[j]?) : TaT D w' vF k F M kd vO o := ⟨h.tm.keepN hn hs hb, h.tk, h.st⟩
end
set_option maxRecDepth 100000 in
/-- an order that is told, as a list -/
theorem OrP.iv {N : Nat} {w : World} {R : Rs Po} {vO : Value} (h : OrP N w R vO) (hk : R.k ≠ 1 → R.o = []) : ∃ a c, vO = .slice a R.o.length c ∧ Ivs w a R.o.length c (orI R.o) := by
  by_cases h1 : R.k = 1
  · exact Ls.of_owns ivC_len (h.1 h1) (orI_len R.o)
  · rw [hk h1]
    exact ⟨none, 0, h.2 h1, rfl, Nat.le_refl _, Nat.zero_le _, fun _ => rfl, fun hp => absurd hp (Nat.lt_irrefl _)⟩
set_option maxRecDepth 100000 in
/-- the cells of an owned row of operations -/
theorem ors_there {w : World} {N g n c : Nat} {xs : List Value} (h : w.ownsRow N 35 7 (.slice (some ⟨g, 0, none⟩) n c) n xs) {i : Nat} (hi : i < n) (j : Nat) (hj : j < 7) : ∃ v, w.cell? ⟨g, i * 7 + j, none⟩ = some v := by
  have hl : xs.length = n * 7 := h.1
  have h1 := World.ownsRow.cellAt h (i * 7 + j) (by omega)
  rw [List.getElem?_eq_getElem (by omega)] at h1
  exact ⟨_, h1⟩
set_option maxRecDepth 100000 in
theorem ors_froz {w : World} {N g n c : Nat} {xs : List Value} (h : w.ownsRow N 35 7 (.slice (some ⟨g, 0, none⟩) n c) n xs) (i : Nat) : w.frozen? ⟨g, i, none⟩ = false := by
  rcases h.2 with ⟨e, _⟩ | ⟨g', c', cur, e, _, hg, _⟩
  · cases e
  · cases e; exact frozen_of_row w g i cur _ hg
set_option maxRecDepth 100000 in
/-- an operation is wiped out -/
theorem ors_wipe {w : World} {N g n c : Nat} {xs : List Value} (h : w.ownsRow N 35 7 (.slice (some ⟨g, 0, none⟩) n c) n xs) (p : Nat) : ∃ ys, (((((((w.setCell ⟨g, p, none⟩ (.int .i64 0)).setCell ⟨g, p + 1, none⟩ (.int .i64 0)).setCell ⟨g, p + 2, none⟩ (.int .i64 0)).setCell ⟨g, p + 3, none⟩ (.bool false)).setCell ⟨g, p + 4, none⟩ (.int .i64 0)).setCell ⟨g, p + 5, none⟩ (.int .i64 0)).setCell ⟨g, p + 6, none⟩ (.int .i64 0)).ownsRow N 35 7 (.slice (some ⟨g, 0, none⟩) n c) n ys := by
  have h0 := (World.ownsRow.stored h p (.int .i64 0)).1
  have h1 := (World.ownsRow.stored h0 (p + 1) (.int .i64 0)).1
  have h2 := (World.ownsRow.stored h1 (p + 2) (.int .i64 0)).1
  have h3 := (World.ownsRow.stored h2 (p + 3) (.bool false)).1
  have h4 := (World.ownsRow.stored h3 (p + 4) (.int .i64 0)).1
  have h5 := (World.ownsRow.stored h4 (p + 5) (.int .i64 0)).1
  exact ⟨_, (World.ownsRow.stored h5 (p + 6) (.int .i64 0)).1⟩
set_option maxRecDepth 100000 in
theorem kept_wipe {own : Nat → Prop} {a w : World} {g : Nat} (h : Kept own a w) (hg : own g) (p : Nat) : Kept own a (((((((w.setCell ⟨g, p, none⟩ (.int .i64 0)).setCell ⟨g, p + 1, none⟩ (.int .i64 0)).setCell ⟨g, p + 2, none⟩ (.int .i64 0)).setCell ⟨g, p + 3, none⟩ (.bool false)).setCell ⟨g, p + 4, none⟩ (.int .i64 0)).setCell ⟨g, p + 5, none⟩ (.int .i64 0)).setCell ⟨g, p + 6, none⟩ (.int .i64 0)) :=
  ((((((h.setCell (.inl hg) _ _).setCell (.inl hg) _ _).setCell (.inl hg) _ _).setCell (.inl hg) _ _).setCell (.inl hg) _ _).setCell (.inl hg) _ _).setCell (.inl hg) _ _
end Go.Proofs.Ytbjeeefkbmdmfaa
