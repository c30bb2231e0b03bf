/- What is before (HistBefore): three operations in three variables. No walk. -/
import Derived.Test.YtbapegdmpipllaaHBReg
import Derived.Test.YtbapegdmpipllaaHBef
import Derived.Test.YtbapegdmpipllaaHWhole
namespace Go.Proofs.Ytbapegdmpipllaa
open Go.RowKit
set_option linter.unusedVariables false

/-- three operations in three variables -/
structure B3 (w3 : World) (ga gb gc : Nat) (p1 p2 p3 : Opr) (wk : World) : Prop where
  bel : Below w3.heap.size w3 wk
  ra : wk.heap[ga]? = some (.cells (orC p1).toArray 53 (0, 0))
  rb : wk.heap[gb]? = some (.cells (orC p2).toArray 53 (0, 0))
  rc : wk.heap[gc]? = some (.cells (orC p3).toArray 53 (0, 0))
set_option maxRecDepth 100000 in
theorem B3.step {w3 : World} {ga gb gc : Nat} {p1 p2 p3 : Opr} {wk w' : World} (h : B3 w3 ga gb gc p1 p2 p3 wk) (hb : Below wk.heap.size wk w') : B3 w3 ga gb gc p1 p2 p3 w' :=
  ⟨bstep h.bel hb, (hb.block _ (Array.getElem?_eq_some_iff.1 h.ra).1).trans h.ra, (hb.block _ (Array.getElem?_eq_some_iff.1 h.rb).1).trans h.rb, (hb.block _ (Array.getElem?_eq_some_iff.1 h.rc).1).trans h.rc⟩
set_option maxRecDepth 100000 in
theorem B3.drew {w3 : World} {ga gb gc : Nat} {p1 p2 p3 : Opr} {wk : World} (h : B3 w3 ga gb gc p1 p2 p3 wk) : B3 w3 ga gb gc p1 p2 p3 wk.drew := ⟨h.bel.drew, h.ra, h.rb, h.rc⟩
set_option maxRecDepth 100000 in
theorem or_range {w : World} {g : Nat} {p : Opr} (h : w.heap[g]? = some (.cells (orC p).toArray 53 (0, 0))) : w.rangeAt g 0 (orC p) := fun j v hj => by
  rw [Nat.zero_add, cell_of_row w g j _ _ (0, 0) h]; simpa using hj
set_option maxRecDepth 100000 in
theorem or_at {w : World} {g : Nat} {p : Opr} (h : w.heap[g]? = some (.cells (orC p).toArray 53 (0, 0))) : w.cell? ⟨g, 0, none⟩ = some (.int .i64 p.c) ∧ w.cell? ⟨g, 1, none⟩ = some (.int .i64 p.o) ∧ w.cell? ⟨g, 2, none⟩ = some (.int .i64 p.a) ∧ w.cell? ⟨g, 3, none⟩ = some (.bool p.d) ∧ w.cell? ⟨g, 4, none⟩ = some (.int .i64 p.r) ∧ w.cell? ⟨g, 5, none⟩ = some (.int .i64 p.f) ∧ w.cell? ⟨g, 6, none⟩ = some (.int .i64 p.t) :=
  ⟨cell_of_row _ g 0 _ _ (0, 0) h, cell_of_row _ g 1 _ _ (0, 0) h, cell_of_row _ g 2 _ _ (0, 0) h, cell_of_row _ g 3 _ _ (0, 0) h, cell_of_row _ g 4 _ _ (0, 0) h, cell_of_row _ g 5 _ _ (0, 0) h, cell_of_row _ g 6 _ _ (0, 0) h⟩
set_option maxRecDepth 100000 in
theorem before_or (a b : Opr) (w : World) : Calls Try.prog 24 #[.agg (orC a).toArray, .agg (orC b).toArray] w fun e w' => e = .returned (.bool (befO a b)) ∧ Below w.heap.size w w' := before_any a b w
set_option maxRecDepth 100000 in
theorem or_cellsAt {w : World} {ao : Option Addr} {len cap : Nat} {O : List Opr} (h : Ors w ao len cap O) (i : Nat) (hi : i < len) {b off : Nat} (e : ao = some ⟨b, off, none⟩) : w.rangeAt b (off + i * 7) (orC (O.getD i op0)) := by
  obtain ⟨b', off', e', _, hc⟩ := h.spot (by omega)
  rw [e] at e'
  cases e'
  have hi2 : i < O.length := by rw [h.len_eq]; exact hi
  intro j v hj
  have hj7 : j < 7 := by have := (List.getElem?_eq_some_iff.1 hj).1; rwa [orC_len] at this
  rw [hc i hi2 j hj7, ← hj, List.getD_eq_getElem?_getD, List.getElem?_eq_getElem hi2]; rfl
end Go.Proofs.Ytbapegdmpipllaa
