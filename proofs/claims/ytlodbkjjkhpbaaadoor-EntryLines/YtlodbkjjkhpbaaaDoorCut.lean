/- What the document's Cut and Copy answer. -/
import Derived.Test.YtlodbkjjkhpbaaaDoorBase
namespace Go.Proofs.YtlodbkjjkhpbaaaDoor
open Go.RowKit
set_option linter.unusedVariables false

set_option maxRecDepth 100000 in
theorem Bts.cut {w : World} {ao : Option Addr} {len cap : Nat} {l : List Int} (h : Bts w ao len cap l) (n : Nat) (hn : n ≤ len) : Bts w ao n cap (l.take n) := by
  have hl := h.len_eq
  refine ⟨by rw [List.length_take]; omega, h.byt.take n, Nat.le_trans hn h.le_cap, h.cap_le, h.nil, fun hp => ?_⟩
  obtain ⟨b, off, e, hlt, hc⟩ := h.spot (by omega)
  refine ⟨b, off, e, hlt, fun i hi => ?_⟩
  rw [hc i (by omega), List.getD_eq_getElem?_getD, List.getD_eq_getElem?_getD, List.getElem?_take, if_pos hi]

set_option maxRecDepth 100000 in
theorem Bts.cells {w : World} {ad : Addr} {len cap : Nat} {l : List Int} (h : Bts w (some ad) len cap l) : ∀ j u, (bv l)[j]? = some u → w.cell? (ad.add j) = some u := by
  intro j u hu
  have hj : j < l.length := by have := (List.getElem?_eq_some_iff.1 hu).1; rwa [bv_length] at this
  have hl := h.len_eq
  obtain ⟨b, off, e, hlt, hc⟩ := h.spot (by omega)
  cases e
  rw [Addr.add_lit, hc j (by omega), List.getD_eq_getElem?_getD, List.getElem?_eq_getElem hj]
  rw [bv, List.getElem?_map, List.getElem?_eq_getElem hj] at hu
  exact hu


end Go.Proofs.YtlodbkjjkhpbaaaDoor
