/- Code that is gone through, in memory. No walk. -/
import Derived.Test.YtckgplemdmgekaaCMem
import Derived.Test.YtckgplemdmgekaaCodeMore
import Derived.Laws.OwnMore
namespace Go.Proofs.Ytckgplemdmgekaa
open Go.RowKit
set_option linter.unusedVariables false

/-- code that is gone through: which it is, its depths, its marks -/
structure Wk (T : TypeId) (base : Nat) (w : World) (g gd cd gg cg : Nat) (a : Option Addr) (len cap : Nat) (D : List Int) (G : List Bool) : Prop where
  row : w.heap[g]? = some (.cells #[.slice a len cap, .slice (some ⟨gd, 0, none⟩) len cd, .slice (some ⟨gg, 0, none⟩) len cg] T (0, 0))
  dep : w.ownsRow base 3 1 (.slice (some ⟨gd, 0, none⟩) len cd) len (D.flatMap ivC)
  gon : w.ownsRow base 4 1 (.slice (some ⟨gg, 0, none⟩) len cg) len (G.flatMap bvC)
  bg : base ≤ g
  n1 : g ≠ gd
  n2 : g ≠ gg
  n3 : gd ≠ gg
  dl : D.length = len
  gl : G.length = len
section
variable {T : TypeId} {base : Nat} {w w' : World} {g gd cd gg cg : Nat} {a : Option Addr} {len cap : Nat} {D : List Int} {G : List Bool}
set_option maxRecDepth 100000 in
theorem Wk.cells (h : Wk T base w g gd cd gg cg a len cap D G) : w.cell? ⟨g, 0, none⟩ = some (.slice a len cap) ∧ w.cell? ⟨g, 1, none⟩ = some (.slice (some ⟨gd, 0, none⟩) len cd) ∧ w.cell? ⟨g, 2, none⟩ = some (.slice (some ⟨gg, 0, none⟩) len cg) :=
  ⟨cell_of_row _ g 0 _ _ (0, 0) h.row, cell_of_row _ g 1 _ _ (0, 0) h.row, cell_of_row _ g 2 _ _ (0, 0) h.row⟩
set_option maxRecDepth 100000 in
theorem Wk.dcell (h : Wk T base w g gd cd gg cg a len cap D G) (j : Nat) (hj : j < len) : w.cell? ⟨gd, j, none⟩ = some (.int .i64 (D.getD j (-1))) ∧ w.frozen? ⟨gd, j, none⟩ = false :=
  ⟨by rw [h.dep.cellAt j (by omega)]; exact iv_get D j (by rw [h.dl]; exact hj) _, h.dep.frozenAt j⟩
set_option maxRecDepth 100000 in
theorem Wk.gcell (h : Wk T base w g gd cd gg cg a len cap D G) (j : Nat) (hj : j < len) : w.cell? ⟨gg, j, none⟩ = some (.bool (G.getD j true)) ∧ w.frozen? ⟨gg, j, none⟩ = false :=
  ⟨by rw [h.gon.cellAt j (by omega)]; exact bv_get' G j (by rw [h.gl]; exact hj) _, h.gon.frozenAt j⟩
set_option maxRecDepth 100000 in
theorem Wk.lt (h : Wk T base w g gd cd gg cg a len cap D G) : g < w.heap.size := (Array.getElem?_eq_some_iff.1 h.row).1
set_option maxRecDepth 100000 in
theorem Wk.ged (h : Wk T base w g gd cd gg cg a len cap D G) : base ≤ gd := (h.dep.lt gd rfl).1
set_option maxRecDepth 100000 in
theorem Wk.geg (h : Wk T base w g gd cd gg cg a len cap D G) : base ≤ gg := (h.gon.lt gg rfl).1
set_option maxRecDepth 100000 in
theorem Wk.below (h : Wk T base w g gd cd gg cg a len cap D G) (hb : Below w.heap.size w w') : Wk T base w' g gd cd gg cg a len cap D G :=
  ⟨(hb.block g h.lt).trans h.row, owns_below h.dep hb, owns_below h.gon hb, h.bg, h.n1, h.n2, h.n3, h.dl, h.gl⟩
set_option maxRecDepth 100000 in
theorem Wk.drewN (h : Wk T base w g gd cd gg cg a len cap D G) (n : Nat) : Wk T base (w.drewN n) g gd cd gg cg a len cap D G := h.below (below_drewN (Below.refl _ _) n)
set_option maxRecDepth 100000 in
theorem Wk.setD (h : Wk T base w g gd cd gg cg a len cap D G) (j : Nat) (d : Int) : Wk T base (w.setCell ⟨gd, j, none⟩ (.int .i64 d)) g gd cd gg cg a len cap (D.set j d) G := by
  have h1 := (h.dep.stored j (.int .i64 d)).1
  rw [iv_set] at h1
  exact ⟨(heap_setCell_other w ⟨gd, j, none⟩ g _ h.n1).trans h.row, h1, ownsRow_setCell_other h.gon (a := ⟨gd, j, none⟩) (fun e => h.n3 (by cases e; rfl)) _, h.bg, h.n1, h.n2, h.n3, by rw [List.length_set]; exact h.dl, h.gl⟩
set_option maxRecDepth 100000 in
theorem Wk.setG (h : Wk T base w g gd cd gg cg a len cap D G) (j : Nat) (d : Bool) : Wk T base (w.setCell ⟨gg, j, none⟩ (.bool d)) g gd cd gg cg a len cap D (G.set j d) := by
  have h1 := (h.gon.stored j (.bool d)).1
  rw [bv_set] at h1
  exact ⟨(heap_setCell_other w ⟨gg, j, none⟩ g _ h.n2).trans h.row, ownsRow_setCell_other h.dep (a := ⟨gg, j, none⟩) (fun e => h.n3 (by cases e; rfl)) _, h1, h.bg, h.n1, h.n2, h.n3, h.dl, by rw [List.length_set]; exact h.gl⟩
end
set_option maxRecDepth 100000 in
theorem lead_past {D : List Int} {t : Nat} {d : Int} (h : D.length ≤ t) : lead D t d = (D, 6) := by unfold lead; rw [if_pos h]
set_option maxRecDepth 100000 in
theorem lead_new {D : List Int} {t : Nat} {d : Int} (h : t < D.length) (e : D.getD t (-1) = -1) : lead D t d = (D.set t d, 0) := by unfold lead; rw [if_neg (by omega), if_pos e]
set_option maxRecDepth 100000 in
theorem lead_flow {D : List Int} {t : Nat} {d : Int} (h : t < D.length) (e : D.getD t (-1) ≠ -1) (k : D.getD t (-1) ≠ d) : lead D t d = (D, 16) := by unfold lead; rw [if_neg (by omega), if_neg e, if_pos k]
set_option maxRecDepth 100000 in
theorem lead_fit {D : List Int} {t : Nat} {d : Int} (h : t < D.length) (e : D.getD t (-1) ≠ -1) (k : D.getD t (-1) = d) : lead D t d = (D, 0) := by unfold lead; rw [if_neg (by omega), if_neg e, if_neg (fun h => h k)]
/-- depths are none, or from 0 to 8 -/
def DB (D : List Int) : Prop := ∀ q, D.getD q (-1) = -1 ∨ (0 ≤ D.getD q (-1) ∧ D.getD q (-1) ≤ 8)
set_option maxRecDepth 100000 in
theorem lead_db {D : List Int} {t : Nat} {d : Int} (h : DB D) (h0 : 0 ≤ d) (h8 : d ≤ 8) : DB (lead D t d).1 := by
  unfold lead
  split
  · exact h
  · rename_i h1
    split
    · intro q
      simp only
      by_cases e : t = q
      · subst e
        rw [List.getD_eq_getElem?_getD, List.getElem?_set_self (by omega)]
        exact .inr ⟨h0, h8⟩
      · rw [List.getD_eq_getElem?_getD, List.getElem?_set_ne e, ← List.getD_eq_getElem?_getD]; exact h q
    · split <;> exact h
set_option maxRecDepth 100000 in
theorem goS_db {x : Ic} {D : List Int} {p : Nat} (hx : isO x.o = true) (hd : 0 ≤ D.getD p (-1)) (h : DB D) : DB (goS x D p).1 := by
  have hb := tbl_bd hx
  unfold goS
  generalize hdd : D.getD p (-1) - tkO x.o + ptO x.o = d
  split
  · exact h
  · split
    · exact h
    · have h0 : 0 ≤ d := by omega
      have h8 : d ≤ 8 := by omega
      split
      · exact lead_db h h0 h8
      · split
        · exact lead_db h h0 h8
        · split
          · split
            · exact lead_db h h0 h8
            · exact lead_db (lead_db h h0 h8) h0 h8
          · exact h
set_option maxRecDepth 100000 in
theorem db_zero (n : Nat) : DB (D0 n) := by
  intro q
  unfold D0
  by_cases e : q = 0
  · subst e
    by_cases h : 0 < n
    · rw [List.getD_eq_getElem?_getD, List.getElem?_set_self (by rw [List.length_replicate]; exact h)]; exact .inr ⟨by decide, by decide⟩
    · have : n = 0 := by omega
      subst this; exact .inl rfl
  · rw [List.getD_eq_getElem?_getD, List.getElem?_set_ne (fun k => e k.symm), List.getElem?_replicate]; left; split <;> rfl
end Go.Proofs.Ytckgplemdmgekaa
