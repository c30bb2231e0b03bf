/- Events and operations in memory. No walk. -/
import Derived.Test.YtckgplemdmgekaaLsMem
import Derived.Test.YtckgplemdmgekaaHOpr
import Derived.Test.YtckgplemdmgekaaHistText
namespace Go.Proofs.Ytckgplemdmgekaa
open Go.RowKit
set_option linter.unusedVariables false

def evC (x : Ev) : List Value := [.int .i64 x.c, .bool x.k, .int .i64 x.o, .int .i64 x.v]
def orC (o : Opr) : List Value := [.int .i64 o.c, .int .i64 o.o, .int .i64 o.a, .bool o.d, .int .i64 o.r, .int .i64 o.f, .int .i64 o.t]
set_option maxRecDepth 100000 in
theorem evC_len (x : Ev) : (evC x).length = 4 := rfl
set_option maxRecDepth 100000 in
theorem orC_len (o : Opr) : (orC o).length = 7 := rfl
set_option maxRecDepth 100000 in
theorem evC_one (x : Ev) : ∀ u ∈ evC x, u.oneCell' = true := by intro u hu; simp [evC] at hu; rcases hu with rfl | rfl | rfl | rfl <;> rfl
set_option maxRecDepth 100000 in
theorem orC_one (o : Opr) : ∀ u ∈ orC o, u.oneCell' = true := by intro u hu; simp [orC] at hu; rcases hu with rfl | rfl | rfl | rfl | rfl | rfl | rfl <;> rfl
abbrev Evs := Ls evC 4
abbrev Ors := Ls orC 7
/-- its numbers are ints -/
structure EvK (x : Ev) : Prop where
  c : V64 x.c
  o : V64 x.o
  v : V64 x.v
def EvsK (L : List Ev) : Prop := ∀ x ∈ L, EvK x
set_option maxRecDepth 100000 in
theorem EvsK.take {L : List Ev} (h : EvsK L) (n : Nat) : EvsK (L.take n) := fun x hx => h x (List.mem_of_mem_take hx)
set_option maxRecDepth 100000 in
theorem EvsK.get {L : List Ev} (h : EvsK L) (i : Nat) (hi : i < L.length) : EvK (L.getD i ev0) := by
  rw [List.getD_eq_getElem?_getD, List.getElem?_eq_getElem hi]; exact h _ (List.getElem_mem hi)
set_option maxRecDepth 100000 in
/-- an event of a list -/
theorem Ls.ev {w : World} {ao : Option Addr} {len cap : Nat} {L : List Ev} (h : Evs w ao len cap L) (i : Nat) (hi : i < len) : ∃ b off, ao = some ⟨b, off, none⟩ ∧ b < w.heap.size ∧
    w.cell? ⟨b, off + i * 4, none⟩ = some (.int .i64 (L.getD i ev0).c) ∧ w.cell? ⟨b, off + i * 4 + 1, none⟩ = some (.bool (L.getD i ev0).k) ∧ w.cell? ⟨b, off + i * 4 + 2, none⟩ = some (.int .i64 (L.getD i ev0).o) ∧ w.cell? ⟨b, off + i * 4 + 3, none⟩ = some (.int .i64 (L.getD i ev0).v) := by
  obtain ⟨b, off, e, hlt, hc⟩ := h.spot (by omega)
  have hi2 : i < L.length := by rw [h.len_eq]; exact hi
  have e1 : L.getD i ev0 = L[i] := by rw [List.getD_eq_getElem?_getD, List.getElem?_eq_getElem hi2]; rfl
  rw [e1]
  exact ⟨b, off, e, hlt, hc i hi2 0 (by decide), hc i hi2 1 (by decide), hc i hi2 2 (by decide), hc i hi2 3 (by decide)⟩
set_option maxRecDepth 100000 in
/-- an operation of a list -/
theorem Ls.or {w : World} {ao : Option Addr} {len cap : Nat} {L : List Opr} (h : Ors w ao len cap L) (i : Nat) (hi : i < len) : ∃ b off, ao = some ⟨b, off, none⟩ ∧ b < w.heap.size ∧
    w.cell? ⟨b, off + i * 7, none⟩ = some (.int .i64 (L.getD i op0).c) ∧ w.cell? ⟨b, off + i * 7 + 1, none⟩ = some (.int .i64 (L.getD i op0).o) ∧ w.cell? ⟨b, off + i * 7 + 2, none⟩ = some (.int .i64 (L.getD i op0).a) ∧ w.cell? ⟨b, off + i * 7 + 3, none⟩ = some (.bool (L.getD i op0).d) ∧
    w.cell? ⟨b, off + i * 7 + 4, none⟩ = some (.int .i64 (L.getD i op0).r) ∧ w.cell? ⟨b, off + i * 7 + 5, none⟩ = some (.int .i64 (L.getD i op0).f) ∧ w.cell? ⟨b, off + i * 7 + 6, none⟩ = some (.int .i64 (L.getD i op0).t) := by
  obtain ⟨b, off, e, hlt, hc⟩ := h.spot (by omega)
  have hi2 : i < L.length := by rw [h.len_eq]; exact hi
  have e1 : L.getD i op0 = L[i] := by rw [List.getD_eq_getElem?_getD, List.getElem?_eq_getElem hi2]; rfl
  rw [e1]
  exact ⟨b, off, e, hlt, hc i hi2 0 (by decide), hc i hi2 1 (by decide), hc i hi2 2 (by decide), hc i hi2 3 (by decide), hc i hi2 4 (by decide), hc i hi2 5 (by decide), hc i hi2 6 (by decide)⟩
end Go.Proofs.Ytckgplemdmgekaa
