/- Instructions, depths and marks in memory. No walk. -/
import Derived.Test.YtlodbkjjkhpbaaaLsMem
import Derived.Test.YtlodbkjjkhpbaaaCodeMath
namespace Go.Proofs.Ytlodbkjjkhpbaaa
open Go.RowKit
set_option linter.unusedVariables false

def icC (x : Ic) : List Value := [.int .i64 x.o, .int .i64 x.n]
def ivC (d : Int) : List Value := [.int .i64 d]
def bvC (g : Bool) : List Value := [.bool g]
set_option maxRecDepth 100000 in
theorem icC_len (x : Ic) : (icC x).length = 2 := rfl
set_option maxRecDepth 100000 in
theorem ivC_len (d : Int) : (ivC d).length = 1 := rfl
set_option maxRecDepth 100000 in
theorem bvC_len (g : Bool) : (bvC g).length = 1 := rfl
set_option maxRecDepth 100000 in
theorem icC_one (x : Ic) : ∀ u ∈ icC x, u.oneCell' = true := by intro u hu; simp [icC] at hu; rcases hu with rfl | rfl <;> rfl
set_option maxRecDepth 100000 in
theorem ivC_one (d : Int) : ∀ u ∈ ivC d, u.oneCell' = true := by intro u hu; simp [ivC] at hu; subst hu; rfl
set_option maxRecDepth 100000 in
theorem bvC_one (g : Bool) : ∀ u ∈ bvC g, u.oneCell' = true := by intro u hu; simp [bvC] at hu; subst hu; rfl
/-- instructions, numbers, bools in memory -/
abbrev Ics := Ls icC 2
abbrev Ivs := Ls ivC 1
abbrev Bvs := Ls bvC 1
set_option maxRecDepth 100000 in
theorem Ls.ic {w : World} {ao : Option Addr} {len cap : Nat} {L : List Ic} (h : Ics w ao len cap L) (i : Nat) (hi : i < len) : ∃ b off, ao = some ⟨b, off, none⟩ ∧ b < w.heap.size ∧ w.cell? ⟨b, off + i * 2, none⟩ = some (.int .i64 (L.getD i ic0).o) ∧ w.cell? ⟨b, off + i * 2 + 1, none⟩ = some (.int .i64 (L.getD i ic0).n) := by
  obtain ⟨b, off, e, hlt, hc⟩ := h.spot (by omega)
  have hi2 : i < L.length := by rw [h.len_eq]; exact hi
  have e1 : L.getD i ic0 = L[i] := by rw [List.getD_eq_getElem?_getD, List.getElem?_eq_getElem hi2]; rfl
  rw [e1]
  exact ⟨b, off, e, hlt, hc i hi2 0 (by decide), hc i hi2 1 (by decide)⟩
set_option maxRecDepth 100000 in
theorem Ls.iv {w : World} {ao : Option Addr} {len cap : Nat} {L : List Int} (h : Ivs w ao len cap L) (i : Nat) (hi : i < len) (z : Int) : ∃ b off, ao = some ⟨b, off, none⟩ ∧ b < w.heap.size ∧ w.cell? ⟨b, off + i, none⟩ = some (.int .i64 (L.getD i z)) := by
  obtain ⟨b, off, e, hlt, hc⟩ := h.spot (by omega)
  have hi2 : i < L.length := by rw [h.len_eq]; exact hi
  have e1 : L.getD i z = L[i] := by rw [List.getD_eq_getElem?_getD, List.getElem?_eq_getElem hi2]; rfl
  have h1 := hc i hi2 0 (by decide)
  rw [Nat.mul_one, Nat.add_zero] at h1
  exact ⟨b, off, e, hlt, by rw [e1]; exact h1⟩
set_option maxRecDepth 100000 in
theorem iv_map (D : List Int) : D.flatMap ivC = D.map (Value.int .i64) := by
  induction D with
  | nil => rfl
  | cons d t ih => rw [List.flatMap_cons, ih]; rfl
set_option maxRecDepth 100000 in
theorem bv_map (G : List Bool) : G.flatMap bvC = G.map Value.bool := by
  induction G with
  | nil => rfl
  | cons d t ih => rw [List.flatMap_cons, ih]; rfl
set_option maxRecDepth 100000 in
theorem iv_set (D : List Int) (j : Nat) (d : Int) : (D.flatMap ivC).set j (.int .i64 d) = (D.set j d).flatMap ivC := by rw [iv_map, iv_map, List.map_set]
set_option maxRecDepth 100000 in
theorem bv_set (G : List Bool) (j : Nat) (g : Bool) : (G.flatMap bvC).set j (.bool g) = (G.set j g).flatMap bvC := by rw [bv_map, bv_map, List.map_set]
set_option maxRecDepth 100000 in
theorem iv_get (D : List Int) (j : Nat) (h : j < D.length) (z : Int) : (D.flatMap ivC)[j]? = some (.int .i64 (D.getD j z)) := by rw [iv_map, List.getElem?_map, List.getElem?_eq_getElem h, List.getD_eq_getElem?_getD, List.getElem?_eq_getElem h]; rfl
set_option maxRecDepth 100000 in
theorem bv_get' (G : List Bool) (j : Nat) (h : j < G.length) (z : Bool) : (G.flatMap bvC)[j]? = some (.bool (G.getD j z)) := by rw [bv_map, List.getElem?_map, List.getElem?_eq_getElem h, List.getD_eq_getElem?_getD, List.getElem?_eq_getElem h]; rfl
set_option maxRecDepth 100000 in
/-- the two cells of an instruction are written -/
theorem ics_set : ∀ (Z : List Ic) (j : Nat) (o n : Int), j < Z.length → ((Z.flatMap icC).set (j * 2) (.int .i64 o)).set (j * 2 + 1) (.int .i64 n) = (Z.set j ⟨o, n⟩).flatMap icC
  | [], j, _, _, h => absurd h (Nat.not_lt_zero j)
  | z :: Z, 0, _, _, _ => by rfl
  | z :: Z, j + 1, o, n, h => by
    have ih := ics_set Z j o n (by simpa using h)
    have hs : ∀ (t : List Value) (p : Nat) (u : Value), (icC z ++ t).set (p + 2) u = icC z ++ t.set p u := fun t p u => rfl
    show (((icC z ++ Z.flatMap icC).set ((j + 1) * 2) (.int .i64 o)).set ((j + 1) * 2 + 1) (.int .i64 n)) = icC z ++ (Z.set j ⟨o, n⟩).flatMap icC
    rw [show (j + 1) * 2 + 1 = j * 2 + 1 + 2 from by omega, show (j + 1) * 2 = j * 2 + 2 from by omega, hs, hs, ih]
set_option maxRecDepth 100000 in
/-- the number of an instruction is written -/
theorem ics_num : ∀ (Z : List Ic) (j : Nat) (n : Int), j < Z.length → (Z.flatMap icC).set (j * 2 + 1) (.int .i64 n) = (Z.set j ⟨(Z.getD j ic0).o, n⟩).flatMap icC
  | [], j, _, h => absurd h (Nat.not_lt_zero j)
  | z :: Z, 0, _, _ => by rfl
  | z :: Z, j + 1, n, h => by
    have ih := ics_num Z j n (by simpa using h)
    have hs : ∀ (t : List Value) (p : Nat) (u : Value), (icC z ++ t).set (p + 2) u = icC z ++ t.set p u := fun t p u => rfl
    show ((icC z ++ Z.flatMap icC).set ((j + 1) * 2 + 1) (.int .i64 n)) = icC z ++ (Z.set j ⟨(Z.getD j ic0).o, n⟩).flatMap icC
    rw [show (j + 1) * 2 + 1 = j * 2 + 1 + 2 from by omega, hs, ih]
end Go.Proofs.Ytlodbkjjkhpbaaa
