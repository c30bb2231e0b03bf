/- Requests that the laws hold. -/
import Derived.Test.YtdameoejigpnhaaGreatDoorWCut
import Derived.Test.YtdameoejigpnhaaGreatDoorWOpen
import Derived.Test.YtdameoejigpnhaaGreatDoorSma
namespace Go.Proofs.YtdameoejigpnhaaGreatDoor
open Go.RowKit
set_option linter.unusedVariables false

/-- a request in a variable -/
structure RA (w : World) (g : Nat) (x : WX) (a : Option Addr) (n c : Nat) : Prop where
  row : w.heap[g]? = some (.cells #[.string x.m, .string x.t, .string x.k, .slice a n c] 26 (0, 0))
  b : Bts w a n c x.b
variable {w w' : World} {g : Nat} {x : WX} {a : Option Addr} {n c : Nat}
set_option maxRecDepth 100000 in
theorem RA.lt (h : RA w g x a n c) : g < w.heap.size := (Array.getElem?_eq_some_iff.1 h.row).1
set_option maxRecDepth 100000 in
theorem RA.below (h : RA w g x a n c) (hb : Below w.heap.size w w') : RA w' g x a n c := ⟨by rw [hb.block g h.lt]; exact h.row, h.b.below hb⟩
set_option maxRecDepth 100000 in
theorem RA.drewN (h : RA w g x a n c) (q : Nat) : RA (w.drewN q) g x a n c := ⟨h.row, h.b.drewN q⟩
set_option maxRecDepth 100000 in
theorem RA.c0 (h : RA w g x a n c) : w.cell? ⟨g, 0, none⟩ = some (.string x.m) := by rw [cell_of_row w g 0 _ _ (0, 0) h.row]; rfl
set_option maxRecDepth 100000 in
theorem RA.c1 (h : RA w g x a n c) : w.cell? ⟨g, 1, none⟩ = some (.string x.t) := by rw [cell_of_row w g 1 _ _ (0, 0) h.row]; rfl
set_option maxRecDepth 100000 in
theorem RA.c2 (h : RA w g x a n c) : w.cell? ⟨g, 2, none⟩ = some (.string x.k) := by rw [cell_of_row w g 2 _ _ (0, 0) h.row]; rfl
set_option maxRecDepth 100000 in
theorem RA.c3 (h : RA w g x a n c) : w.cell? ⟨g, 3, none⟩ = some (.slice a n c) := by rw [cell_of_row w g 3 _ _ (0, 0) h.row]; rfl
set_option maxRecDepth 100000 in
theorem RA.new (h : Bts w a n c x.b) : RA (w.alloc (.cells #[.string x.m, .string x.t, .string x.k, .slice a n c] 26)) w.heap.size x a n c := ⟨heap_alloc_new w _, h.below ((Below.refl _ _).alloc (Nat.le_refl _) _)⟩
set_option maxRecDepth 100000 in
theorem alloc_below (w : World) (o : Obj) : Below w.heap.size w (w.alloc o) := (Below.refl _ _).alloc (Nat.le_refl _) _
set_option maxRecDepth 100000 in
/-- a request is written over -/
theorem RA.put {B : Nat} {w0 : World} {x2 : WX} {a2 : Option Addr} {n2 c2 : Nat} (h : RA w g x a n c) (hB : Below B w0 w) (hg : B ≤ g) (h2 : Bts w a2 n2 c2 x2.b) (hne : 0 < n2 → ∀ p, a2 = some p → p.block ≠ g) :
    w.there g 0 4 ∧ RA (w.setCells g 0 #[.string x2.m, .string x2.t, .string x2.k, .slice a2 n2 c2].toList) g x2 a2 n2 c2 ∧ Below B w0 (w.setCells g 0 #[.string x2.m, .string x2.t, .string x2.k, .slice a2 n2 c2].toList) ∧ (∀ k, k ≠ g → (w.setCells g 0 #[.string x2.m, .string x2.t, .string x2.k, .slice a2 n2 c2].toList).heap[k]? = w.heap[k]?) ∧ (w.setCells g 0 #[.string x2.m, .string x2.t, .string x2.k, .slice a2 n2 c2].toList).heap.size = w.heap.size :=
  ⟨there_row h.row, ⟨heap_stored h.row rfl, h2.keep (fun hp p e => setCells_other (hne hp p e) _ _) (by rw [setCells_size]; exact Nat.le_refl _)⟩, below_setCells hB g hg _ 0, fun k hk => setCells_other hk _ _, setCells_size _ _⟩
set_option maxRecDepth 100000 in
theorem bts_ne (h : Bts w a n c x.b) (hr : w.heap[g]? = some (.cells #[.string x.m, .string x.t, .string x.k, .slice a n c] 26 (0, 0))) : 0 < n → ∀ p, a = some p → p.block ≠ g := by
  rintro hp p e rfl
  obtain ⟨b, off, e2, _, hc⟩ := h.spot hp
  rw [e] at e2
  cases e2
  have h1 := hc 0 hp
  rw [cell_of_row w _ _ _ _ (0, 0) hr] at h1
  match off, h1 with
  | 0, h1 => cases h1
  | 1, h1 => cases h1
  | 2, h1 => cases h1
  | 3, h1 => cases h1
  | (k + 4), h1 => simp at h1
set_option maxRecDepth 100000 in
/-- whatever request lies there, its body lies elsewhere -/
theorem bts_ne2 {l : List Int} {cs : Array Value} (h : Bts w a n c l) (hr : w.heap[g]? = some (.cells cs 26 (0, 0))) (hcs : ∀ (j : Nat) (z : Int), cs[j]? ≠ some (Value.int .u8 z)) : 0 < n → ∀ p, a = some p → p.block ≠ g := by
  rintro hp p e rfl
  obtain ⟨b, off, e2, _, hc⟩ := h.spot hp
  rw [e] at e2
  cases e2
  have h1 := hc 0 hp
  rw [cell_of_row w _ _ _ _ (0, 0) hr] at h1
  exact hcs _ _ h1
set_option maxRecDepth 100000 in
theorem req_noint (m t k : ByteArray) (a : Option Addr) (n c : Nat) : ∀ (j : Nat) (z : Int), (#[.string m, .string t, .string k, .slice a n c] : Array Value)[j]? ≠ some (Value.int .u8 z) := fun j z h => by
  match j, h with
  | 0, h => cases h
  | 1, h => cases h
  | 2, h => cases h
  | 3, h => cases h
  | (k + 4), h => simp at h
set_option maxRecDepth 100000 in
theorem smW_self (x : WX) : smW x x = true := (smW_iff _ _).2 rfl
end Go.Proofs.YtdameoejigpnhaaGreatDoor
