/- Lists of plain structs in memory. No walk. -/
import Derived.Test.YtpfijaojgeceeaaDoorKeep
namespace Go.Proofs.YtpfijaojgeceeaaDoor
open Go.RowKit
set_option linter.unusedVariables false

section
variable {α : Type} {en : α → List Value} {k : Nat} {E : TypeId}
set_option maxRecDepth 100000 in
theorem flatE_len (hk : ∀ z, (en z).length = k) (Z : List α) : (Z.flatMap en).length = Z.length * k := by
  induction Z with
  | nil => simp
  | cons z t ih => rw [List.flatMap_cons, List.length_append, ih, hk, List.length_cons, Nat.succ_mul]; omega
set_option maxRecDepth 100000 in
theorem flatE_get (hk : ∀ z, (en z).length = k) (Z : List α) (i j : Nat) (hi : i < Z.length) (hj : j < k) : (Z.flatMap en)[i * k + j]? = (en Z[i])[j]? := by
  induction Z generalizing i with
  | nil => simp at hi
  | cons z t ih =>
    rw [List.flatMap_cons]
    cases i with
    | zero => rw [Nat.zero_mul, Nat.zero_add, List.getElem?_append_left (by rw [hk]; exact hj)]; rfl
    | succ i =>
      rw [List.getElem?_append_right (by rw [hk, Nat.succ_mul]; omega), hk, show (i + 1) * k + j - k = i * k + j from by rw [Nat.succ_mul]; omega, ih i (by simpa using hi)]; rfl
set_option maxRecDepth 100000 in
theorem flatE_one (h1 : ∀ z, ∀ u ∈ en z, u.oneCell' = true) (Z : List α) : ∀ u ∈ Z.flatMap en, u.oneCell' = true := fun u hu => by
  obtain ⟨z, _, h⟩ := List.mem_flatMap.1 hu
  exact h1 z u h
/-- a list of plain structs in memory -/
structure Ls (en : α → List Value) (k : Nat) (w : World) (ao : Option Addr) (len cap : Nat) (L : List α) : Prop where
  len_eq : L.length = len
  le_cap : len ≤ cap
  cap_le : cap ≤ maxLen
  nil : ao = none → cap = 0
  spot : 0 < len → ∃ b off, ao = some ⟨b, off, none⟩ ∧ b < w.heap.size ∧ ∀ i (h : i < L.length), ∀ j, j < k → w.cell? ⟨b, off + i * k + j, none⟩ = (en L[i])[j]?
variable {w w' : World} {ao : Option Addr} {len cap : Nat} {L M : List α}
set_option maxRecDepth 100000 in
theorem Ls.keep (h : Ls en k w ao len cap L) (hb : ∀ p, ao = some p → p.block < w.heap.size → w'.heap[p.block]? = w.heap[p.block]?) (hs : w.heap.size ≤ w'.heap.size) : Ls en k w' ao len cap L :=
  ⟨h.len_eq, h.le_cap, h.cap_le, h.nil, fun hp => by
    obtain ⟨b, off, e, hlt, hc⟩ := h.spot hp
    have h1 : w'.heap[b]? = w.heap[b]? := hb _ e hlt
    exact ⟨b, off, e, Nat.lt_of_lt_of_le hlt hs, fun i hi j hj => (World.cell?_of_block (w := w) h1).trans (hc i hi j hj)⟩⟩
set_option maxRecDepth 100000 in
theorem Ls.below (h : Ls en k w ao len cap L) (hb : Below w.heap.size w w') : Ls en k w' ao len cap L := h.keep (fun p _ hlt => hb.block p.block hlt) hb.size
set_option maxRecDepth 100000 in
theorem Ls.drewN (h : Ls en k w ao len cap L) (n : Nat) : Ls en k (w.drewN n) ao len cap L := h.keep (fun _ _ _ => rfl) (Nat.le_refl _)
set_option maxRecDepth 100000 in
theorem Ls.list (h : Ls en k w ao len cap L) (e : L = M) : Ls en k w ao len cap M := by rw [← e]; exact h
set_option maxRecDepth 100000 in
theorem Ls.empty (w : World) : Ls en k w none 0 0 [] := ⟨rfl, Nat.le_refl _, Nat.zero_le _, fun _ => rfl, fun hp => absurd hp (Nat.lt_irrefl _)⟩
set_option maxRecDepth 100000 in
/-- its beginning -/
theorem Ls.take (h : Ls en k w ao len cap L) (m : Nat) (hm : m ≤ len) : Ls en k w ao m cap (L.take m) :=
  ⟨by rw [List.length_take, h.len_eq]; omega, Nat.le_trans hm h.le_cap, h.cap_le, h.nil, fun hp => by
    obtain ⟨b, off, e, hlt, hc⟩ := h.spot (by omega)
    refine ⟨b, off, e, hlt, fun i hi j hj => ?_⟩
    have hi2 : i < m ∧ i < L.length := by rw [List.length_take] at hi; omega
    rw [hc i hi2.2 j hj, List.getElem_take]⟩
set_option maxRecDepth 100000 in
/-- its cells, one behind the other -/
theorem Ls.cells (hk : ∀ z, (en z).length = k) (h : Ls en k w ao len cap L) {ad : Addr} (ha : ao = some ad) : ∀ j u, (L.flatMap en)[j]? = some u → w.cell? (ad.add j) = some u := by
  intro j u hu
  have hj : j < L.length * k := by have := (List.getElem?_eq_some_iff.1 hu).1; rwa [flatE_len hk] at this
  have hl := h.len_eq
  have hk0 : 0 < k := by rcases Nat.eq_zero_or_pos k with e | e; (rw [e, Nat.mul_zero] at hj; omega); exact e
  have hi : j / k < L.length := (Nat.div_lt_iff_lt_mul hk0).2 hj
  have hp : 0 < len := by rw [← hl]; exact Nat.lt_of_le_of_lt (Nat.zero_le _) hi
  obtain ⟨b, off, e, hlt, hc⟩ := h.spot hp
  rw [ha] at e
  cases e
  have e1 : j / k * k + j % k = j := by rw [Nat.mul_comm]; exact Nat.div_add_mod j k
  have h1 := flatE_get hk L (j / k) (j % k) hi (Nat.mod_lt _ hk0)
  rw [e1, hu] at h1
  rw [Addr.add_lit, h1, ← hc (j / k) hi (j % k) (Nat.mod_lt _ hk0), Nat.add_assoc, e1]
set_option maxRecDepth 100000 in
/-- what is owned reads as the list -/
theorem Ls.of_owns (hk : ∀ z, (en z).length = k) {base n : Nat} {v : Value} (h : w.ownsRow base E k v n (L.flatMap en)) (hn : L.length = n) : ∃ ao cap, v = .slice ao n cap ∧ Ls en k w ao n cap L := by
  rcases h.2 with ⟨rfl, h0⟩ | ⟨g, cap, cur, rfl, hb, hg, hnc, hcm, hcs, ht⟩
  · subst h0
    exact ⟨none, 0, rfl, hn, Nat.le_refl _, Nat.zero_le _, fun _ => rfl, fun hp => absurd hp (Nat.lt_irrefl _)⟩
  · refine ⟨some ⟨g, 0, none⟩, cap, rfl, hn, hnc, hcm, (fun hh => by cases hh), fun _ => ⟨g, 0, rfl, (Array.getElem?_eq_some_iff.1 hg).1, fun i hi j hj => ?_⟩⟩
    have h1 : (i + 1) * k ≤ n * k := Nat.mul_le_mul_right _ (by omega)
    rw [Nat.succ_mul] at h1
    rw [Nat.zero_add, h.cellAt (i * k + j) (by omega), flatE_get hk L i j hi hj]
end
end Go.Proofs.YtpfijaojgeceeaaDoor
