/- Lists of texts that came in. -/
import Derived.Test.YtfkloilbjfleeaaDoorTxs
import Derived.Test.YtfkloilbjfleeaaDoorDgsIn
import Derived.Deep.Slices
namespace Go.Proofs.YtfkloilbjfleeaaDoor
open Go.ChangeShapes Go.WideShapes Go.ChangeAt Go.RowKit

set_option maxRecDepth 100000 in
/-- a list of texts that came in -/
theorem open_txs {H : Type} {enc : TypeId × Value → H} {W : World} {a : Option Addr} {len cap : Nat} {d : DataW H} {p : List MemPlace} {held : Bool} {bs : Nat}
    (h : DataW.Trod enc Tryd.prog W bs (fun _ => true) held 29 (.slice a len cap) d p) : ∃ T, Txs W a len cap T := by
  obtain ⟨fuel, hf⟩ := h
  rcases Deep.open_slice1 Tryd.underlying29 (by kernel_rfl) hf with ⟨hcs, _⟩ | ⟨a, l, c, m, n, V, D, Pl, hcs, _, hl, hm, hmm, _, hel⟩
  · simp [Value.cells] at hcs
    obtain ⟨rfl, rfl, rfl⟩ := hcs
    exact ⟨[], rfl, Nat.le_refl _, Nat.zero_le _, fun hp => absurd hp (Nat.lt_irrefl _)⟩
  · simp [Value.cells] at hcs
    obtain ⟨rfl, rfl, rfl⟩ := hcs
    have hmm' : m = cap := by simpa using hmm
    have hone : ∀ i, i < len → ∃ ai li ci z, W.cell? (a.add i) = some (.slice ai li ci) ∧ Bts W ai li ci z := by
      intro i hi
      obtain ⟨e1, e2⟩ := hel i (by omega)
      rcases open_ints Tryd.underlying22 Tryd.underlying5 (by kernel_rfl) e2 with ⟨hcs, _⟩ | ⟨x, l2, c2, zs, hcs, _, hl2, hm2, hz2, _, hcell, hwz⟩
      · have hVi : V i = .slice none 0 0 := by simpa using hcs
        exact ⟨none, 0, 0, _, by rw [e1, hVi], Bts.of_row (zs := []) (.inl ⟨rfl, rfl, rfl, rfl⟩)⟩
      · have hVi : V i = .slice (some x) l2 c2 := by simpa using hcs
        exact ⟨some x, l2, c2, _, by rw [e1, hVi], Bts.of_row (.inr ⟨x, rfl, hl2, hm2, by simpa using hz2, hcell, hwz⟩)⟩
    have hgen : ∀ m, m ≤ len → ∃ T : List (List Int), T.length = m ∧ ∀ i, i < m → ∃ ai li ci, W.cell? (a.add i) = some (.slice ai li ci) ∧ Bts W ai li ci (T.getD i []) := by
      intro m
      induction m with
      | zero => intro _; exact ⟨[], rfl, fun i hi => absurd hi (Nat.not_lt_zero _)⟩
      | succ m ih =>
        intro hm
        obtain ⟨T, hT, hTe⟩ := ih (by omega)
        obtain ⟨ai, li, ci, z, hz1, hz2⟩ := hone m (by omega)
        refine ⟨T ++ [z], by simp [hT], fun i hi => ?_⟩
        by_cases him : i = m
        · subst him
          refine ⟨ai, li, ci, hz1, ?_⟩
          rw [List.getD_eq_getElem?_getD, List.getElem?_append_right (by omega), hT, Nat.sub_self]
          exact hz2
        · obtain ⟨aj, lj, cj, e1, e2⟩ := hTe i (by omega)
          refine ⟨aj, lj, cj, e1, ?_⟩
          rw [List.getD_eq_getElem?_getD, List.getElem?_append_left (by omega), ← List.getD_eq_getElem?_getD]
          exact e2
    obtain ⟨T, hT, hTe⟩ := hgen len (Nat.le_refl _)
    refine ⟨T, hT, hl, hm, fun hp => ?_⟩
    obtain ⟨b, off, sp⟩ := a
    obtain ⟨_, _, _, h00, _⟩ := hTe 0 hp
    have hsp : sp = none := by simpa [Addr.add] using World.cell?_spot h00
    subst hsp
    refine ⟨b, off, rfl, by have := World.block_lt_of_cell? W _ h00; simpa [Addr.add] using this, fun i hi => ?_⟩
    obtain ⟨ai, li, ci, e1, e2⟩ := hTe i hi
    rw [Addr.add_lit] at e1
    exact ⟨ai, li, ci, e1, e2⟩
end Go.Proofs.YtfkloilbjfleeaaDoor
