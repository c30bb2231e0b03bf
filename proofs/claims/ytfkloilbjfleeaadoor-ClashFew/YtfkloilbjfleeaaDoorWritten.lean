/- A list of digests that is written over: all else stays. -/
import Derived.Test.YtfkloilbjfleeaaDoorSme
import Derived.Test.YtfkloilbjfleeaaDoorHashMath
namespace Go.Proofs.YtfkloilbjfleeaaDoor
open Go.RowKit
set_option linter.unusedVariables false

set_option maxRecDepth 100000 in
theorem Dgs.but2 {w w' : World} {g : Nat} {ao : Option Addr} {len cap : Nat} {L : List (List Int)} (h : Dgs w ao len cap L) (hb : But g w w') (ha : 0 < len → ∀ p, ao = some p → p.block ≠ g) : Dgs w' ao len cap L :=
  ⟨h.len_eq, h.dig, h.le_cap, h.cap_le, h.nil, fun hl => by
    obtain ⟨b, off, e, hlt, hc⟩ := h.spot hl
    exact ⟨b, off, e, Nat.lt_of_lt_of_le hlt hb.size, fun i hi j v hj => (World.cell?_of_block (w := w) (hb.block b hlt (ha hl _ e))).trans (hc i hi j v hj)⟩⟩
set_option maxRecDepth 100000 in
/-- where a list lies: ahead of what is new -/
theorem Dgs.old {w : World} {ao : Option Addr} {len cap : Nat} {L : List (List Int)} {g : Nat} (h : Dgs w ao len cap L) (hg : w.heap.size ≤ g) : 0 < len → ∀ p, ao = some p → p.block ≠ g := by
  intro hl p hp
  obtain ⟨b, off, e, hlt, _⟩ := h.spot hl
  rw [e] at hp; cases hp
  show b ≠ g; omega
/-- the row of n digests in the block G is written over; all else is as it was -/
structure PR (G n : Nat) (w wr : World) : Prop where
  but : But G w wr
  row : 0 < n → ∃ cur : Array Value, wr.heap[G]? = some (.cells cur 42 (0, 0)) ∧ n * 32 ≤ cur.size
set_option maxRecDepth 100000 in
theorem PR.there {G n : Nat} {w wr : World} (h : PR G n w wr) (k : Nat) (hk : k < n) : wr.there G (k * 32) 32 := by
  obtain ⟨cur, hr, hs⟩ := h.row (by omega)
  intro j hj
  exact ⟨by rw [cell_of_row _ _ (k * 32 + j) cur _ (0, 0) hr]; simp; omega, frozen_of_row _ _ (k * 32 + j) cur _ hr⟩
set_option maxRecDepth 100000 in
theorem PR.store {G n : Nat} {w wr : World} (h : PR G n w wr) (k : Nat) (hk : k < n) (vs : List Value) (hv : vs.length = 32) : PR G n w (wr.setCells G (k * 32) vs) := by
  obtain ⟨cur, hr, hs⟩ := h.row (by omega)
  refine ⟨h.but.setCells vs _, fun _ => ?_⟩
  obtain ⟨cs', e1, e2, _⟩ := heap_setCells G 42 vs (k * 32) wr cur (by rw [hv]; omega) hr
  exact ⟨cs', e1, by rw [e2]; exact hs⟩
set_option maxRecDepth 100000 in
theorem pr_of_owns {w : World} {base n : Nat} {v : Value} {xs : List Value} (h : w.ownsRow base 42 32 v n xs) : ∃ G, base ≤ G ∧ (0 < n → G < w.heap.size) ∧ PR G n w w ∧ ∃ ao cap, v = .slice ao n cap ∧ (0 < n → ao = some ⟨G, 0, none⟩) ∧ n ≤ cap ∧ cap ≤ maxLen := by
  rcases h.2 with ⟨rfl, rfl⟩ | ⟨g, cap, cur, rfl, hb, hg, hnc, hcm, hcs, ht⟩
  · exact ⟨base, Nat.le_refl _, fun h => absurd h (Nat.lt_irrefl _), ⟨But.refl _ _, fun h => absurd h (Nat.lt_irrefl _)⟩, none, 0, rfl, fun h => absurd h (Nat.lt_irrefl _), Nat.le_refl _, Nat.zero_le _⟩
  · exact ⟨g, hb, fun _ => (Array.getElem?_eq_some_iff.1 hg).1, ⟨But.refl _ _, fun _ => ⟨cur, hg, by rw [hcs]; exact Nat.mul_le_mul_right _ hnc⟩⟩, some ⟨g, 0, none⟩, cap, rfl, fun _ => rfl, hnc, hcm⟩
/-- the digest that is written over -/
def d7 : List Int := 7 :: List.replicate 31 0
set_option maxRecDepth 100000 in
theorem d7_eval : Value.agg #[.int .u8 7, .int .u8 0, .int .u8 0, .int .u8 0, .int .u8 0, .int .u8 0, .int .u8 0, .int .u8 0, .int .u8 0, .int .u8 0, .int .u8 0, .int .u8 0, .int .u8 0, .int .u8 0, .int .u8 0, .int .u8 0, .int .u8 0, .int .u8 0, .int .u8 0, .int .u8 0, .int .u8 0, .int .u8 0, .int .u8 0, .int .u8 0, .int .u8 0, .int .u8 0, .int .u8 0, .int .u8 0, .int .u8 0, .int .u8 0, .int .u8 0, .int .u8 0] = .agg (bv d7).toArray := rfl
end Go.Proofs.YtfkloilbjfleeaaDoor
