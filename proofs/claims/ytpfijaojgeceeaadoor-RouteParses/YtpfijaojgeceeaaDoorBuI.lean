/- Own bytes that are written over, one by one. -/
import Derived.Test.YtpfijaojgeceeaaDoorKeep
import Derived.Laws.OwnMore
namespace Go.Proofs.YtpfijaojgeceeaaDoor
open Go.RowKit
set_option linter.unusedVariables false

set_option maxRecDepth 100000 in
theorem bv_setU (l : List Int) (k : Nat) (z : Int) : (bv l).set k (.int .u8 z) = bv (l.set k z) := by unfold bv; rw [List.map_set]
/-- own bytes that are written over, one by one -/
structure BuI (B : Nat) (a : Option Addr) (n c : Nat) (l : List Int) (ws wr : World) : Prop where
  len : l.length = n
  own : wr.ownsRow B 5 1 (.slice a n c) n (bv l)
  kept : Kept (fun b => (Value.slice a n c).ownBlock = some b) ws wr
set_option maxRecDepth 100000 in
theorem BuI.put {B g k n c : Nat} {l : List Int} {ws wr : World} (h : BuI B (some ⟨g, 0, none⟩) n c l ws wr) (z : Int) : BuI B (some ⟨g, 0, none⟩) n c (l.set k z) ws (wr.setCell ⟨g, k, none⟩ (.int .u8 z)) :=
  ⟨by rw [List.length_set]; exact h.len, by rw [← bv_setU]; exact (h.own.stored k (.int .u8 z)).1, h.kept.setCell (.inl rfl) k _⟩
set_option maxRecDepth 100000 in
theorem BuI.low {B n c : Nat} {a : Option Addr} {l : List Int} {ws wr w : World} (h : BuI B a n c l ws wr) (hb : Below B w ws) (hs : B ≤ ws.heap.size) : Below B w wr :=
  hb.trans (h.kept.low (fun k hk => (h.own.lt k hk).1) hs)
end Go.Proofs.YtpfijaojgeceeaaDoor
