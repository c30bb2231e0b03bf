/- Two readers side by side: the program's and the document's. No walk. -/
import Derived.Test.YtjlclgmbenhakaaRBPut
import Derived.Test.YtjlclgmbenhakaaChunkTake
namespace Go.Proofs.Ytjlclgmbenhakaa
open Go.RowKit
set_option linter.unusedVariables false

structure TwoC (w wr : World) (g h m : Nat) (own1 own2 : Nat → Prop) (s : CS) (N : Nat) : Prop where
  rd : Rd wr g own1 m s
  xd : Xd wr h own2 m s N
  dj : ∀ k, own1 k → ¬ own2 k
  lo : ∀ k, own1 k ∨ own2 k → w.heap.size ≤ k
  bel : Below w.heap.size w wr
variable {w wr w1 w2 : World} {g h m : Nat} {own1 own2 o1 o2 : Nat → Prop} {s s2 : CS} {N N2 : Nat}
set_option maxRecDepth 100000 in
theorem TwoC.below (t : TwoC w wr g h m own1 own2 s N) (hb : Below wr.heap.size wr w1) : TwoC w w1 g h m own1 own2 s N :=
  ⟨t.rd.below hb, t.xd.below hb, t.dj, t.lo, bstep t.bel hb⟩
set_option maxRecDepth 100000 in
/-- the program's reader took a byte: the document's stays -/
theorem TwoC.left (t : TwoC w wr g h m own1 own2 s N) (hd : Did own1 wr w1 o1) : Xd w1 h own2 m s N := t.xd.kept hd.kept (fun k h2 h1 => t.dj k h1 h2)
set_option maxRecDepth 100000 in
theorem TwoC.both (t : TwoC w wr g h m own1 own2 s N) (hd : Did own1 wr w1 o1) (hr : Rd w1 g o1 m s2) (hd2 : Did own2 w1 w2 o2) (hx : Xd w2 h o2 m s2 N2) : TwoC w w2 g h m o1 o2 s2 N2 := by
  have hs1 := hd.kept.size
  have hn : ∀ k, o1 k → ¬ own2 k := fun k h1 h2 => by
    rcases hd.new k h1 with h3 | h3
    · exact t.dj k h3 h2
    · have := t.xd.lt k h2; omega
  have hlo1 : ∀ k, o1 k → w.heap.size ≤ k := fun k h1 => by
    rcases hd.new k h1 with h3 | h3
    · exact t.lo k (.inl h3)
    · have := t.bel.size; omega
  refine ⟨hr.kept hd2.kept hn, hx, fun k h1 h2 => ?_, fun k hk => ?_, ?_⟩
  · rcases hd2.new k h2 with h3 | h3
    · exact hn k h1 h3
    · have := hr.lt k h1; omega
  · rcases hk with hk | hk
    · exact hlo1 k hk
    · rcases hd2.new k hk with h3 | h3
      · exact t.lo k (.inr h3)
      · have := t.bel.size; omega
  · exact (t.bel.trans (hd.kept.low (fun k hk => t.lo k (.inl hk)) t.bel.size)).trans (hd2.kept.low (fun k hk => t.lo k (.inr hk)) (Nat.le_trans t.bel.size hs1))
end Go.Proofs.Ytjlclgmbenhakaa
