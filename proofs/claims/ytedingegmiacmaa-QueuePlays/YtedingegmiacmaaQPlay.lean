/- Both queues side by side, the law's few. -/
import Derived.Test.YtedingegmiacmaaQLives
import Derived.Test.YtedingegmiacmaaQIn
import Derived.Test.YtedingegmiacmaaRQueue2
import Derived.Test.YtedingegmiacmaaIvEq
import Derived.Test.YtedingegmiacmaaIvOwn
import Derived.Deep.RegionHeld3
namespace Go.Proofs.Ytedingegmiacmaa
open Go.RowKit
set_option linter.unusedVariables false

set_option maxRecDepth 100000 in
theorem dq_one {w : World} {b off n c : Nat} {L : List (Int × Int)} (h : Dqs w (some ⟨b, off, none⟩) n c L) (i : Nat) (hi : i < n) {x y : Int} (hx : L.getD i (0, 0) = (x, y)) : w.cell? ⟨b, off + i * 2, none⟩ = some (.int .i64 x) ∧ w.cell? ⟨b, off + i * 2 + 1, none⟩ = some (.int .i64 y) := by
  obtain ⟨b', off', e, _, h1, h2⟩ := h.dq i hi
  cases e
  rw [hx] at h1 h2
  exact ⟨h1, h2⟩
set_option maxRecDepth 100000 in
theorem iv_one {w : World} {b off n c : Nat} {L : List Int} (h : Ivs w (some ⟨b, off, none⟩) n c L) (i : Nat) (hi : i < n) {x : Int} (hx : L.getD i 0 = x) : w.cell? ⟨b, off + i, none⟩ = some (.int .i64 x) := by
  obtain ⟨b', off', e, _, h1⟩ := h.iv i hi 0
  cases e
  rw [hx] at h1
  exact h1
set_option maxRecDepth 100000 in
theorem iv_first {w : World} {b off n c : Nat} {L : List Int} (h : Ivs w (some ⟨b, off, none⟩) n c L) (hi : 0 < n) {x : Int} (hx : L.getD 0 0 = x) : w.cell? ⟨b, off, none⟩ = some (.int .i64 x) := iv_one h 0 hi hx
/-- the program's queue and the document's, in which the same waits -/
structure PI (w : World) (g gx most : Nat) (wr : World) (vL : Value) (L : List Int) : Prop where
  q : Qm wr g most L
  x : Qx w.heap.size wr gx most vL L
  qi : QI most L
  low : Below w.heap.size w wr
  gN : w.heap.size ≤ g
  ne : gx ≠ g
  off : vL.ownBlock ≠ some g
/-- the program's is ahead by a call -/
structure PH (w : World) (g gx most : Nat) (wr : World) (vL : Value) (L M : List Int) : Prop where
  q : Qm wr g most M
  x : Qx w.heap.size wr gx most vL L
  qi : QI most M
  low : Below w.heap.size w wr
  gN : w.heap.size ≤ g
  ne : gx ≠ g
  off : vL.ownBlock ≠ some g
section
variable {w wr wr1 : World} {g gx most : Nat} {vL : Value} {L M : List Int}
set_option maxRecDepth 100000 in
theorem PI.below (h : PI w g gx most wr vL L) (hb : Below wr.heap.size wr wr1) : PI w g gx most wr1 vL L :=
  ⟨h.q.below hb, h.x.below hb, h.qi, bstep h.low hb, h.gN, h.ne, h.off⟩
set_option maxRecDepth 100000 in
theorem Qx.kept19 {N : Nat} (h : Qx N wr gx most vL L) (hk : Kept (fun k => k = g) wr wr1) (hne : gx ≠ g) (ho : vL.ownBlock ≠ some g) : Qx N wr1 gx most vL L :=
  ⟨(hk.block gx h.lt hne).trans h.row, h.gN, own_keep h.own (fun j e => hk.block j (h.own.lt j e).2 (fun e2 => ho (by rw [e, e2])))⟩
set_option maxRecDepth 100000 in
theorem PI.half (h : PI w g gx most wr vL L) (hq : Qm wr1 g most M) (hk : Kept (fun k => k = g) wr wr1) (hm : QI most M) : PH w g gx most wr1 vL L M :=
  ⟨hq, h.x.kept19 hk h.ne h.off, hm, new_low h.low hk h.gN, h.gN, h.ne, h.off⟩
set_option maxRecDepth 100000 in
theorem PH.whole {vL2 : Value} (h : PH w g gx most wr vL L M) (hx : Qx w.heap.size wr1 gx most vL2 M) (hk : Kept (ownQ gx vL) wr wr1) (ha : AtQ wr vL vL2) : PI w g gx most wr1 vL2 M :=
  ⟨h.q.kept hk (fun e => by rcases e with e | e; exact h.ne e.symm; exact h.off e), hx, h.qi, h.low.trans (hk.low (fun j e => by rcases e with e | e; (rw [e]; exact h.x.gN); exact (h.x.own.lt j e).1) h.low.size), h.gN, h.ne, fun e => by
    rcases ha g e with e1 | e1
    · exact h.off e1
    · exact absurd h.q.lt (Nat.not_lt.2 e1)⟩
end
set_option maxRecDepth 100000 in
theorem few_dqs {w : World} {a : Option Addr} {n c : Nat} {L : List (Int × Int)} (h : Dqs w a n c L) : ∃ m, min n 100 = m ∧ m ≤ 100 ∧ Dqs w a m c (L.take 100) := by
  refine ⟨_, rfl, by omega, ?_⟩
  by_cases hn : n ≤ 100
  · rw [Nat.min_eq_left hn]; exact h.list (List.take_of_length_le (by rw [h.len_eq]; exact hn)).symm
  · rw [Nat.min_eq_right (by omega)]; exact h.take 100 (by omega)
set_option maxHeartbeats 1000000 in
theorem few19_any (a : Option Addr) (n c : Nat) (L : List (Int × Int)) (w : World) (h : Dqs w a n c L) :
    Calls Try.prog 11 #[.slice a n c] w fun e w' => e = .returned (.slice a (min n 100) c) ∧ w' = w := by
  have hcl := h.le_cap
  have hcm := h.cap_le
  unfold maxLen at hcm
  by_cases hlen : n ≤ 100
  · have hlI : ¬ (100 : Int) < (n : Int) := by omega
    rw [Nat.min_eq_left hlen]
    clear h
    go_enter Try.func11, Try.ntmps11
    go_wp2_with fail
    go_ret
    exact ⟨rfl, rfl⟩
  · have hlI : (100 : Int) < (n : Int) := by omega
    have hc1 : (100 : Int) ≤ (c : Int) := by omega
    obtain ⟨b, off, e, _, _⟩ := h.dq 0 (by omega)
    subst e
    rw [Nat.min_eq_right (by omega)]
    clear h
    go_enter Try.func11, Try.ntmps11
    go_wp2_with fail
    go_ret
    exact ⟨rfl, rfl⟩
end Go.Proofs.Ytedingegmiacmaa
