/- The law's lives: something waits. -/
import Derived.Test.YtedingegmiacmaaQPut
import Derived.Deep.CutRange
namespace Go.Proofs.Ytedingegmiacmaa
open Go.RowKit
set_option linter.unusedVariables false

set_option maxRecDepth 100000 in
/-- a new queue that is changed: what was there stays -/
theorem new_low {g : Nat} {w w1 w2 : World} (h : Below w.heap.size w w1) (k : Kept (fun j => j = g) w1 w2) (hg : w.heap.size ≤ g) : Below w.heap.size w w2 := h.trans (k.low (fun j e => by rw [e]; exact hg) h.size)
set_option maxHeartbeats 4000000 in
set_option maxRecDepth 100000 in
theorem lives19_any (w : World) :
    Calls Try.prog 10 #[] w fun e w' => e = .returned (.bool true) ∧ Below w.heap.size w w' := by
  obtain ⟨g, HG⟩ : ∃ g, Bx (w.heap.size = g) := ⟨_, ⟨rfl⟩⟩
  go_enter Try.func10, Try.ntmps10
  go_wp2_with fail
  refine (new19_yes 2 (by decide) (by decide) w).mono ?_
  rintro e w1 ⟨rfl, hq1, hb1⟩
  rw [HG.out] at hq1 ⊢
  have HQ1 := Bx.mk hq1
  have HB1 := Bx.mk hb1
  clear hq1 hb1
  go_wp2_with fail
  refine (put19_any g 2 [] 7 w1 HQ1.out (by decide) (by decide) (by decide)).mono ?_
  rintro e w2 ⟨rfl, hq2, hk2⟩
  rw [show qPut 2 [] 7 = ([7], 0) from rfl] at hq2 ⊢
  have HQ2 := Bx.mk hq2
  have HB2 := Bx.mk (new_low HB1.out hk2 (Nat.le_of_eq HG.out))
  clear hq2 hk2 HQ1 HB1
  go_wp2_with fail
  refine (len_yes HQ2.out (by decide)).mono ?_
  rintro e w3 ⟨rfl, hb3⟩
  have HB3 := Bx.mk (bstep HB2.out hb3)
  clear hb3
  go_wp2_with fail
  go_ret
  exact ⟨rfl, HB3.out⟩
end Go.Proofs.Ytedingegmiacmaa
