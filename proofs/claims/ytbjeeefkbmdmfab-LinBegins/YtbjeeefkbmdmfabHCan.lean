/- Whether an event can be; Before. -/
import Derived.Test.YtbjeeefkbmdmfabLnd
namespace Go.Proofs.Ytbjeeefkbmdmfab
open Go.RowKit
set_option linter.unusedVariables false

set_option maxRecDepth 100000 in
theorem canE_lo {c o v : Int} {k : Bool} (h : c < 0) : canE ⟨c, k, o, v⟩ = false := by simp [canE]; omega
set_option maxRecDepth 100000 in
theorem canE_hi {c o v : Int} {k : Bool} (h : 16 ≤ c) : canE ⟨c, k, o, v⟩ = false := by simp [canE]; omega
set_option maxRecDepth 100000 in
theorem canE_call {c o v : Int} (h0 : 0 ≤ c) (h1 : ¬ 16 ≤ c) (b : Bool) (h : (0 ≤ o ∧ o < 16) ↔ b = true) : canE ⟨c, true, o, v⟩ = b := by
  have h2 : decide (0 ≤ c) = true := by simpa using h0
  have h3 : decide (c ≤ 15) = true := by simp; omega
  unfold canE; simp only [h2, h3, if_true, Bool.true_and]
  cases b <;> simp at h ⊢ <;> omega
set_option maxRecDepth 100000 in
theorem canE_ans {c o v : Int} (h0 : 0 ≤ c) (h1 : ¬ 16 ≤ c) : canE ⟨c, false, o, v⟩ = decide (o = 0) := by
  have h2 : decide (0 ≤ c) = true := by simpa using h0
  have h3 : decide (c ≤ 15) = true := by simp; omega
  unfold canE; simp [h2, h3]
set_option maxHeartbeats 400000 in
theorem can_any (c o v : Int) (k : Bool) (w : World) :
    Calls Try.prog 21 #[.agg #[.int .i64 c, .bool k, .int .i64 o, .int .i64 v]] w fun e w' => e = .returned (.bool (canE ⟨c, k, o, v⟩)) ∧ Below w.heap.size w w' := by
  have hbl : Below w.heap.size w (w.alloc (.cells #[.int .i64 c, .bool k, .int .i64 o, .int .i64 v] 54)) := (Below.refl _ _).alloc (Nat.le_refl _) _
  by_cases h1 : c < 0
  · rw [canE_lo h1]
    go_enter Try.func21, Try.ntmps21
    go_wp2
    go_ret
    exact ⟨rfl, hbl⟩
  · by_cases h2 : 16 ≤ c
    · rw [canE_hi h2]
      go_enter Try.func21, Try.ntmps21
      go_wp2
      go_ret
      exact ⟨rfl, hbl⟩
    · cases k with
      | true =>
        by_cases h3 : 0 ≤ o
        · by_cases h4 : o < 16
          · rw [canE_call (by omega) h2 true (by simp; omega)]
            go_enter Try.func21, Try.ntmps21
            go_wp2
            go_ret
            exact ⟨rfl, hbl⟩
          · rw [canE_call (by omega) h2 false (by simp; omega)]
            go_enter Try.func21, Try.ntmps21
            go_wp2
            go_ret
            exact ⟨rfl, hbl⟩
        · rw [canE_call (by omega) h2 false (by simp; omega)]
          go_enter Try.func21, Try.ntmps21
          go_wp2
          go_ret
          exact ⟨rfl, hbl⟩
      | false =>
        rw [canE_ans (by omega) h2]
        go_enter Try.func21, Try.ntmps21
        go_wp2
        go_ret
        exact ⟨rfl, hbl⟩
end Go.Proofs.Ytbjeeefkbmdmfab
