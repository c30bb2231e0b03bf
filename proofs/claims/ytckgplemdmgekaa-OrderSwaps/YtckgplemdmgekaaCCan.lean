/- Whether an instruction can be; whether its number stands in the text. -/
import Derived.Test.YtckgplemdmgekaaCTab
namespace Go.Proofs.Ytckgplemdmgekaa
open Go.RowKit
set_option linter.unusedVariables false

set_option maxRecDepth 100000 in
theorem canI_no {m : Nat} {o n : Int} (h : ¬ (0 ≤ o ∧ o ≤ 19)) : canI m ⟨o, n⟩ = false := by
  unfold canI
  rw [Bool.eq_false_iff.2 (fun k => h ((isO_iff o).1 k))]; rfl
set_option maxHeartbeats 4000000 in
set_option maxRecDepth 100000 in
theorem can15_any (o n : Int) (m : Nat) (w : World) (hm : m ≤ 1000000) :
    Calls Try.prog 41 #[.agg #[.int .i64 o, .int .i64 n], .int .i64 m] w fun e w' => e = .returned (.bool (canI m ⟨o, n⟩)) ∧ Below w.heap.size w w' := by
  have hbl : Below w.heap.size w (w.alloc (.cells #[.int .i64 o, .int .i64 n] 55)) := (Below.refl _ _).alloc (Nat.le_refl _) _
  by_cases hn : 0 ≤ o ∧ o ≤ 19
  · rcases op_cases ((isO_iff o).2 hn) with h | h | h | h | h | h | h | h | h | h | h | h | h | h | h | h | h | h | h | h <;> subst h <;> clear hn
    · have hc : canI m ⟨0, n⟩ = true := rfl
      rw [hc]; clear hc
      go_enter Try.func41, Try.ntmps41
      go_wp2_with fail
      go_ret
      exact ⟨rfl, hbl⟩
    · skip
      -- no number
      have hc : canI m ⟨1, n⟩ = (n == 0) := by unfold canI numB; by_cases h : n = 0 <;> simp [h, isO, nkO]
      rw [hc]; clear hc
      go_enter Try.func41, Try.ntmps41
      go_wp2_with (go_at_call 53; refine (takes_any _ _).mono ?_; rintro e wz ⟨rfl, rfl⟩; rw [show tkA 1 = 1 from rfl])
      go_ret
      exact ⟨rfl, hbl⟩
    · skip
      -- no number
      have hc : canI m ⟨2, n⟩ = (n == 0) := by unfold canI numB; by_cases h : n = 0 <;> simp [h, isO, nkO]
      rw [hc]; clear hc
      go_enter Try.func41, Try.ntmps41
      go_wp2_with (go_at_call 53; refine (takes_any _ _).mono ?_; rintro e wz ⟨rfl, rfl⟩; rw [show tkA 2 = 1 from rfl])
      go_ret
      exact ⟨rfl, hbl⟩
    · skip
      -- no number
      have hc : canI m ⟨3, n⟩ = (n == 0) := by unfold canI numB; by_cases h : n = 0 <;> simp [h, isO, nkO]
      rw [hc]; clear hc
      go_enter Try.func41, Try.ntmps41
      go_wp2_with (go_at_call 53; refine (takes_any _ _).mono ?_; rintro e wz ⟨rfl, rfl⟩; rw [show tkA 3 = 2 from rfl])
      go_ret
      exact ⟨rfl, hbl⟩
    · skip
      -- a cell
      by_cases h0 : 0 ≤ n
      · have hc : canI m ⟨4, n⟩ = decide (n < 4) := by
          unfold canI numB; simp [isO, nkO, h0]; omega
        rw [hc]; clear hc
        go_enter Try.func41, Try.ntmps41
        go_wp2_with fail
        go_ret
        exact ⟨rfl, hbl⟩
      · have hc : canI m ⟨4, n⟩ = false := by unfold canI numB; simp [isO, nkO]; omega
        rw [hc]; clear hc
        go_enter Try.func41, Try.ntmps41
        go_wp2_with fail
        go_ret
        exact ⟨rfl, hbl⟩
    · skip
      -- a cell
      by_cases h0 : 0 ≤ n
      · have hc : canI m ⟨5, n⟩ = decide (n < 4) := by
          unfold canI numB; simp [isO, nkO, h0]; omega
        rw [hc]; clear hc
        go_enter Try.func41, Try.ntmps41
        go_wp2_with fail
        go_ret
        exact ⟨rfl, hbl⟩
      · have hc : canI m ⟨5, n⟩ = false := by unfold canI numB; simp [isO, nkO]; omega
        rw [hc]; clear hc
        go_enter Try.func41, Try.ntmps41
        go_wp2_with fail
        go_ret
        exact ⟨rfl, hbl⟩
    · skip
      -- no number
      have hc : canI m ⟨6, n⟩ = (n == 0) := by unfold canI numB; by_cases h : n = 0 <;> simp [h, isO, nkO]
      rw [hc]; clear hc
      go_enter Try.func41, Try.ntmps41
      go_wp2_with (go_at_call 53; refine (takes_any _ _).mono ?_; rintro e wz ⟨rfl, rfl⟩; rw [show tkA 6 = 0 from rfl])
      go_ret
      exact ⟨rfl, hbl⟩
    · skip
      -- no number
      have hc : canI m ⟨7, n⟩ = (n == 0) := by unfold canI numB; by_cases h : n = 0 <;> simp [h, isO, nkO]
      rw [hc]; clear hc
      go_enter Try.func41, Try.ntmps41
      go_wp2_with (go_at_call 53; refine (takes_any _ _).mono ?_; rintro e wz ⟨rfl, rfl⟩; rw [show tkA 7 = 0 from rfl])
      go_ret
      exact ⟨rfl, hbl⟩
    · skip
      -- no number
      have hc : canI m ⟨8, n⟩ = (n == 0) := by unfold canI numB; by_cases h : n = 0 <;> simp [h, isO, nkO]
      rw [hc]; clear hc
      go_enter Try.func41, Try.ntmps41
      go_wp2_with (go_at_call 53; refine (takes_any _ _).mono ?_; rintro e wz ⟨rfl, rfl⟩; rw [show tkA 8 = 2 from rfl])
      go_ret
      exact ⟨rfl, hbl⟩
    · skip
      -- no number
      have hc : canI m ⟨9, n⟩ = (n == 0) := by unfold canI numB; by_cases h : n = 0 <;> simp [h, isO, nkO]
      rw [hc]; clear hc
      go_enter Try.func41, Try.ntmps41
      go_wp2_with (go_at_call 53; refine (takes_any _ _).mono ?_; rintro e wz ⟨rfl, rfl⟩; rw [show tkA 9 = 2 from rfl])
      go_ret
      exact ⟨rfl, hbl⟩
    · skip
      -- no number
      have hc : canI m ⟨10, n⟩ = (n == 0) := by unfold canI numB; by_cases h : n = 0 <;> simp [h, isO, nkO]
      rw [hc]; clear hc
      go_enter Try.func41, Try.ntmps41
      go_wp2_with (go_at_call 53; refine (takes_any _ _).mono ?_; rintro e wz ⟨rfl, rfl⟩; rw [show tkA 10 = 2 from rfl])
      go_ret
      exact ⟨rfl, hbl⟩
    · skip
      -- no number
      have hc : canI m ⟨11, n⟩ = (n == 0) := by unfold canI numB; by_cases h : n = 0 <;> simp [h, isO, nkO]
      rw [hc]; clear hc
      go_enter Try.func41, Try.ntmps41
      go_wp2_with (go_at_call 53; refine (takes_any _ _).mono ?_; rintro e wz ⟨rfl, rfl⟩; rw [show tkA 11 = 2 from rfl])
      go_ret
      exact ⟨rfl, hbl⟩
    · skip
      -- no number
      have hc : canI m ⟨12, n⟩ = (n == 0) := by unfold canI numB; by_cases h : n = 0 <;> simp [h, isO, nkO]
      rw [hc]; clear hc
      go_enter Try.func41, Try.ntmps41
      go_wp2_with (go_at_call 53; refine (takes_any _ _).mono ?_; rintro e wz ⟨rfl, rfl⟩; rw [show tkA 12 = 2 from rfl])
      go_ret
      exact ⟨rfl, hbl⟩
    · skip
      -- no number
      have hc : canI m ⟨13, n⟩ = (n == 0) := by unfold canI numB; by_cases h : n = 0 <;> simp [h, isO, nkO]
      rw [hc]; clear hc
      go_enter Try.func41, Try.ntmps41
      go_wp2_with (go_at_call 53; refine (takes_any _ _).mono ?_; rintro e wz ⟨rfl, rfl⟩; rw [show tkA 13 = 2 from rfl])
      go_ret
      exact ⟨rfl, hbl⟩
    · skip
      -- no number
      have hc : canI m ⟨14, n⟩ = (n == 0) := by unfold canI numB; by_cases h : n = 0 <;> simp [h, isO, nkO]
      rw [hc]; clear hc
      go_enter Try.func41, Try.ntmps41
      go_wp2_with (go_at_call 53; refine (takes_any _ _).mono ?_; rintro e wz ⟨rfl, rfl⟩; rw [show tkA 14 = 2 from rfl])
      go_ret
      exact ⟨rfl, hbl⟩
    · skip
      -- no number
      have hc : canI m ⟨15, n⟩ = (n == 0) := by unfold canI numB; by_cases h : n = 0 <;> simp [h, isO, nkO]
      rw [hc]; clear hc
      go_enter Try.func41, Try.ntmps41
      go_wp2_with (go_at_call 53; refine (takes_any _ _).mono ?_; rintro e wz ⟨rfl, rfl⟩; rw [show tkA 15 = 1 from rfl])
      go_ret
      exact ⟨rfl, hbl⟩
    · skip
      -- a place
      by_cases h0 : 0 ≤ n
      · have hc : canI m ⟨16, n⟩ = decide (n < (m : Int)) := by
          unfold canI numB; simp [isO, nkO, h0]
        rw [hc]; clear hc
        go_enter Try.func41, Try.ntmps41
        go_wp2_with fail
        go_ret
        exact ⟨rfl, hbl⟩
      · have hc : canI m ⟨16, n⟩ = false := by unfold canI numB; simp [isO, nkO]; omega
        rw [hc]; clear hc
        go_enter Try.func41, Try.ntmps41
        go_wp2_with fail
        go_ret
        exact ⟨rfl, hbl⟩
    · skip
      -- a place
      by_cases h0 : 0 ≤ n
      · have hc : canI m ⟨17, n⟩ = decide (n < (m : Int)) := by
          unfold canI numB; simp [isO, nkO, h0]
        rw [hc]; clear hc
        go_enter Try.func41, Try.ntmps41
        go_wp2_with fail
        go_ret
        exact ⟨rfl, hbl⟩
      · have hc : canI m ⟨17, n⟩ = false := by unfold canI numB; simp [isO, nkO]; omega
        rw [hc]; clear hc
        go_enter Try.func41, Try.ntmps41
        go_wp2_with fail
        go_ret
        exact ⟨rfl, hbl⟩
    · skip
      -- no number
      have hc : canI m ⟨18, n⟩ = (n == 0) := by unfold canI numB; by_cases h : n = 0 <;> simp [h, isO, nkO]
      rw [hc]; clear hc
      go_enter Try.func41, Try.ntmps41
      go_wp2_with (go_at_call 53; refine (takes_any _ _).mono ?_; rintro e wz ⟨rfl, rfl⟩; rw [show tkA 18 = 1 from rfl])
      go_ret
      exact ⟨rfl, hbl⟩
    · skip
      -- no number
      have hc : canI m ⟨19, n⟩ = (n == 0) := by unfold canI numB; by_cases h : n = 0 <;> simp [h, isO, nkO]
      rw [hc]; clear hc
      go_enter Try.func41, Try.ntmps41
      go_wp2_with (go_at_call 53; refine (takes_any _ _).mono ?_; rintro e wz ⟨rfl, rfl⟩; rw [show tkA 19 = 0 from rfl])
      go_ret
      exact ⟨rfl, hbl⟩
  · rw [canI_no hn]
    have q0 := beq_no (k := 0) hn (by decide)
    have q4 := beq_no (k := 4) hn (by decide)
    have q5 := beq_no (k := 5) hn (by decide)
    have q16 := beq_no (k := 16) hn (by decide)
    have q17 := beq_no (k := 17) hn (by decide)
    have ht := tkA_no hn
    clear hn
    go_enter Try.func41, Try.ntmps41
    go_wp2_with (go_at_call 53; refine (takes_any _ _).mono ?_; rintro e wz ⟨rfl, rfl⟩; rw [ht])
    go_ret
    exact ⟨rfl, hbl⟩
end Go.Proofs.Ytckgplemdmgekaa
