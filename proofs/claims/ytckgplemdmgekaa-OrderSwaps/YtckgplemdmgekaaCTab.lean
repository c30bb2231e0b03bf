/- What an instruction takes off and puts on; whether it can be. -/
import Derived.Test.YtckgplemdmgekaaCMem
import Derived.BigQuiet
namespace Go.Proofs.Ytckgplemdmgekaa
open Go.RowKit
set_option linter.unusedVariables false

set_option maxRecDepth 100000 in
theorem beq_no {o : Int} {k : Int} (h : ¬ (0 ≤ o ∧ o ≤ 19)) (hk : 0 ≤ k ∧ k ≤ 19) : (o == k) = false := by rw [beq_eq_false_iff_ne]; omega
set_option maxRecDepth 100000 in
theorem tkA_no {o : Int} (h : ¬ (0 ≤ o ∧ o ≤ 19)) : tkA o = -1 := by unfold tkA; rw [if_neg (fun k => h ((isO_iff o).1 k))]
set_option maxRecDepth 100000 in
theorem ptA_no {o : Int} (h : ¬ (0 ≤ o ∧ o ≤ 19)) : ptA o = -1 := by unfold ptA; rw [if_neg (fun k => h ((isO_iff o).1 k))]
set_option maxRecDepth 100000 in
theorem tkA_is {o : Int} (h : isO o = true) : tkA o = tkO o := by unfold tkA; rw [if_pos h]
set_option maxRecDepth 100000 in
theorem ptA_is {o : Int} (h : isO o = true) : ptA o = ptO o := by unfold ptA; rw [if_pos h]
set_option maxHeartbeats 2000000 in
theorem takes_any (o : Int) (w : World) :
    Calls Try.prog 53 #[.int .i64 o] w fun e w' => e = .returned (.int .i64 (tkA o)) ∧ w' = w := by
  by_cases hn : 0 ≤ o ∧ o ≤ 19
  · rcases op_cases ((isO_iff o).2 hn) with h | h | h | h | h | h | h | h | h | h | h | h | h | h | h | h | h | h | h | h <;> subst h <;> clear hn
    all_goals
      go_enter Try.func53, Try.ntmps53
      go_wp2_with fail
      go_ret
      exact ⟨rfl, rfl⟩
  · rw [tkA_no hn]
    -- an Op that is none: each comparison fails
    have q0 := beq_no (k := 0) hn (by decide)
    have q1 := beq_no (k := 1) hn (by decide)
    have q2 := beq_no (k := 2) hn (by decide)
    have q3 := beq_no (k := 3) hn (by decide)
    have q4 := beq_no (k := 4) hn (by decide)
    have q5 := beq_no (k := 5) hn (by decide)
    have q6 := beq_no (k := 6) hn (by decide)
    have q7 := beq_no (k := 7) hn (by decide)
    have q8 := beq_no (k := 8) hn (by decide)
    have q9 := beq_no (k := 9) hn (by decide)
    have q10 := beq_no (k := 10) hn (by decide)
    have q11 := beq_no (k := 11) hn (by decide)
    have q12 := beq_no (k := 12) hn (by decide)
    have q13 := beq_no (k := 13) hn (by decide)
    have q14 := beq_no (k := 14) hn (by decide)
    have q15 := beq_no (k := 15) hn (by decide)
    have q16 := beq_no (k := 16) hn (by decide)
    have q17 := beq_no (k := 17) hn (by decide)
    have q18 := beq_no (k := 18) hn (by decide)
    have q19 := beq_no (k := 19) hn (by decide)
    clear hn
    go_enter Try.func53, Try.ntmps53
    go_wp2_with fail
    go_ret
    exact ⟨rfl, rfl⟩
set_option maxHeartbeats 2000000 in
theorem puts_any (o : Int) (w : World) :
    Calls Try.prog 54 #[.int .i64 o] w fun e w' => e = .returned (.int .i64 (ptA o)) ∧ w' = w := by
  by_cases hn : 0 ≤ o ∧ o ≤ 19
  · rcases op_cases ((isO_iff o).2 hn) with h | h | h | h | h | h | h | h | h | h | h | h | h | h | h | h | h | h | h | h <;> subst h <;> clear hn
    all_goals
      go_enter Try.func54, Try.ntmps54
      go_wp2_with fail
      go_ret
      exact ⟨rfl, rfl⟩
  · rw [ptA_no hn]
    -- an Op that is none: each comparison fails
    have q0 := beq_no (k := 0) hn (by decide)
    have q1 := beq_no (k := 1) hn (by decide)
    have q2 := beq_no (k := 2) hn (by decide)
    have q3 := beq_no (k := 3) hn (by decide)
    have q4 := beq_no (k := 4) hn (by decide)
    have q5 := beq_no (k := 5) hn (by decide)
    have q6 := beq_no (k := 6) hn (by decide)
    have q7 := beq_no (k := 7) hn (by decide)
    have q8 := beq_no (k := 8) hn (by decide)
    have q9 := beq_no (k := 9) hn (by decide)
    have q10 := beq_no (k := 10) hn (by decide)
    have q11 := beq_no (k := 11) hn (by decide)
    have q12 := beq_no (k := 12) hn (by decide)
    have q13 := beq_no (k := 13) hn (by decide)
    have q14 := beq_no (k := 14) hn (by decide)
    have q15 := beq_no (k := 15) hn (by decide)
    have q16 := beq_no (k := 16) hn (by decide)
    have q17 := beq_no (k := 17) hn (by decide)
    have q18 := beq_no (k := 18) hn (by decide)
    have q19 := beq_no (k := 19) hn (by decide)
    clear hn
    go_enter Try.func54, Try.ntmps54
    go_wp2_with fail
    go_ret
    exact ⟨rfl, rfl⟩
/-- goes on behind, goes on at N -/
def behB (o : Int) : Bool := !(o == 16) && !(o == 18) && !(o == 19)
def jmpB (o : Int) : Bool := o == 16 || o == 17
set_option maxRecDepth 100000 in
theorem jumps_any (o : Int) (w : World) :
    Calls Try.prog 57 #[.int .i64 o] w fun e w' => e = .returned (.bool (jmpB o)) ∧ w' = w := by
  by_cases h1 : (o == 16) = true
  · have e : jmpB o = true := by unfold jmpB; rw [h1]; rfl
    rw [e]; clear e
    go_enter Try.func57, Try.ntmps57
    go_wp2_with fail
    go_ret
    exact ⟨rfl, rfl⟩
  · have h1 : (o == 16) = false := by simpa using h1
    have e : jmpB o = (o == 17) := by unfold jmpB; rw [h1]; rfl
    rw [e]; clear e
    go_enter Try.func57, Try.ntmps57
    go_wp2_with fail
    go_ret
    exact ⟨rfl, rfl⟩
set_option maxRecDepth 100000 in
theorem behind15_any (o : Int) (w : World) :
    Calls Try.prog 55 #[.int .i64 o] w fun e w' => e = .returned (.bool (behB o)) ∧ w' = w := by
  by_cases h1 : (o == 16) = true
  · have e : behB o = false := by unfold behB; rw [h1]; rfl
    have h2 : (o != 16) = false := by simpa using h1
    rw [e]; clear e
    go_enter Try.func55, Try.ntmps55
    go_wp2_with fail
    go_ret
    exact ⟨rfl, rfl⟩
  · have h1 : (o == 16) = false := by simpa using h1
    have h2 : (o != 16) = true := by simpa using h1
    by_cases k1 : (o == 18) = true
    · have e : behB o = false := by unfold behB; rw [h1, k1]; rfl
      have k2 : (o != 18) = false := by simpa using k1
      rw [e]; clear e
      go_enter Try.func55, Try.ntmps55
      go_wp2_with fail
      go_ret
      exact ⟨rfl, rfl⟩
    · have k1 : (o == 18) = false := by simpa using k1
      have k2 : (o != 18) = true := by simpa using k1
      have e : behB o = (o != 19) := by unfold behB; rw [h1, k1]; rfl
      rw [e]; clear e
      go_enter Try.func55, Try.ntmps55
      go_wp2_with fail
      go_ret
      exact ⟨rfl, rfl⟩
set_option maxRecDepth 100000 in
theorem beh_th {o : Int} (h : isO o = true) : behB o = decide (thO o = 0 ∨ thO o = 2) := by
  rcases op_cases h with h | h | h | h | h | h | h | h | h | h | h | h | h | h | h | h | h | h | h | h <;> subst h <;> decide
set_option maxRecDepth 100000 in
theorem jmp_th {o : Int} (h : isO o = true) : jmpB o = decide (thO o = 1 ∨ thO o = 2) := by
  rcases op_cases h with h | h | h | h | h | h | h | h | h | h | h | h | h | h | h | h | h | h | h | h <;> subst h <;> decide
end Go.Proofs.Ytckgplemdmgekaa
