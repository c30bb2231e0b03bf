/- What two numbers make. -/
import Derived.Test.YtckgplemdmgekaaVPut
namespace Go.Proofs.Ytckgplemdmgekaa
open Go.RowKit
set_option linter.unusedVariables false

set_option maxRecDepth 100000 in
theorem i64_w64 (x : Int) : wrap64 x = w64 x := by unfold wrap64 w64; rfl
set_option maxRecDepth 100000 in
theorem w64_tdiv {a b : Int} (ha : V64 a) (h0 : b ≠ 0) : w64 (a.tdiv b) = if b = -1 then w64 (-a) else a.tdiv b := by
  by_cases h : b = -1
  · rw [if_pos h, h]; congr 1; rw [Int.tdiv_neg, Int.tdiv_one]
  · rw [if_neg h]; exact w64_id (tdiv_in ha h0 h)
set_option maxRecDepth 100000 in
theorem w64_tmod {a b : Int} (ha : V64 a) : w64 (a.tmod b) = if b = -1 then 0 else a.tmod b := by
  by_cases h : b = -1
  · rw [if_pos h, h, Int.tmod_neg, Int.tmod_one]; rfl
  · rw [if_neg h]; exact w64_id (tmod_in ha)
set_option maxRecDepth 100000 in
theorem jnd_quo {a b : Int} (ha : V64 a) (h0 : b ≠ 0) : jnd 11 a b = some (w64 (a.tdiv b)) := by
  rw [w64_tdiv ha h0]
  unfold jnd
  by_cases h : b = -1
  · subst h; rfl
  · simp [h0, h]
set_option maxRecDepth 100000 in
theorem jnd_rem {a b : Int} (ha : V64 a) (h0 : b ≠ 0) : jnd 12 a b = some (w64 (a.tmod b)) := by
  rw [w64_tmod ha]
  unfold jnd
  by_cases h : b = -1
  · subst h; rfl
  · simp [h0, h]
set_option maxHeartbeats 1000000 in
theorem reckon_yes (o a b y : Int) (w : World) (ho : 8 ≤ o ∧ o ≤ 14) (ha : V64 a) (hj : jnd o a b = some y) :
    Calls Try.prog 60 #[.int .i64 o, .int .i64 a, .int .i64 b] w fun e w' => e = .returned (.int .i64 y) ∧ w' = w := by
  have : o = 8 ∨ o = 9 ∨ o = 10 ∨ o = 11 ∨ o = 12 ∨ o = 13 ∨ o = 14 := by omega
  clear ho
  rcases this with e | e | e | e | e | e | e <;> subst e
  · obtain rfl : w64 (a + b) = y := by cases hj; rfl
    clear hj
    go_enter Try.func60, Try.ntmps60
    go_wp2_with fail
    go_ret
    exact ⟨ret_int (i64_w64 _), rfl⟩
  · obtain rfl : w64 (a - b) = y := by cases hj; rfl
    clear hj
    go_enter Try.func60, Try.ntmps60
    go_wp2_with fail
    go_ret
    exact ⟨ret_int (i64_w64 _), rfl⟩
  · obtain rfl : w64 (a * b) = y := by cases hj; rfl
    clear hj
    go_enter Try.func60, Try.ntmps60
    go_wp2_with fail
    go_ret
    exact ⟨ret_int (i64_w64 _), rfl⟩
  · have h0 : b ≠ 0 := by rintro rfl; cases hj
    have hy := jnd_quo ha h0
    rw [hj] at hy
    obtain rfl : y = w64 (a.tdiv b) := by cases hy; rfl
    clear hj hy
    go_enter Try.func60, Try.ntmps60
    go_wp2_with fail
    refine (vdiv_yes b h0 _).mono ?_
    rintro e wz ⟨rfl, hw⟩
    replace hw := hw.symm
    subst hw
    have hb : ¬ b = 0 := h0
    go_wp2_with fail
    go_ret
    exact ⟨ret_int (i64_w64 _), rfl⟩
  · have h0 : b ≠ 0 := by rintro rfl; cases hj
    have hy := jnd_rem ha h0
    rw [hj] at hy
    obtain rfl : y = w64 (a.tmod b) := by cases hy; rfl
    clear hj hy
    go_enter Try.func60, Try.ntmps60
    go_wp2_with fail
    refine (vdiv_yes b h0 _).mono ?_
    rintro e wz ⟨rfl, hw⟩
    replace hw := hw.symm
    subst hw
    have hb : ¬ b = 0 := h0
    go_wp2_with fail
    go_ret
    exact ⟨ret_int ((w64_id (tmod_in ha)).symm), rfl⟩
  · have HY : Bx (tru (decide (a < b)) = y) := ⟨by cases hj; unfold tru; simp⟩
    clear hj
    go_enter Try.func60, Try.ntmps60
    go_wp2_with fail
    refine (vtruth_any _ _).mono ?_
    rintro e wz ⟨rfl, hw⟩
    replace hw := hw.symm
    subst hw
    rw [HY.out]
    go_wp2_with fail
    go_ret
    exact ⟨rfl, rfl⟩
  · have HY : Bx (tru (a == b) = y) := ⟨by cases hj; unfold tru; simp⟩
    clear hj
    go_enter Try.func60, Try.ntmps60
    go_wp2_with fail
    refine (vtruth_any _ _).mono ?_
    rintro e wz ⟨rfl, hw⟩
    replace hw := hw.symm
    subst hw
    rw [HY.out]
    go_wp2_with fail
    go_ret
    exact ⟨rfl, rfl⟩
set_option maxHeartbeats 1000000 in
theorem reckon_no (o a b : Int) (w : World) (ho : 8 ≤ o ∧ o ≤ 14) (hj : jnd o a b = none) :
    Calls Try.prog 60 #[.int .i64 o, .int .i64 a, .int .i64 b] w fun e w' => e = .panicked rfV ∧ w' = w := by
  have : o = 8 ∨ o = 9 ∨ o = 10 ∨ o = 11 ∨ o = 12 ∨ o = 13 ∨ o = 14 := by omega
  have hb : b = 0 := by
    by_cases h : b = 0
    · exact h
    · exfalso
      unfold jnd at hj
      split at hj <;> first | cases hj | skip
      split at hj <;> first | cases hj | skip
      split at hj <;> first | cases hj | skip
      split at hj <;> first | cases hj | skip
      split at hj <;> first | cases hj | skip
      split at hj
      · split at hj <;> cases hj
      · split at hj <;> cases hj
  subst hb
  clear ho
  rcases this with e | e | e | e | e | e | e <;> subst e
  · cases hj
  · cases hj
  · cases hj
  · clear hj
    go_enter Try.func60, Try.ntmps60
    go_wp2_with fail
    refine (vdiv_no _).mono ?_
    rintro e wz ⟨rfl, hw⟩
    replace hw := hw.symm
    subst hw
    exact ⟨rfl, rfl, rfl⟩
  · clear hj
    go_enter Try.func60, Try.ntmps60
    go_wp2_with fail
    refine (vdiv_no _).mono ?_
    rintro e wz ⟨rfl, hw⟩
    replace hw := hw.symm
    subst hw
    exact ⟨rfl, rfl, rfl⟩
  · cases hj
  · cases hj
end Go.Proofs.Ytckgplemdmgekaa
