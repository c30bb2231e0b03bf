/- What two numbers make, by the document. -/
import Derived.Test.YtbjeeefkbmdmfaaRVRun
import Derived.Test.YtbjeeefkbmdmfaaLnf
namespace Go.Proofs.Ytbjeeefkbmdmfaa
open Go.RowKit
set_option linter.unusedVariables false

set_option maxRecDepth 100000 in
theorem rtruth_any (b : Bool) (w : World) :
    Calls Try.prog 86 #[.bool b] w fun e w' => e = .returned (.int .i64 (tru b)) ∧ w' = w := by
  cases b with
  | true =>
    go_enter Try.func86, Try.ntmps86
    go_wp2_with fail
    go_ret
    exact ⟨rfl, rfl⟩
  | false =>
    go_enter Try.func86, Try.ntmps86
    go_wp2_with fail
    go_ret
    exact ⟨rfl, rfl⟩
def jnV (o a b : Int) : Int := match jnd o a b with | some y => y | none => 0
def jnB (o a b : Int) : Bool := match jnd o a b with | some _ => true | none => false
set_option maxRecDepth 100000 in
theorem jn_some {o a b y : Int} (h : jnd o a b = some y) : jnV o a b = y ∧ jnB o a b = true := by unfold jnV jnB; rw [h]; exact ⟨rfl, rfl⟩
set_option maxRecDepth 100000 in
theorem jn_none {o a b : Int} (h : jnd o a b = none) : jnV o a b = 0 ∧ jnB o a b = false := by unfold jnV jnB; rw [h]; exact ⟨rfl, rfl⟩
set_option maxRecDepth 100000 in
theorem u64m (x : Int) : IntKind.u64.wrap x = x % 18446744073709551616 := IntKind.wrap_u64 x
set_option maxRecDepth 100000 in
theorem u_add (a b : Int) : wrap64 (IntKind.u64.wrap (IntKind.u64.wrap a + IntKind.u64.wrap b)) = w64 (a + b) := by
  rw [u64m, u64m, u64m]; unfold wrap64 w64; omega
set_option maxRecDepth 100000 in
theorem u_sub (a b : Int) : wrap64 (IntKind.u64.wrap (IntKind.u64.wrap a - IntKind.u64.wrap b)) = w64 (a - b) := by
  rw [u64m, u64m, u64m]; unfold wrap64 w64; omega
set_option maxRecDepth 100000 in
theorem u_mul (a b : Int) : wrap64 (IntKind.u64.wrap (IntKind.u64.wrap a * IntKind.u64.wrap b)) = w64 (a * b) := by
  rw [u64m, u64m, u64m, ← Int.mul_emod]
  generalize a * b = p
  unfold wrap64 w64; omega
set_option maxRecDepth 100000 in
theorem u_neg (a : Int) : wrap64 (IntKind.u64.wrap (-IntKind.u64.wrap a)) = w64 (-a) := by
  rw [u64m, u64m]; unfold wrap64 w64; omega
set_option maxRecDepth 100000 in
theorem w_rem (a q b : Int) : wrap64 (a - wrap64 (q * b)) = w64 (a - q * b) := by
  generalize q * b = p
  unfold wrap64 w64; omega
set_option maxRecDepth 100000 in
theorem ret_jn {x y : Int} {t : Bool} (h : x = y) : Ending.returned (.tuple #[.int .i64 x, .bool t]) = .returned (.tuple #[.int .i64 y, .bool t]) := by rw [h]
set_option maxHeartbeats 4000000 in
set_option maxRecDepth 100000 in
theorem joined_any (o a b : Int) (w : World) (ho : 8 ≤ o ∧ o ≤ 14) (ha : V64 a) :
    Calls Try.prog 87 #[.int .i64 o, .int .i64 a, .int .i64 b] w fun e w' => e = .returned (.tuple #[.int .i64 (jnV o a b), .bool (jnB o a b)]) ∧ w' = w := by
  have : o = 8 ∨ o = 9 ∨ o = 10 ∨ o = 11 ∨ o = 12 ∨ o = 13 ∨ o = 14 := by omega
  have HA := Bx.mk ha
  clear ho ha
  rcases this with e | e | e | e | e | e | e <;> subst e
  · obtain ⟨y, HY⟩ : ∃ y, Bx (w64 (a + b) = y) := ⟨_, ⟨rfl⟩⟩
    have hj := jn_some (o := 8) (a := a) (b := b) (y := y) (by rw [← HY.out]; unfold jnd; rw [if_pos rfl])
    rw [hj.1, hj.2]
    have hy := u_add a b
    rw [HY.out] at hy
    clear hj
    go_enter Try.func87, Try.ntmps87
    go_wp2_with fail
    go_ret2
    exact ⟨ret_jn hy, rfl⟩
  · obtain ⟨y, HY⟩ : ∃ y, Bx (w64 (a - b) = y) := ⟨_, ⟨rfl⟩⟩
    have hj := jn_some (o := 9) (a := a) (b := b) (y := y) (by rw [← HY.out]; unfold jnd; rw [if_neg (by decide), if_pos rfl])
    rw [hj.1, hj.2]
    have hy := u_sub a b
    rw [HY.out] at hy
    clear hj
    go_enter Try.func87, Try.ntmps87
    go_wp2_with fail
    go_ret2
    exact ⟨ret_jn hy, rfl⟩
  · obtain ⟨y, HY⟩ : ∃ y, Bx (w64 (a * b) = y) := ⟨_, ⟨rfl⟩⟩
    have hj := jn_some (o := 10) (a := a) (b := b) (y := y) (by rw [← HY.out]; unfold jnd; rw [if_neg (by decide), if_neg (by decide), if_pos rfl])
    rw [hj.1, hj.2]
    have hy := u_mul a b
    rw [HY.out] at hy
    clear hj
    go_enter Try.func87, Try.ntmps87
    go_wp2_with fail
    go_ret2
    exact ⟨ret_jn hy, rfl⟩
  · by_cases h0 : b = 0
    · subst h0
      have hj := jn_none (o := 11) (a := a) (b := 0) (by unfold jnd; simp)
      rw [hj.1, hj.2]
      clear hj
      go_enter Try.func87, Try.ntmps87
      go_wp2_with fail
      go_ret2
      exact ⟨rfl, rfl⟩
    by_cases h1 : b = -1
    · subst h1
      obtain ⟨y, HY⟩ : ∃ y, Bx (w64 (-a) = y) := ⟨_, ⟨rfl⟩⟩
      have hj := jn_some (o := 11) (a := a) (b := -1) (y := y) (by rw [← HY.out]; unfold jnd; simp)
      rw [hj.1, hj.2]
      have hy := u_neg a
      rw [HY.out] at hy
      clear hj h0
      go_enter Try.func87, Try.ntmps87
      go_wp2_with fail
      go_ret2
      exact ⟨ret_jn hy, rfl⟩
    · have q0 : (b == 0) = false := by simpa using h0
      have q1 : (b == -1) = false := by simpa using h1
      have hb0 : ¬ b = 0 := h0
      obtain ⟨y, HY⟩ : ∃ y, Bx (w64 (a.tdiv b) = y) := ⟨_, ⟨rfl⟩⟩
      have hj := jn_some (o := 11) (a := a) (b := b) (y := y) (by rw [← HY.out]; exact jnd_quo HA.out h0)
      rw [hj.1, hj.2]
      have hy := i64_w64 (a.tdiv b)
      rw [HY.out] at hy
      clear hj h0 h1
      go_enter Try.func87, Try.ntmps87
      go_wp2_with fail
      go_ret2
      exact ⟨ret_jn hy, rfl⟩
  · by_cases h0 : b = 0
    · subst h0
      have hj := jn_none (o := 12) (a := a) (b := 0) (by unfold jnd; simp)
      rw [hj.1, hj.2]
      clear hj
      go_enter Try.func87, Try.ntmps87
      go_wp2_with fail
      go_ret2
      exact ⟨rfl, rfl⟩
    by_cases h1 : b = -1
    · subst h1
      have hj := jn_some (o := 12) (a := a) (b := -1) (y := 0) (by unfold jnd; simp)
      rw [hj.1, hj.2]
      clear hj h0
      go_enter Try.func87, Try.ntmps87
      go_wp2_with fail
      go_ret2
      exact ⟨rfl, rfl⟩
    · have q0 : (b == 0) = false := by simpa using h0
      have q1 : (b == -1) = false := by simpa using h1
      have hb0 : ¬ b = 0 := h0
      obtain ⟨y, HY⟩ : ∃ y, Bx (w64 (a.tmod b) = y) := ⟨_, ⟨rfl⟩⟩
      have hj := jn_some (o := 12) (a := a) (b := b) (y := y) (by rw [← HY.out]; exact jnd_rem HA.out h0)
      rw [hj.1, hj.2]
      obtain ⟨q, HQ⟩ : ∃ q, Bx (wrap64 (a.tdiv b) = q) := ⟨_, ⟨rfl⟩⟩
      have hq := HQ.out
      have hy : wrap64 (a - wrap64 (q * b)) = y := by
        rw [w_rem, ← HY.out, ← HQ.out, i64_w64, w64_id (tdiv_in HA.out h0 h1)]
        congr 1
        have := Int.tdiv_mul_add_tmod a b
        omega
      clear hj h0 h1
      go_enter Try.func87, Try.ntmps87
      go_wp2_with fail
      go_ret2
      exact ⟨ret_jn hy, rfl⟩
  · obtain ⟨y, HY⟩ : ∃ y, Bx (tru (decide (a < b)) = y) := ⟨_, ⟨rfl⟩⟩
    have hj := jn_some (o := 13) (a := a) (b := b) (y := y) (by rw [← HY.out]; unfold jnd tru; simp)
    rw [hj.1, hj.2]
    clear hj
    go_enter Try.func87, Try.ntmps87
    go_wp2_with fail
    refine (rtruth_any _ _).mono ?_
    rintro e wz ⟨rfl, hw⟩
    replace hw := hw.symm
    subst hw
    rw [HY.out]
    go_wp2_with fail
    go_ret2
    exact ⟨rfl, rfl⟩
  · obtain ⟨y, HY⟩ : ∃ y, Bx (tru (a == b) = y) := ⟨_, ⟨rfl⟩⟩
    have hj := jn_some (o := 14) (a := a) (b := b) (y := y) (by rw [← HY.out]; unfold jnd tru; simp)
    rw [hj.1, hj.2]
    clear hj
    go_enter Try.func87, Try.ntmps87
    go_wp2_with fail
    refine (rtruth_any _ _).mono ?_
    rintro e wz ⟨rfl, hw⟩
    replace hw := hw.symm
    subst hw
    rw [HY.out]
    go_wp2_with fail
    go_ret2
    exact ⟨rfl, rfl⟩
end Go.Proofs.Ytbjeeefkbmdmfaa
