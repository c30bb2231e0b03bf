/- What Put answers: bytes of memory of its own. -/
import Derived.Test.YtigaciflbgbolaaBase
namespace Go.Proofs.Ytigaciflbgbolaa
open Go.RowKit
set_option linter.unusedVariables false

/-- x without its k lowest bytes -/
def sh (x : Int) (k : Nat) : Int := x / 256 ^ k
/-- the n lowest bytes of x, the highest first -/
def putL (x : Int) : Nat → List Int
  | 0 => []
  | n + 1 => sh x n % 256 :: putL x n

set_option maxRecDepth 100000 in
theorem sh_zero (x : Int) : sh x 0 = x := by simp [sh]
set_option maxRecDepth 100000 in
theorem sh_succ (x : Int) (k : Nat) : sh x (k + 1) = sh x k / 256 := by
  unfold sh
  rw [Int.pow_succ, Int.ediv_ediv_of_nonneg (Int.le_of_lt (Int.pow_pos (by decide)))]
set_option maxRecDepth 100000 in
theorem sh_bd (x : Int) (k : Nat) (h0 : 0 ≤ x) (h1 : x ≤ 18446744073709551615) : 0 ≤ sh x k ∧ sh x k ≤ 18446744073709551615 := by
  induction k with
  | zero => rw [sh_zero]; exact ⟨h0, h1⟩
  | succ k ih => rw [sh_succ]; omega
set_option maxRecDepth 100000 in
theorem putL_length (x : Int) (n : Nat) : (putL x n).length = n := by
  induction n with
  | zero => rfl
  | succ n ih => simp [putL, ih]

/-- the row behind k rounds of Put -/
def putAt (x : Int) (n k : Nat) : List Value := List.replicate (n - k) (Value.int .u8 0) ++ bv (putL x k)
set_option maxRecDepth 100000 in
theorem putAt_zero (x : Int) (n : Nat) : putAt x n 0 = List.replicate n (Value.int .u8 0) := by simp [putAt, putL, bv]
set_option maxRecDepth 100000 in
theorem putAt_n (x : Int) (n : Nat) : putAt x n n = bv (putL x n) := by simp [putAt]
set_option maxRecDepth 100000 in
theorem putAt_succ (x : Int) (n k : Nat) (h : k < n) : (putAt x n k).set (n - 1 - k) (.int .u8 (sh x k % 256)) = putAt x n (k + 1) := by
  unfold putAt
  obtain ⟨m, rfl⟩ : ∃ m, n = k + 1 + m := ⟨n - k - 1, by omega⟩
  have e1 : k + 1 + m - k = m + 1 := by omega
  have e2 : k + 1 + m - 1 - k = m := by omega
  have e3 : k + 1 + m - (k + 1) = m := by omega
  rw [e1, e2, e3, List.replicate_succ', List.append_assoc, List.set_append_right _ _ (by simp)]
  simp [putL, bv]

set_option maxRecDepth 100000 in
theorem put_none (x n : Int) (w : World) (hn : n < 1 ∨ 8 < n) :
    Calls Try.prog 73 #[.int .u64 x, .int .i64 n] w fun e w' => e = .returned (.slice none 0 0) ∧ w = w' := by
  rcases hn with h | h
  · go_enter Try.func73, Try.ntmps73
    go_wp2
    go_ret
    exact ⟨rfl, rfl⟩
  · have h' : ¬ n < 1 := by omega
    go_enter Try.func73, Try.ntmps73
    go_wp2
    go_ret
    exact ⟨rfl, rfl⟩

set_option maxHeartbeats 400000 in
theorem put_some (x : Int) (n : Nat) (w : World) (h1 : 1 ≤ n) (h8 : n ≤ 8) (hx0 : 0 ≤ x) (hx1 : x ≤ 18446744073709551615) :
    Calls Try.prog 73 #[.int .u64 x, .int .i64 n] w fun e w' => ∃ v, e = .returned v ∧ w'.ownsRow w.heap.size 5 1 v n (bv (putL x n)) ∧ Below w.heap.size w w' := by
  have hn1 : ¬ (n : Int) < 1 := by omega
  have hn8 : ¬ (8 : Int) < n := by omega
  obtain ⟨i0, hi, hz0, hz1, hz2⟩ := info_parts Try.info5
  go_enter Try.func73, Try.ntmps73
  go_wp2_with (at_make; refine wpList_make_full _ rfl _ _ 38 rfl w.heap.size 5 i0 (.int .u8 0) 1 Try.underlying38 hi hz0 hz1 _ _ _ _ n rfl rfl rfl rfl (by rw [hz2]; omega) (by unfold maxLen; omega) (Nat.le_refl _) ?_)
  intro w1 hown hgrow
  rw [toList_madeCells_one, ← putAt_zero x n] at hown
  have hb1 : Below w.heap.size w w1 := (Below.refl _ _).grown hgrow (Nat.le_refl _) (by intro k hk; cases hk)
  clear hgrow hi hz0 hz1 hz2
  go_wp2
  go_loopw [0, 16] (fun xs i wr => ∃ k : Nat, k ≤ n ∧ i = .int .i64 k ∧ xs = .int .u64 (sh x k) ∧ wr.ownsRow w.heap.size 5 1 (.slice (some ⟨w.heap.size, 0, none⟩) n n) n (putAt x n k) ∧ Below w.heap.size w wr) (fun _ i _ => n - (intOf i).toNat)
  case atStart => exact ⟨0, Nat.zero_le _, rfl, by rw [sh_zero], hown, hb1⟩
  case round =>
    obtain ⟨k, hk, rfl, rfl, hown, hb⟩ := hrel
    by_cases hlt : k < n
    · have hs := sh_bd x k hx0 hx1
      obtain ⟨c0, hc⟩ := owns_cell hown (n - 1 - k) (by omega)
      have hf := hown.frozenAt (n - 1 - k)
      have hst := hown.stored (n - 1 - k) (.int .u8 (sh x k % 256))
      rw [putAt_succ x n k hlt] at hst
      have hb2 := hb.grown hst.2 hb.size (by intro j hj; cases hj; exact Nat.le_refl _)
      go_wp2
      go_roundw
      case rel => exact ⟨k + 1, by omega, by go_num, by rw [sh_succ], hst.1, hb2⟩
      case measure => simp [intOf]; omega
    · obtain rfl : k = n := by omega
      rw [putAt_n] at hown
      go_wp2
      go_ret
      exact ⟨_, rfl, hown, hb⟩
end Go.Proofs.Ytigaciflbgbolaa
