/- What Turn, Low and the document's Turn and Low answer. -/
import Derived.Test.YthlkdbfaelgadabBase
import Derived.Test.YthlkdbfaelgadabTurnMath
namespace Go.Proofs.Ythlkdbfaelgadab
open Go.RowKit
set_option linter.unusedVariables false

theorem turn_core (x : Int) (p : Nat) (hp : p < 32) (hx0 : 0 ≤ x) (hx1 : x < 4294967296) :
    bits .or .u32 (x / 2 ^ p) (x * 2 ^ (32 - p) % 4294967296) = rot p x := by
  rw [rot_trn x p (by omega)]
  obtain ⟨a, rfl⟩ := Int.eq_ofNat_of_zero_le hx0
  have hj := turn_join a p (by omega) (by omega)
  have e1 : (a : Int) / 2 ^ p = ((a / 2 ^ p : Nat) : Int) := by simp
  have e2 : (a : Int) * 2 ^ (32 - p) % 4294967296 = ((a * 2 ^ (32 - p) % 4294967296 : Nat) : Int) := by simp
  rw [e1, e2, u32_or_nat _ _ (Nat.lt_of_le_of_lt (Nat.div_le_self _ _) (by omega)) (Nat.mod_lt _ (by decide)), hj]
  unfold trn
  simp

set_option maxHeartbeats 400000 in
theorem turn_any (x n : Int) (w : World) (hx0 : 0 ≤ x) (hx1 : x < 4294967296) (hn0 : -9223372036854775808 ≤ n) (hn1 : n ≤ 9223372036854775807) :
    Calls Try.prog 13 #[.int .u32 x, .int .i64 n] w fun e w' => e = .returned (.int .u32 (turnV x n)) ∧ w = w' := by
  obtain ⟨p, hp⟩ : ∃ p : Nat, n % 32 = (p : Int) := ⟨(n % 32).toNat, by omega⟩
  have hp32 : p < 32 := by omega
  have hpe : (IntKind.u64.wrap n).tmod 32 = (p : Int) := by
    rw [IntKind.wrap_u64, Int.tmod_eq_emod_of_nonneg (by omega)]; omega
  have HT : Hid (turnV x n = rot p x) := by show turnV x n = rot p x; unfold turnV; rw [hp, Int.toNat_natCast]
  have hj := turn_core x p hp32 hx0 hx1
  clear hp
  rw [HT.out]
  go_enter Try.func13, Try.ntmps13
  go_wp2
  go_ret
  exact ⟨rfl, rfl⟩

set_option maxHeartbeats 400000 in
theorem low_some (x : Int) (n : Nat) (w : World) (hx0 : -9223372036854775808 ≤ x) (hx1 : x ≤ 9223372036854775807) (hn0 : 1 ≤ n) (hn1 : n < 64) :
    Calls Try.prog 14 #[.int .i64 x, .int .i64 n] w fun e w' => e = .returned (.int .i64 (lowV x n)) ∧ w = w' := by
  have h1 : ¬ (n : Int) < 1 := by omega
  have h2 : ¬ (64 : Int) ≤ n := by omega
  go_enter Try.func14, Try.ntmps14
  go_wp2
  go_ret
  exact ⟨ret_int (by unfold wrap64; exact low_shift x n hn0 hn1), rfl⟩

theorem low_less (x n : Int) (w : World) (hn : n < 1) :
    Calls Try.prog 14 #[.int .i64 x, .int .i64 n] w fun e w' => e = .returned (.int .i64 0) ∧ w = w' := by
  go_enter Try.func14, Try.ntmps14
  go_wp2
  go_ret
  exact ⟨rfl, rfl⟩
theorem low_more (x n : Int) (w : World) (hn : 64 ≤ n) :
    Calls Try.prog 14 #[.int .i64 x, .int .i64 n] w fun e w' => e = .returned (.int .i64 x) ∧ w = w' := by
  have h1 : ¬ n < 1 := by omega
  go_enter Try.func14, Try.ntmps14
  go_wp2
  go_ret
  exact ⟨rfl, rfl⟩
end Go.Proofs.Ythlkdbfaelgadab
