/- What Turn, Low and the document's Turn and Low answer. -/
import Derived.Test.YthlkdbfaelgadaaBase
import Derived.Test.YthlkdbfaelgadaaTurnMath
namespace Go.Proofs.Ythlkdbfaelgadaa
open Go.RowKit
set_option linter.unusedVariables false

theorem turn_core (x : Int) (p : Nat) (hp : p < 32) (hx0 : 0 ≤ x) (hx1 : x < 4294967296) :
    bits .or .u32 (x / 2 ^ p) (x * 2 ^ (32 - p) % 4294967296) = rot p x := by
  rw [rot_trn x p (by omega)]
  obtain ⟨a, rfl⟩ := Int.eq_ofNat_of_zero_le hx0
  have hj := turn_join a p (by omega) (by omega)
  have e1 : (a : Int) / 2 ^ p = ((a / 2 ^ p : Nat) : Int) := by simp
  have e2 : (a : Int) * 2 ^ (32 - p) % 4294967296 = ((a * 2 ^ (32 - p) % 4294967296 : Nat) : Int) := by simp
  rw [e1, e2, u32_or_nat _ _ (Nat.lt_of_le_of_lt (Nat.div_le_self _ _) (by omega)) (Nat.mod_lt _ (by decide)), hj]
  unfold trn
  simp

set_option maxHeartbeats 400000 in
theorem turn_any (x n : Int) (w : World) (hx0 : 0 ≤ x) (hx1 : x < 4294967296) (hn0 : -9223372036854775808 ≤ n) (hn1 : n ≤ 9223372036854775807) :
    Calls Try.prog 24 #[.int .u32 x, .int .i64 n] w fun e w' => e = .returned (.int .u32 (turnV x n)) ∧ w = w' := by
  obtain ⟨p, hp⟩ : ∃ p : Nat, n % 32 = (p : Int) := ⟨(n % 32).toNat, by omega⟩
  have hp32 : p < 32 := by omega
  have hpe : (IntKind.u64.wrap n).tmod 32 = (p : Int) := by
    rw [IntKind.wrap_u64, Int.tmod_eq_emod_of_nonneg (by omega)]; omega
  have HT : Hid (turnV x n = rot p x) := by show turnV x n = rot p x; unfold turnV; rw [hp, Int.toNat_natCast]
  have hj := turn_core x p hp32 hx0 hx1
  clear hp
  rw [HT.out]
  go_enter Try.func24, Try.ntmps24
  go_wp2
  go_ret
  exact ⟨rfl, rfl⟩

set_option maxHeartbeats 400000 in
theorem refturn_any (x n : Int) (w : World) (hx0 : 0 ≤ x) (hx1 : x < 4294967296) (hn0 : -9223372036854775808 ≤ n) (hn1 : n ≤ 9223372036854775807) :
    Calls Try.prog 25 #[.int .u32 x, .int .i64 n] w fun e w' => e = .returned (.int .u32 (turnV x n)) ∧ w = w' := by
  have ht : -31 ≤ n.tmod 32 ∧ n.tmod 32 ≤ 31 := by
    rw [Int.tmod_eq_emod]; split <;> omega
  obtain ⟨p, hp⟩ : ∃ p : Nat, n % 32 = (p : Int) := ⟨(n % 32).toNat, by omega⟩
  have hp32 : p < 32 := by omega
  have hpe : (n.tmod 32 + 32) % 32 = (p : Int) := by
    rw [Int.tmod_eq_emod]; split <;> omega
  have HT : Hid (turnV x n = rot p x) := by show turnV x n = rot p x; unfold turnV; rw [hp, Int.toNat_natCast]
  clear hp
  rw [HT.out]
  go_enter Try.func25, Try.ntmps25
  go_wp2
  go_loop [0, 5] (fun y i => ∃ k : Nat, k ≤ p ∧ i = .int .i64 k ∧ y = .int .u32 (rot k x)) (fun _ i => p - (intOf i).toNat)
  case atStart => exact ⟨0, Nat.zero_le _, rfl, rfl⟩
  case round =>
    obtain ⟨k, hk, rfl, rfl⟩ := hrel
    have hb := rot_bd k x hx0 hx1
    have HS : Hid (rot (k + 1) x = rot k x / 2 + rot k x % 2 * 2147483648) := rfl
    by_cases hlt : k < p
    · generalize rot k x = y at hb HS ⊢
      by_cases hy : y % 2 = 1
      · have hyb : (y % 2 == 1) = true := by simpa using hy
        have HY : Hid (y % 2 = 1) := hy
        clear hy
        go_wp2
        go_round
        case rel => exact ⟨k + 1, by omega, by go_num, by rw [HS.out, HY.out]; go_num⟩
        case measure => simp [intOf]; omega
      · have hyb : (y % 2 == 1) = false := by simpa using hy
        have HY : Hid (y % 2 = 0) := by show y % 2 = 0; omega
        clear hy
        go_wp2
        go_round
        case rel => exact ⟨k + 1, by omega, by go_num, by rw [HS.out, HY.out]; go_num⟩
        case measure => simp [intOf]; omega
    · obtain rfl : k = p := by omega
      go_wp2
      go_ret
      exact ⟨rfl, rfl⟩

set_option maxHeartbeats 400000 in
theorem low_some (x : Int) (n : Nat) (w : World) (hx0 : -9223372036854775808 ≤ x) (hx1 : x ≤ 9223372036854775807) (hn0 : 1 ≤ n) (hn1 : n < 64) :
    Calls Try.prog 26 #[.int .i64 x, .int .i64 n] w fun e w' => e = .returned (.int .i64 (lowV x n)) ∧ w = w' := by
  have h1 : ¬ (n : Int) < 1 := by omega
  have h2 : ¬ (64 : Int) ≤ n := by omega
  go_enter Try.func26, Try.ntmps26
  go_wp2
  go_ret
  exact ⟨ret_int (by unfold wrap64; exact low_shift x n hn0 hn1), rfl⟩

theorem low_less (x n : Int) (w : World) (hn : n < 1) :
    Calls Try.prog 26 #[.int .i64 x, .int .i64 n] w fun e w' => e = .returned (.int .i64 0) ∧ w = w' := by
  go_enter Try.func26, Try.ntmps26
  go_wp2
  go_ret
  exact ⟨rfl, rfl⟩
theorem low_more (x n : Int) (w : World) (hn : 64 ≤ n) :
    Calls Try.prog 26 #[.int .i64 x, .int .i64 n] w fun e w' => e = .returned (.int .i64 x) ∧ w = w' := by
  have h1 : ¬ n < 1 := by omega
  go_enter Try.func26, Try.ntmps26
  go_wp2
  go_ret
  exact ⟨rfl, rfl⟩
/-- the number behind k rounds of the document's Low -/
def lowAt (x : Int) (n k : Nat) : Int := if k = n then lowV x n else x % 2 ^ k
theorem lowAt_last (x : Int) (n : Nat) (h1 : 1 ≤ n) : lowAt x n (n - 1 + 1) = x % 2 ^ (n - 1) - x / 2 ^ (n - 1) % 2 * 2 ^ (n - 1) := by
  unfold lowAt; rw [if_pos (by omega)]; exact low_at x n h1
theorem lowAt_mid (x : Int) (n k : Nat) (h : k + 1 < n) : lowAt x n (k + 1) = x % 2 ^ k + 2 ^ k * (x / 2 ^ k % 2) := by
  unfold lowAt; rw [if_neg (by omega)]; exact mod_pow_succ x k

set_option maxHeartbeats 1000000 in
theorem reflow_some (x : Int) (n : Nat) (w : World) (hx0 : -9223372036854775808 ≤ x) (hx1 : x ≤ 9223372036854775807) (hn0 : 1 ≤ n) (hn1 : n < 64) :
    Calls Try.prog 27 #[.int .i64 x, .int .i64 n] w fun e w' => e = .returned (.int .i64 (lowV x n)) ∧ w = w' := by
  have h1 : ¬ (n : Int) < 1 := by omega
  have h2 : ¬ (64 : Int) ≤ n := by omega
  have HU : Hid (IntKind.u64.wrap x = x % 18446744073709551616) := IntKind.wrap_u64 x
  go_enter Try.func27, Try.ntmps27
  go_wp2
  go_loop [5, 6, 7, 8] (fun y p u i => ∃ k : Nat, k ≤ n ∧ i = .int .i64 k ∧ y = .int .i64 (lowAt x n k) ∧ p = .int .i64 (2 ^ (min k (n - 1))) ∧ u = .int .u64 (x % 18446744073709551616 / 2 ^ k)) (fun _ _ _ i => n - (intOf i).toNat)
  case atStart => exact ⟨0, Nat.zero_le _, rfl, by unfold lowAt; rw [if_neg (by omega)]; simp [Int.emod_one], by simp, by rw [HU.out]; simp⟩
  case round =>
    obtain ⟨k, hk, rfl, rfl, rfl, rfl⟩ := hrel
    by_cases hlt : k < n
    · have HB : Hid (x % 18446744073709551616 / 2 ^ k % 2 = x / 2 ^ k % 2) := low_bit x k (by omega)
      have HV : Hid (x % 18446744073709551616 / 2 ^ (k + 1) = x % 18446744073709551616 / 2 ^ k / 2) := div_pow_succ _ _
      have hu : 0 ≤ x % 18446744073709551616 / 2 ^ k ∧ x % 18446744073709551616 / 2 ^ k ≤ 18446744073709551615 := by
        have a1 : 0 ≤ x % 18446744073709551616 := by omega
        refine ⟨Int.ediv_nonneg a1 (Int.le_of_lt (pow_pos2 k)), Int.le_trans (Int.ediv_le_self _ a1) (by omega)⟩
      have hw := pow_le62 k (by omega)
      have hw0 := pow_pos2 k
      have hy0 := Int.emod_nonneg x (Int.ne_of_gt hw0)
      have hy1 := Int.emod_lt_of_pos x hw0
      have HK : lowAt x n k = x % 2 ^ k := by unfold lowAt; rw [if_neg (by omega)]
      have HM : min k (n - 1) = k := by omega
      rw [HK, HM]
      clear HK HM
      by_cases hkn : k = n - 1
      · have HL : Hid (lowAt x n (k + 1) = x % 2 ^ k - x / 2 ^ k % 2 * 2 ^ k) := by rw [hkn]; exact lowAt_last x n hn0
        have HM' : Hid (min (k + 1) (n - 1) = k) := by show min (k + 1) (n - 1) = k; omega
        have hk1 : (k : Int) + 1 = n := by omega
        have hkn' : ((k : Int) == (n : Int) - 1) = true := by simp; omega
        clear hkn
        have HK1 : Hid ((k : Int) + 1 = n) := hk1
        have hk2 : ¬ (k : Int) + 1 < n := by omega
        clear hk1
        generalize x % 18446744073709551616 / 2 ^ k = U at *
        generalize x % 2 ^ k = Y at *
        generalize x / 2 ^ k % 2 = B at *
        generalize hP : (2 : Int) ^ k = P at *
        have HP : Hid ((2 : Int) ^ k = P) := hP
        clear hP
        by_cases hb : U % 2 = 1
        · have hbb : (U % 2 == 1) = true := by simpa using hb
          have HB1 : Hid (B = 1) := by have := HB.out; show B = 1; omega
          clear hb
          go_wp2
          go_round
          case rel => exact ⟨k + 1, by omega, by go_num, by rw [HL.out, HB1.out]; go_num, by rw [HM'.out, HP.out], by rw [HV.out]⟩
          case measure => simp [intOf]; omega
        · have hbb : (U % 2 == 1) = false := by simpa using hb
          have HB1 : Hid (B = 0) := by have := HB.out; show B = 0; omega
          clear hb
          go_wp2
          go_round
          case rel => exact ⟨k + 1, by omega, by go_num, by rw [HL.out, HB1.out]; go_num, by rw [HM'.out, HP.out], by rw [HV.out]⟩
          case measure => simp [intOf]; omega
      · have HL : Hid (lowAt x n (k + 1) = x % 2 ^ k + 2 ^ k * (x / 2 ^ k % 2)) := lowAt_mid x n k (by omega)
        have HM' : Hid ((2 : Int) ^ min (k + 1) (n - 1) = 2 * 2 ^ k) := by
          show (2 : Int) ^ min (k + 1) (n - 1) = 2 * 2 ^ k
          rw [show min (k + 1) (n - 1) = k + 1 from by omega, Int.pow_succ, Int.mul_comm]
        have hk2 : (k : Int) + 1 < n := by omega
        have hkn' : ((k : Int) == (n : Int) - 1) = false := by simp; omega
        have hw2 := pow_le61 k (by omega)
        generalize x % 18446744073709551616 / 2 ^ k = U at *
        generalize x % 2 ^ k = Y at *
        generalize x / 2 ^ k % 2 = B at *
        generalize hP : (2 : Int) ^ k = P at *
        have HP : Hid ((2 : Int) ^ k = P) := hP
        clear hP
        by_cases hb : U % 2 = 1
        · have hbb : (U % 2 == 1) = true := by simpa using hb
          have HB1 : Hid (B = 1) := by have := HB.out; show B = 1; omega
          clear hb
          go_wp2
          go_round
          case rel => exact ⟨k + 1, by omega, by go_num, by rw [HL.out, HB1.out]; go_num, by rw [HM'.out], by rw [HV.out]⟩
          case measure => simp [intOf]; omega
        · have hbb : (U % 2 == 1) = false := by simpa using hb
          have HB1 : Hid (B = 0) := by have := HB.out; show B = 0; omega
          clear hb
          go_wp2
          go_round
          case rel => exact ⟨k + 1, by omega, by go_num, by rw [HL.out, HB1.out]; go_num, by rw [HM'.out], by rw [HV.out]⟩
          case measure => simp [intOf]; omega
    · have hkn : lowAt x n k = lowV x n := by unfold lowAt; rw [if_pos (by omega)]
      rw [hkn]
      clear hkn
      go_wp2
      go_ret
      exact ⟨rfl, rfl⟩

theorem reflow_less (x n : Int) (w : World) (hn : n < 1) :
    Calls Try.prog 27 #[.int .i64 x, .int .i64 n] w fun e w' => e = .returned (.int .i64 0) ∧ w = w' := by
  go_enter Try.func27, Try.ntmps27
  go_wp2
  go_ret
  exact ⟨rfl, rfl⟩
theorem reflow_more (x n : Int) (w : World) (hn : 64 ≤ n) :
    Calls Try.prog 27 #[.int .i64 x, .int .i64 n] w fun e w' => e = .returned (.int .i64 x) ∧ w = w' := by
  have h1 : ¬ n < 1 := by omega
  go_enter Try.func27, Try.ntmps27
  go_wp2
  go_ret
  exact ⟨rfl, rfl⟩
end Go.Proofs.Ythlkdbfaelgadaa
