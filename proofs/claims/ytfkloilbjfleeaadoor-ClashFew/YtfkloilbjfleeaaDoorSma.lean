/- The plain mathematics of turned bits and of lowest bits: no Go text. What Put answers: bytes of memory of its own. What Get and the document's Get answer. What Turn, Low and the document's Turn and Low answer. What the document's Put answers. What is reckoned by SHA-256, on lists of numbers: no walk. What the document's Cut and Copy answer. What the document's Same answers: whether two lists of bytes are the same. What the document's Pad answers. What the document's three, key and First answer. The rounds of SHA-256 on numbers: no walk. Small facts on rows of bytes and of numbers in memory, for the walks of Block and Sum. What the document's Least answers. -/
import Derived.Test.YtfkloilbjfleeaaDoorBase
namespace Go.Proofs.YtfkloilbjfleeaaDoor

/-- one place towards the low end -/
def stp (y : Int) : Int := y / 2 + y % 2 * 2147483648
/-- k places -/
def rot : Nat → Int → Int
  | 0, x => x
  | k + 1, x => stp (rot k x)
/-- k places at once, k up to 32 -/
def trn (x : Int) (k : Nat) : Int := x / 2 ^ k + x % 2 ^ k * 2 ^ (32 - k)

theorem pow_pos2 (k : Nat) : (0 : Int) < 2 ^ k := Int.pow_pos (by decide)
theorem stp_bd (y : Int) (h0 : 0 ≤ y) (h1 : y < 4294967296) : 0 ≤ stp y ∧ stp y < 4294967296 := by unfold stp; omega
theorem rot_bd (k : Nat) (x : Int) (h0 : 0 ≤ x) (h1 : x < 4294967296) : 0 ≤ rot k x ∧ rot k x < 4294967296 := by
  induction k with
  | zero => exact ⟨h0, h1⟩
  | succ k ih => exact stp_bd _ ih.1 ih.2
theorem mod_pow_succ (x : Int) (k : Nat) : x % 2 ^ (k + 1) = x % 2 ^ k + 2 ^ k * (x / 2 ^ k % 2) := by
  rw [Int.pow_succ]
  have hp := pow_pos2 k
  generalize (2 : Int) ^ k = p at hp
  have e1 := Int.emod_add_mul_ediv x p
  have e2 := Int.emod_add_mul_ediv (x / p) 2
  have r1 := Int.emod_nonneg x (Int.ne_of_gt hp)
  have r2 := Int.emod_lt_of_pos x hp
  have hx : x = (x % p + p * (x / p % 2)) + (p * 2) * (x / p / 2) := by
    conv => lhs; rw [← e1, ← e2]
    rw [Int.mul_add, Int.mul_assoc, Int.add_assoc]
  have hq : x / p % 2 = 0 ∨ x / p % 2 = 1 := by omega
  have hlo : 0 ≤ x % p + p * (x / p % 2) := by rcases hq with h | h <;> rw [h] <;> omega
  have hhi : x % p + p * (x / p % 2) < p * 2 := by rcases hq with h | h <;> rw [h] <;> omega
  conv => lhs; rw [hx]
  rw [Int.add_mul_emod_self_left, Int.emod_eq_of_lt hlo hhi]
theorem div_pow_succ (x : Int) (k : Nat) : x / 2 ^ (k + 1) = x / 2 ^ k / 2 := by
  rw [Int.pow_succ, Int.ediv_ediv_of_nonneg (Int.le_of_lt (pow_pos2 k))]
theorem trn_zero (x : Int) : trn x 0 = x := by simp [trn, Int.emod_one]
theorem trn_succ (x : Int) (k : Nat) (hk : k < 32) : trn x (k + 1) = stp (trn x k) := by
  unfold trn stp
  rw [mod_pow_succ, div_pow_succ]
  obtain ⟨m, hm⟩ : ∃ m, m = 31 - k := ⟨_, rfl⟩
  rw [show 32 - (k + 1) = m from by omega, show 32 - k = m + 1 from by omega, Int.pow_succ]
  have hPM : (2 : Int) ^ k * 2 ^ m = 2147483648 := by rw [← Int.pow_add, show k + m = 31 from by omega]; rfl
  generalize (2 : Int) ^ k = P at hPM
  generalize (2 : Int) ^ m = M at hPM
  generalize x / P = Q
  generalize x % P = R
  have e1 : (R + P * (Q % 2)) * M = R * M + Q % 2 * 2147483648 := by
    rw [Int.add_mul, Int.mul_right_comm, hPM, Int.mul_comm 2147483648]
  have e2 : R * (M * 2) = R * M * 2 := by rw [Int.mul_assoc]
  rw [e1, e2]
  generalize R * M = T
  omega
theorem rot_trn (x : Int) (k : Nat) (hk : k ≤ 32) : rot k x = trn x k := by
  induction k with
  | zero => rw [trn_zero]; rfl
  | succ k ih => rw [trn_succ x k (by omega), ← ih (by omega)]; rfl
theorem rot_32 (x : Int) (h0 : 0 ≤ x) (h1 : x < 4294967296) : rot 32 x = x := by
  rw [rot_trn x 32 (Nat.le_refl _)]; unfold trn
  rw [show (2 : Int) ^ 32 = 4294967296 from rfl, show (2 : Int) ^ (32 - 32) = 1 from rfl]; omega
theorem rot_add (a b : Nat) (x : Int) : rot b (rot a x) = rot (a + b) x := by
  induction b with
  | zero => rfl
  | succ b ih => show stp (rot b (rot a x)) = stp (rot (a + b) x); rw [ih]
theorem rot_add32 (a : Nat) (x : Int) (h0 : 0 ≤ x) (h1 : x < 4294967296) : rot (a + 32) x = rot a x := by
  rw [← rot_add, rot_32 _ (rot_bd a x h0 h1).1 (rot_bd a x h0 h1).2]
/-- by any number, modulo 32 -/
def turnV (x n : Int) : Int := rot (n % 32).toNat x
theorem turn_bd (x n : Int) (h0 : 0 ≤ x) (h1 : x < 4294967296) : 0 ≤ turnV x n ∧ turnV x n < 4294967296 := rot_bd _ x h0 h1
theorem turn_add (x a b : Int) (h0 : 0 ≤ x) (h1 : x < 4294967296) : turnV (turnV x a) b = turnV x (a + b) := by
  unfold turnV
  rw [rot_add]
  by_cases h : a % 32 + b % 32 < 32
  · rw [show (a % 32).toNat + (b % 32).toNat = ((a + b) % 32).toNat from by omega]
  · rw [show (a % 32).toNat + (b % 32).toNat = ((a + b) % 32).toNat + 32 from by omega, rot_add32 _ x h0 h1]
theorem turn_zero (x n : Int) (h : n % 32 = 0) : turnV x n = x := by unfold turnV; rw [h]; rfl

theorem or_disj (i x y : Nat) (hx : x % 2 ^ i = 0) (hy : y < 2 ^ i) : y ||| x = y + x := by
  obtain ⟨q, rfl⟩ : ∃ q, x = 2 ^ i * q := ⟨x / 2 ^ i, by have := Nat.div_add_mod x (2 ^ i); omega⟩
  rw [Nat.or_comm, ← Nat.two_pow_add_eq_or_of_lt hy, Nat.add_comm]
/-- the two pieces that Turn joins -/
theorem turn_join (x : Nat) (k : Nat) (hk : k ≤ 32) (hx : x < 4294967296) : x / 2 ^ k ||| x * 2 ^ (32 - k) % 4294967296 = x / 2 ^ k + x % 2 ^ k * 2 ^ (32 - k) := by
  have hP : 2 ^ k * 2 ^ (32 - k) = 4294967296 := by rw [← Nat.pow_add, show k + (32 - k) = 32 from by omega]
  have hm : x * 2 ^ (32 - k) % 4294967296 = x % 2 ^ k * 2 ^ (32 - k) := by rw [← hP, Nat.mul_mod_mul_right]
  rw [hm]
  refine or_disj (32 - k) _ _ (by rw [Nat.mul_mod_left]) ?_
  rw [Nat.div_lt_iff_lt_mul (Nat.pow_pos (by decide)), Nat.mul_comm, hP]; exact hx

theorem flip31 (y : Nat) (h : y < 2147483648) : y + 2147483648 = y ^^^ 2147483648 := by
  have e := or_disj 31 2147483648 y (by decide) h
  rw [← e]
  apply Nat.eq_of_testBit_eq
  intro i
  rw [Nat.testBit_or, Nat.testBit_xor, show (2147483648 : Nat) = 2 ^ 31 from rfl, Nat.testBit_two_pow]
  by_cases hi : 31 = i
  · subst hi
    rw [Nat.testBit_lt_two_pow (by exact h)]; simp
  · simp [hi]
def stpN (a : Nat) : Nat := a / 2 ^^^ (if a % 2 = 1 then 2147483648 else 0)
theorem stp_nat (a : Nat) (h : a < 4294967296) : stp (a : Int) = (stpN a : Int) := by
  unfold stp stpN
  rcases Nat.mod_two_eq_zero_or_one a with h2 | h2
  · rw [h2, if_neg (by decide), Nat.xor_zero]; omega
  · rw [h2, if_pos rfl, ← flip31 _ (by omega)]; omega
theorem stpN_xor (a b : Nat) : stpN (a ^^^ b) = stpN a ^^^ stpN b := by
  unfold stpN
  rw [Nat.xor_div_two]
  have hm : (a ^^^ b) % 2 = (a % 2 + b % 2) % 2 := by
    have := @Nat.xor_mod_two_pow a b 1
    rw [show (2 : Nat) ^ 1 = 2 from rfl] at this
    rw [this]
    rcases Nat.mod_two_eq_zero_or_one a with ha | ha <;> rcases Nat.mod_two_eq_zero_or_one b with hb | hb <;> rw [ha, hb] <;> rfl
  rw [hm]
  rcases Nat.mod_two_eq_zero_or_one a with ha | ha <;> rcases Nat.mod_two_eq_zero_or_one b with hb | hb <;> rw [ha, hb] <;> simp
  · rw [Nat.xor_assoc]
  · rw [Nat.xor_assoc, Nat.xor_comm (b / 2), Nat.xor_assoc]
  · rw [← Nat.xor_assoc, Nat.xor_assoc (a / 2), Nat.xor_comm 2147483648, ← Nat.xor_assoc, Nat.xor_assoc, Nat.xor_self, Nat.xor_zero]
theorem xor_lt32 (a b : Nat) (ha : a < 4294967296) (hb : b < 4294967296) : a ^^^ b < 4294967296 := Nat.xor_lt_two_pow (n := 32) ha hb
theorem rot_xor (k a b : Nat) (ha : a < 4294967296) (hb : b < 4294967296) : rot k ((a ^^^ b : Nat) : Int) = (((rot k a).toNat ^^^ (rot k b).toNat : Nat) : Int) := by
  induction k with
  | zero => simp [rot]
  | succ k ih =>
    show stp (rot k _) = _
    rw [ih]
    have b1 := rot_bd k a (by omega) (by omega)
    have b2 := rot_bd k b (by omega) (by omega)
    show _ = (((stp (rot k a)).toNat ^^^ (stp (rot k b)).toNat : Nat) : Int)
    obtain ⟨p, hp⟩ := Int.eq_ofNat_of_zero_le b1.1
    obtain ⟨q, hq⟩ := Int.eq_ofNat_of_zero_le b2.1
    rw [hp, hq, Int.toNat_natCast, Int.toNat_natCast, stp_nat p (by omega), stp_nat q (by omega), Int.toNat_natCast, Int.toNat_natCast, stp_nat _ (xor_lt32 p q (by omega) (by omega)), stpN_xor]
theorem turn_xor (x y n : Int) (hx0 : 0 ≤ x) (hx : x < 4294967296) (hy0 : 0 ≤ y) (hy : y < 4294967296) : turnV ((x.toNat ^^^ y.toNat : Nat) : Int) n = (((turnV x n).toNat ^^^ (turnV y n).toNat : Nat) : Int) := by
  obtain ⟨a, rfl⟩ := Int.eq_ofNat_of_zero_le hx0
  obtain ⟨b, rfl⟩ := Int.eq_ofNat_of_zero_le hy0
  rw [Int.toNat_natCast, Int.toNat_natCast]
  exact rot_xor _ a b (by omega) (by omega)

/-! ### lowest bits -/
def lowV (x : Int) (n : Nat) : Int := if x % 2 ^ n < 2 ^ (n - 1) then x % 2 ^ n else x % 2 ^ n - 2 ^ n
theorem pow_split (n : Nat) (h1 : 1 ≤ n) (h : n ≤ 64) : (2 : Int) ^ n * 2 ^ (64 - n) = 18446744073709551616 ∧ (2 : Int) ^ (n - 1) * 2 ^ (64 - n) = 9223372036854775808 ∧ (2 : Int) ^ n = 2 * 2 ^ (n - 1) := by
  refine ⟨by rw [← Int.pow_add, show n + (64 - n) = 64 from by omega]; rfl, by rw [← Int.pow_add, show n - 1 + (64 - n) = 63 from by omega]; rfl, ?_⟩
  obtain ⟨m, rfl⟩ : ∃ m, n = m + 1 := ⟨n - 1, by omega⟩
  rw [Int.pow_succ, Int.mul_comm]; rfl
theorem low_bit (x : Int) (k : Nat) (h : k < 64) : x % 18446744073709551616 / 2 ^ k % 2 = x / 2 ^ k % 2 := by
  have e1 : (18446744073709551616 : Int) = 2 ^ k * (2 * 2 ^ (63 - k)) := by rw [← Int.mul_assoc, ← Int.pow_succ, ← Int.pow_add, show k + 1 + (63 - k) = 64 from by omega]; rfl
  have hx := Int.emod_add_mul_ediv x 18446744073709551616
  have hp := pow_pos2 k
  generalize x % 18446744073709551616 = U at *
  generalize x / 18446744073709551616 = D at *
  have e2 : x = U + 2 ^ k * (2 * 2 ^ (63 - k) * D) := by rw [← Int.mul_assoc, ← e1]; exact hx.symm
  rw [e2, Int.add_mul_ediv_left _ _ (Int.ne_of_gt hp), Int.mul_assoc]
  omega
theorem low_at (x : Int) (n : Nat) (h1 : 1 ≤ n) : lowV x n = x % 2 ^ (n - 1) - x / 2 ^ (n - 1) % 2 * 2 ^ (n - 1) := by
  unfold lowV
  obtain ⟨m, rfl⟩ : ∃ m, n = m + 1 := ⟨n - 1, by omega⟩
  rw [show m + 1 - 1 = m from rfl, mod_pow_succ, Int.pow_succ]
  have hp := pow_pos2 m
  have r0 := Int.emod_nonneg x (Int.ne_of_gt hp)
  have r1 := Int.emod_lt_of_pos x hp
  generalize (2 : Int) ^ m = P at *
  have hb : x / P % 2 = 0 ∨ x / P % 2 = 1 := by omega
  generalize x / P % 2 = B at *
  generalize x % P = R at *
  rcases hb with rfl | rfl
  · rw [if_pos (by omega)]; omega
  · rw [if_neg (by omega)]; omega
theorem low_bd (x : Int) (n : Nat) (h1 : 1 ≤ n) : - 2 ^ (n - 1) ≤ lowV x n ∧ lowV x n < 2 ^ (n - 1) := by
  rw [low_at x n h1]
  have hp := pow_pos2 (n - 1)
  have r0 := Int.emod_nonneg x (Int.ne_of_gt hp)
  have r1 := Int.emod_lt_of_pos x hp
  generalize (2 : Int) ^ (n - 1) = P at *
  have hb : x / P % 2 = 0 ∨ x / P % 2 = 1 := by omega
  generalize x / P % 2 = B at *
  rcases hb with rfl | rfl <;> omega
theorem pow_le62 (k : Nat) (h : k ≤ 62) : (2 : Int) ^ k ≤ 4611686018427387904 := by
  have e : (4611686018427387904 : Int) = 2 ^ k * 2 ^ (62 - k) := by rw [← Int.pow_add, show k + (62 - k) = 62 from by omega]; rfl
  have h1 := pow_pos2 (62 - k)
  have h2 := Int.mul_le_mul_of_nonneg_left (show (1 : Int) ≤ 2 ^ (62 - k) by omega) (Int.le_of_lt (pow_pos2 k))
  rw [Int.mul_one, ← e] at h2
  exact h2
theorem pow_le61 (k : Nat) (h : k ≤ 61) : (2 : Int) ^ k ≤ 2305843009213693952 := by
  have h1 := pow_le62 (k + 1) (by omega)
  rw [Int.pow_succ] at h1
  omega
theorem low_cong (x : Int) (n : Nat) : ∃ c, lowV x n = x + 2 ^ n * c := by
  unfold lowV
  have hx := Int.emod_add_mul_ediv x (2 ^ n)
  generalize (2 : Int) ^ n = N at *
  split
  · exact ⟨-(x / N), by rw [Int.mul_neg]; omega⟩
  · exact ⟨-(x / N) - 1, by rw [Int.mul_sub, Int.mul_neg, Int.mul_one]; omega⟩
theorem low_mod (x : Int) (n : Nat) : lowV x n % 2 ^ n = x % 2 ^ n := by
  obtain ⟨c, hc⟩ := low_cong x n
  rw [hc, Int.add_mul_emod_self_left]
theorem low_idem (x : Int) (n : Nat) : lowV (lowV x n) n = lowV x n := by
  have h := low_mod x n
  generalize hy : lowV x n = y at h ⊢
  unfold lowV at hy ⊢
  rw [h, hy]
theorem mul_mod_left (a M T : Int) : (a % T * M) % T = (a * M) % T := by
  rw [Int.mul_emod, Int.emod_emod, ← Int.mul_emod]
theorem low_same (x : Int) (n : Nat) (h1 : 1 ≤ n) (h : n < 64) : lowV x n % 18446744073709551616 * 2 ^ (64 - n) % 18446744073709551616 = x % 18446744073709551616 * 2 ^ (64 - n) % 18446744073709551616 := by
  rw [mul_mod_left, mul_mod_left]
  obtain ⟨c, hc⟩ := low_cong x n
  have e := (pow_split n h1 (by omega)).1
  rw [hc, Int.add_mul, Int.mul_right_comm, e, Int.add_mul_emod_self_left]
/-- up to the top and back -/
theorem low_shift (x : Int) (n : Nat) (h1 : 1 ≤ n) (h : n < 64) : ((x * 2 ^ (64 - n) + 9223372036854775808) % 18446744073709551616 - 9223372036854775808) / 2 ^ (64 - n) = lowV x n := by
  unfold lowV
  obtain ⟨e1, e2, e3⟩ := pow_split n h1 (by omega)
  have hM := pow_pos2 (64 - n)
  have hN := pow_pos2 n
  generalize (2 : Int) ^ (64 - n) = M at *
  generalize (2 : Int) ^ (n - 1) = H at *
  generalize (2 : Int) ^ n = N at *
  have hx := Int.emod_add_mul_ediv x N
  have r0 := Int.emod_nonneg x (Int.ne_of_gt hN)
  have r1 := Int.emod_lt_of_pos x hN
  generalize x % N = R at *
  generalize x / N = D at *
  subst hx
  have e4 : (R + N * D) * M = R * M + 18446744073709551616 * D := by rw [Int.add_mul, Int.mul_right_comm, e1]
  rw [e4]
  by_cases hR : R < H
  · rw [if_pos hR]
    have b1 : R * M < 9223372036854775808 := by rw [← e2]; exact Int.mul_lt_mul_of_pos_right hR hM
    have b0 : 0 ≤ R * M := Int.mul_nonneg r0 (Int.le_of_lt hM)
    rw [show (R * M + 18446744073709551616 * D + 9223372036854775808) % 18446744073709551616 - 9223372036854775808 = R * M from by omega]
    exact Int.mul_ediv_cancel _ (Int.ne_of_gt hM)
  · rw [if_neg hR]
    have b1 : 9223372036854775808 ≤ R * M := by rw [← e2]; exact Int.mul_le_mul_of_nonneg_right (by omega) (Int.le_of_lt hM)
    have b0 : R * M < 18446744073709551616 := by rw [← e1]; exact Int.mul_lt_mul_of_pos_right r1 hM
    rw [show (R * M + 18446744073709551616 * D + 9223372036854775808) % 18446744073709551616 - 9223372036854775808 = (R - N) * M from by rw [Int.sub_mul, e1]; omega]
    exact Int.mul_ediv_cancel _ (Int.ne_of_gt hM)
end Go.Proofs.YtfkloilbjfleeaaDoor
namespace Go.Proofs.YtfkloilbjfleeaaDoor
open Go.RowKit
set_option linter.unusedVariables false

/-- x without its k lowest bytes -/
def sh (x : Int) (k : Nat) : Int := x / 256 ^ k
/-- the n lowest bytes of x, the highest first -/
def putL (x : Int) : Nat → List Int
  | 0 => []
  | n + 1 => sh x n % 256 :: putL x n

theorem sh_zero (x : Int) : sh x 0 = x := by simp [sh]
theorem sh_succ (x : Int) (k : Nat) : sh x (k + 1) = sh x k / 256 := by
  unfold sh
  rw [Int.pow_succ, Int.ediv_ediv_of_nonneg (Int.le_of_lt (Int.pow_pos (by decide)))]
theorem sh_bd (x : Int) (k : Nat) (h0 : 0 ≤ x) (h1 : x ≤ 18446744073709551615) : 0 ≤ sh x k ∧ sh x k ≤ 18446744073709551615 := by
  induction k with
  | zero => rw [sh_zero]; exact ⟨h0, h1⟩
  | succ k ih => rw [sh_succ]; omega
theorem putL_length (x : Int) (n : Nat) : (putL x n).length = n := by
  induction n with
  | zero => rfl
  | succ n ih => simp [putL, ih]

/-- the row behind k rounds of Put -/
def putAt (x : Int) (n k : Nat) : List Value := List.replicate (n - k) (Value.int .u8 0) ++ bv (putL x k)
theorem putAt_zero (x : Int) (n : Nat) : putAt x n 0 = List.replicate n (Value.int .u8 0) := by simp [putAt, putL, bv]
theorem putAt_n (x : Int) (n : Nat) : putAt x n n = bv (putL x n) := by simp [putAt]
theorem putAt_succ (x : Int) (n k : Nat) (h : k < n) : (putAt x n k).set (n - 1 - k) (.int .u8 (sh x k % 256)) = putAt x n (k + 1) := by
  unfold putAt
  obtain ⟨m, rfl⟩ : ∃ m, n = k + 1 + m := ⟨n - k - 1, by omega⟩
  have e1 : k + 1 + m - k = m + 1 := by omega
  have e2 : k + 1 + m - 1 - k = m := by omega
  have e3 : k + 1 + m - (k + 1) = m := by omega
  rw [e1, e2, e3, List.replicate_succ', List.append_assoc, List.set_append_right _ _ (by simp)]
  simp [putL, bv]

theorem put_none (x n : Int) (w : World) (hn : n < 1 ∨ 8 < n) :
    Calls Tryd.prog 72 #[.int .u64 x, .int .i64 n] w fun e w' => e = .returned (.slice none 0 0) ∧ w = w' := by
  rcases hn with h | h
  · go_enter Tryd.func72, Tryd.ntmps72
    go_wp2
    go_ret
    exact ⟨rfl, rfl⟩
  · have h' : ¬ n < 1 := by omega
    go_enter Tryd.func72, Tryd.ntmps72
    go_wp2
    go_ret
    exact ⟨rfl, rfl⟩

set_option maxHeartbeats 400000 in
theorem put_some (x : Int) (n : Nat) (w : World) (h1 : 1 ≤ n) (h8 : n ≤ 8) (hx0 : 0 ≤ x) (hx1 : x ≤ 18446744073709551615) :
    Calls Tryd.prog 72 #[.int .u64 x, .int .i64 n] w fun e w' => ∃ v, e = .returned v ∧ w'.ownsRow w.heap.size 5 1 v n (bv (putL x n)) ∧ Below w.heap.size w w' := by
  have hn1 : ¬ (n : Int) < 1 := by omega
  have hn8 : ¬ (8 : Int) < n := by omega
  obtain ⟨i0, hi, hz0, hz1, hz2⟩ := info_parts Tryd.info5
  go_enter Tryd.func72, Tryd.ntmps72
  go_wp2_with (at_make; refine wpList_make_full _ rfl _ _ 22 rfl w.heap.size 5 i0 (.int .u8 0) 1 Tryd.underlying22 hi hz0 hz1 _ _ _ _ n rfl rfl rfl rfl (by rw [hz2]; omega) (by unfold maxLen; omega) (Nat.le_refl _) ?_)
  intro w1 hown hgrow
  rw [toList_madeCells_one, ← putAt_zero x n] at hown
  have hb1 : Below w.heap.size w w1 := (Below.refl _ _).grown hgrow (Nat.le_refl _) (by intro k hk; cases hk)
  clear hgrow hi hz0 hz1 hz2
  go_wp2
  go_loopw [0, 16] (fun xs i wr => ∃ k : Nat, k ≤ n ∧ i = .int .i64 k ∧ xs = .int .u64 (sh x k) ∧ wr.ownsRow w.heap.size 5 1 (.slice (some ⟨w.heap.size, 0, none⟩) n n) n (putAt x n k) ∧ Below w.heap.size w wr) (fun _ i _ => n - (intOf i).toNat)
  case atStart => exact ⟨0, Nat.zero_le _, rfl, by rw [sh_zero], hown, hb1⟩
  case round =>
    obtain ⟨k, hk, rfl, rfl, hown, hb⟩ := hrel
    by_cases hlt : k < n
    · have hs := sh_bd x k hx0 hx1
      obtain ⟨c0, hc⟩ := owns_cell hown (n - 1 - k) (by omega)
      have hf := hown.frozenAt (n - 1 - k)
      have hst := hown.stored (n - 1 - k) (.int .u8 (sh x k % 256))
      rw [putAt_succ x n k hlt] at hst
      have hb2 := hb.grown hst.2 hb.size (by intro j hj; cases hj; exact Nat.le_refl _)
      go_wp2
      go_roundw
      case rel => exact ⟨k + 1, by omega, by go_num, by rw [sh_succ], hst.1, hb2⟩
      case measure => simp [intOf]; omega
    · obtain rfl : k = n := by omega
      rw [putAt_n] at hown
      go_wp2
      go_ret
      exact ⟨_, rfl, hown, hb⟩
end Go.Proofs.YtfkloilbjfleeaaDoor
namespace Go.Proofs.YtfkloilbjfleeaaDoor
open Go.RowKit
set_option linter.unusedVariables false

def getV (l : List Int) : Int := l.foldl (fun x c => 256 * x + c) 0
theorem getV_snoc (l : List Int) (c : Int) : getV (l ++ [c]) = 256 * getV l + c := by simp [getV]
theorem getV_bd (l : List Int) (h : Byt l) : 0 ≤ getV l ∧ getV l < 256 ^ l.length := by
  suffices H : ∀ (m : List Int), Byt m.reverse → 0 ≤ getV m.reverse ∧ getV m.reverse < 256 ^ m.length by
    have := H l.reverse (by simpa using h); simpa using this
  intro m
  induction m with
  | nil => intro _; simp [getV]
  | cons c m ih =>
    intro hb
    have h1 : Byt m.reverse := fun d hd => hb d (by simp at hd ⊢; exact .inl hd)
    have h2 := hb c (by simp)
    have h3 := ih h1
    rw [List.reverse_cons, getV_snoc, List.length_cons, Int.pow_succ]
    omega
theorem getV_small (l : List Int) (h : Byt l) (n : Nat) (hl : l.length ≤ n) (hn : n ≤ 7) : 0 ≤ getV l ∧ getV l ≤ 72057594037927935 := by
  have h1 := getV_bd l h
  rcases (by omega : l.length = 0 ∨ l.length = 1 ∨ l.length = 2 ∨ l.length = 3 ∨ l.length = 4 ∨ l.length = 5 ∨ l.length = 6 ∨ l.length = 7) with h | h | h | h | h | h | h | h <;> rw [h] at h1 <;> omega
theorem or_join64 (i : Nat) (x y : Int) (hx0 : 0 ≤ x) (hx : x ≤ 18446744073709551615) (hm : x % 2 ^ i = 0) (hy0 : 0 ≤ y) (hy : y < 2 ^ i) (hy2 : y ≤ 18446744073709551615) : bits .or .u64 x y = x + y := by
  rw [u64_or x y hx0 (by omega) hy0 (by omega)]
  obtain ⟨a, rfl⟩ := Int.eq_ofNat_of_zero_le hx0
  obtain ⟨b, rfl⟩ := Int.eq_ofNat_of_zero_le hy0
  rw [Int.toNat_natCast, Int.toNat_natCast, nat_join i a b (by exact_mod_cast hm) (by exact_mod_cast hy)]
  rfl

theorem get_none (a : Option Addr) (len cap : Nat) (w : World) (hm : len ≤ maxLen) (h : len < 1 ∨ 8 < len) :
    Calls Tryd.prog 86 #[.slice a len cap] w fun e w' => e = .returned (.tuple #[.int .u64 0, .bool false]) ∧ w = w' := by
  unfold maxLen at hm
  rcases h with h | h
  · have h1 : (len : Int) < 1 := by omega
    go_enter Tryd.func86, Tryd.ntmps86
    go_wp2
    go_ret2
    exact ⟨rfl, rfl⟩
  · have h1 : ¬ (len : Int) < 1 := by omega
    have h2 : (8 : Int) < len := by omega
    go_enter Tryd.func86, Tryd.ntmps86
    go_wp2
    go_ret2
    exact ⟨rfl, rfl⟩

theorem refget_none (a : Option Addr) (len cap : Nat) (w : World) (hm : len ≤ maxLen) (h : len < 1 ∨ 8 < len) :
    Calls Tryd.prog 73 #[.slice a len cap] w fun e w' => e = .returned (.tuple #[.int .u64 0, .bool false]) ∧ w = w' := by
  unfold maxLen at hm
  rcases h with h | h
  · have h1 : (len : Int) < 1 := by omega
    go_enter Tryd.func73, Tryd.ntmps73
    go_wp2
    go_ret2
    exact ⟨rfl, rfl⟩
  · have h1 : ¬ (len : Int) < 1 := by omega
    have h2 : (8 : Int) < len := by omega
    go_enter Tryd.func73, Tryd.ntmps73
    go_wp2
    go_ret2
    exact ⟨rfl, rfl⟩

theorem tuple_ub {a b : Int} (h : a = b) (c : Bool) : Ending.returned (.tuple #[.int .u64 a, .bool c]) = .returned (.tuple #[.int .u64 b, .bool c]) := by rw [h]

set_option maxHeartbeats 400000 in
theorem get_some (a : Option Addr) (len cap : Nat) (l : List Int) (w : World) (h : Bts w a len cap l) (h1 : 1 ≤ len) (h8 : len ≤ 8) :
    Calls Tryd.prog 86 #[.slice a len cap] w fun e w' => e = .returned (.tuple #[.int .u64 (getV l), .bool true]) ∧ w = w' := by
  have hl : Hid (l.length = len) := h.len_eq
  obtain ⟨b, off, rfl, _, hc⟩ := h.spot (by omega)
  have hn1 : ¬ (len : Int) < 1 := by omega
  have hn8 : ¬ (8 : Int) < len := by omega
  have HB : Hid (Byt l) := h.byt
  clear h
  go_enter Tryd.func86, Tryd.ntmps86
  go_wp2
  go_loop [4, 17] (fun x i => ∃ k : Nat, k ≤ len ∧ i = .int .i64 k ∧ x = .int .u64 (getV (l.take k))) (fun _ i => len - (intOf i).toNat)
  case atStart => exact ⟨0, Nat.zero_le _, rfl, rfl⟩
  case round =>
    obtain ⟨k, hk, rfl, rfl⟩ := hrel
    by_cases hlt : k < len
    · have hcell := hc k hlt
      have hv := getV_small (l.take k) (HB.out.take k) k (List.length_take_le _ _) (by omega)
      have hbd := HB.out.getD k
      have HS : Hid (getV (l.take (k + 1)) = 256 * getV (l.take k) + l.getD k 0) := by rw [take_succ_getD l k (by rw [hl.out]; omega)]; exact getV_snoc _ _
      generalize getV (l.take k) = G at hv HS ⊢
      generalize l.getD k 0 = C at hcell hbd HS
      have hj : bits .or .u64 (G * 256) C = G * 256 + C := or_join64 8 _ _ (by omega) (by omega) (by omega) hbd.1 (by omega) (by omega)
      clear hc
      go_wp2
      go_round
      case rel => exact ⟨k + 1, by omega, by go_num, by rw [HS.out]; go_num⟩
      case measure => simp [intOf]; omega
    · have HT : Hid (l.take k = l) := List.take_of_length_le (by rw [hl.out]; omega)
      clear hc
      go_wp2
      go_ret2
      exact ⟨tuple_ub (by rw [HT.out]) _, rfl⟩

set_option maxHeartbeats 400000 in
theorem refget_some (a : Option Addr) (len cap : Nat) (l : List Int) (w : World) (h : Bts w a len cap l) (h1 : 1 ≤ len) (h8 : len ≤ 8) :
    Calls Tryd.prog 73 #[.slice a len cap] w fun e w' => e = .returned (.tuple #[.int .u64 (getV l), .bool true]) ∧ w = w' := by
  have hl : Hid (l.length = len) := h.len_eq
  obtain ⟨b, off, rfl, _, hc⟩ := h.spot (by omega)
  have hn1 : ¬ (len : Int) < 1 := by omega
  have hn8 : ¬ (8 : Int) < len := by omega
  have HB : Hid (Byt l) := h.byt
  clear h
  go_enter Tryd.func73, Tryd.ntmps73
  go_wp2
  go_loop [4, 5] (fun x i => ∃ k : Nat, k ≤ len ∧ i = .int .i64 k ∧ x = .int .u64 (getV (l.take k))) (fun _ i => len - (intOf i).toNat)
  case atStart => exact ⟨0, Nat.zero_le _, rfl, rfl⟩
  case round =>
    obtain ⟨k, hk, rfl, rfl⟩ := hrel
    by_cases hlt : k < len
    · have hcell := hc k hlt
      have hv := getV_small (l.take k) (HB.out.take k) k (List.length_take_le _ _) (by omega)
      have hbd := HB.out.getD k
      have HS : Hid (getV (l.take (k + 1)) = 256 * getV (l.take k) + l.getD k 0) := by rw [take_succ_getD l k (by rw [hl.out]; omega)]; exact getV_snoc _ _
      generalize getV (l.take k) = G at hv HS ⊢
      generalize l.getD k 0 = C at hcell hbd HS
      clear hc
      go_wp2
      go_round
      case rel => exact ⟨k + 1, by omega, by go_num, by rw [HS.out]⟩
      case measure => simp [intOf]; omega
    · have HT : Hid (l.take k = l) := List.take_of_length_le (by rw [hl.out]; omega)
      clear hc
      go_wp2
      go_ret2
      exact ⟨tuple_ub (by rw [HT.out]) _, rfl⟩
end Go.Proofs.YtfkloilbjfleeaaDoor
namespace Go.Proofs.YtfkloilbjfleeaaDoor
open Go.RowKit
set_option linter.unusedVariables false

theorem turn_core (x : Int) (p : Nat) (hp : p < 32) (hx0 : 0 ≤ x) (hx1 : x < 4294967296) :
    bits .or .u32 (x / 2 ^ p) (x * 2 ^ (32 - p) % 4294967296) = rot p x := by
  rw [rot_trn x p (by omega)]
  obtain ⟨a, rfl⟩ := Int.eq_ofNat_of_zero_le hx0
  have hj := turn_join a p (by omega) (by omega)
  have e1 : (a : Int) / 2 ^ p = ((a / 2 ^ p : Nat) : Int) := by simp
  have e2 : (a : Int) * 2 ^ (32 - p) % 4294967296 = ((a * 2 ^ (32 - p) % 4294967296 : Nat) : Int) := by simp
  rw [e1, e2, u32_or_nat _ _ (Nat.lt_of_le_of_lt (Nat.div_le_self _ _) (by omega)) (Nat.mod_lt _ (by decide)), hj]
  unfold trn
  simp

set_option maxHeartbeats 400000 in
theorem turn_any (x n : Int) (w : World) (hx0 : 0 ≤ x) (hx1 : x < 4294967296) (hn0 : -9223372036854775808 ≤ n) (hn1 : n ≤ 9223372036854775807) :
    Calls Tryd.prog 85 #[.int .u32 x, .int .i64 n] w fun e w' => e = .returned (.int .u32 (turnV x n)) ∧ w = w' := by
  obtain ⟨p, hp⟩ : ∃ p : Nat, n % 32 = (p : Int) := ⟨(n % 32).toNat, by omega⟩
  have hp32 : p < 32 := by omega
  have hpe : (IntKind.u64.wrap n).tmod 32 = (p : Int) := by
    rw [IntKind.wrap_u64, Int.tmod_eq_emod_of_nonneg (by omega)]; omega
  have HT : Hid (turnV x n = rot p x) := by show turnV x n = rot p x; unfold turnV; rw [hp, Int.toNat_natCast]
  have hj := turn_core x p hp32 hx0 hx1
  clear hp
  rw [HT.out]
  go_enter Tryd.func85, Tryd.ntmps85
  go_wp2
  go_ret
  exact ⟨rfl, rfl⟩

set_option maxHeartbeats 400000 in
theorem refturn_any (x n : Int) (w : World) (hx0 : 0 ≤ x) (hx1 : x < 4294967296) (hn0 : -9223372036854775808 ≤ n) (hn1 : n ≤ 9223372036854775807) :
    Calls Tryd.prog 74 #[.int .u32 x, .int .i64 n] w fun e w' => e = .returned (.int .u32 (turnV x n)) ∧ w = w' := by
  have ht : -31 ≤ n.tmod 32 ∧ n.tmod 32 ≤ 31 := by
    rw [Int.tmod_eq_emod]; split <;> omega
  obtain ⟨p, hp⟩ : ∃ p : Nat, n % 32 = (p : Int) := ⟨(n % 32).toNat, by omega⟩
  have hp32 : p < 32 := by omega
  have hpe : (n.tmod 32 + 32) % 32 = (p : Int) := by
    rw [Int.tmod_eq_emod]; split <;> omega
  have HT : Hid (turnV x n = rot p x) := by show turnV x n = rot p x; unfold turnV; rw [hp, Int.toNat_natCast]
  clear hp
  rw [HT.out]
  go_enter Tryd.func74, Tryd.ntmps74
  go_wp2
  go_loop [0, 5] (fun y i => ∃ k : Nat, k ≤ p ∧ i = .int .i64 k ∧ y = .int .u32 (rot k x)) (fun _ i => p - (intOf i).toNat)
  case atStart => exact ⟨0, Nat.zero_le _, rfl, rfl⟩
  case round =>
    obtain ⟨k, hk, rfl, rfl⟩ := hrel
    have hb := rot_bd k x hx0 hx1
    have HS : Hid (rot (k + 1) x = rot k x / 2 + rot k x % 2 * 2147483648) := rfl
    by_cases hlt : k < p
    · generalize rot k x = y at hb HS ⊢
      by_cases hy : y % 2 = 1
      · have hyb : (y % 2 == 1) = true := by simpa using hy
        have HY : Hid (y % 2 = 1) := hy
        clear hy
        go_wp2
        go_round
        case rel => exact ⟨k + 1, by omega, by go_num, by rw [HS.out, HY.out]; go_num⟩
        case measure => simp [intOf]; omega
      · have hyb : (y % 2 == 1) = false := by simpa using hy
        have HY : Hid (y % 2 = 0) := by show y % 2 = 0; omega
        clear hy
        go_wp2
        go_round
        case rel => exact ⟨k + 1, by omega, by go_num, by rw [HS.out, HY.out]; go_num⟩
        case measure => simp [intOf]; omega
    · obtain rfl : k = p := by omega
      go_wp2
      go_ret
      exact ⟨rfl, rfl⟩

end Go.Proofs.YtfkloilbjfleeaaDoor
namespace Go.Proofs.YtfkloilbjfleeaaDoor
open Go.RowKit
set_option linter.unusedVariables false

theorem putL_getD (x : Int) (n k : Nat) (h : k < n) : (putL x n).getD k 0 = sh x (n - 1 - k) % 256 := by
  induction n generalizing k with
  | zero => omega
  | succ n ih =>
    cases k with
    | zero => simp [putL]
    | succ k =>
      have := ih k (by omega)
      rw [show n + 1 - 1 - (k + 1) = n - 1 - k from by omega, ← this]
      simp [putL]
theorem putL_take (x : Int) (n k : Nat) (h : k < n) : (putL x n).take (k + 1) = (putL x n).take k ++ [sh x (n - 1 - k) % 256] := by
  rw [take_succ_getD _ k (by rw [putL_length]; exact h), putL_getD x n k h]
theorem putL_byt (x : Int) (n : Nat) : Byt (putL x n) := by
  induction n with
  | zero => exact Byt.nil
  | succ n ih => exact Byt.cons (by omega) ih

theorem refput_none (x n : Int) (w : World) (hn : n < 1 ∨ 8 < n) :
    Calls Tryd.prog 57 #[.int .u64 x, .int .i64 n] w fun e w' => e = .returned (.slice none 0 0) ∧ w = w' := by
  rcases hn with h | h
  · go_enter Tryd.func57, Tryd.ntmps57
    go_wp2
    go_ret
    exact ⟨rfl, rfl⟩
  · have h' : ¬ n < 1 := by omega
    go_enter Tryd.func57, Tryd.ntmps57
    go_wp2
    go_ret
    exact ⟨rfl, rfl⟩

theorem refput_rel {w wr w1 : World} {x : Int} {n k : Nat} {v v' : Value} {c : Int} {o : Obj} (hk : k < n) (hc : c = sh x (n - 1 - k) % 256)
    (hown : wr.ownsRow w.heap.size 5 1 v k (bv ((putL x n).take k))) (hb : Below w.heap.size w wr)
    (h1 : w1.ownsRow w.heap.size 5 1 v' (k + 1) (bv ((putL x n).take k) ++ [.int .u8 c])) (hg : (wr.alloc o).grownBy w1 v.ownBlock) :
    w1.ownsRow w.heap.size 5 1 v' (k + 1) (bv ((putL x n).take (k + 1))) ∧ Below w.heap.size w w1 := by
  refine ⟨?_, ?_⟩
  · rw [putL_take x n k hk, bv_append, ← hc]; exact h1
  · refine (hb.alloc hb.size o).grown hg (by have := hb.size; simp; omega) ?_
    intro g hg'
    exact (hown.lt g hg').1

set_option maxHeartbeats 400000 in
theorem refput_some (x : Int) (n : Nat) (w : World) (h1 : 1 ≤ n) (h8 : n ≤ 8) (hx0 : 0 ≤ x) (hx1 : x ≤ 18446744073709551615) :
    Calls Tryd.prog 57 #[.int .u64 x, .int .i64 n] w fun e w' => ∃ v, e = .returned v ∧ w'.ownsRow w.heap.size 5 1 v n (bv (putL x n)) ∧ Below w.heap.size w w' := by
  have hn1 : ¬ (n : Int) < 1 := by omega
  have hn8 : ¬ (8 : Int) < n := by omega
  obtain ⟨i0, hi, hz0, hz1, hz2⟩ := info_parts Tryd.info5
  go_enter Tryd.func57, Tryd.ntmps57
  go_wp2
  go_loopw [5, 6] (fun v i wr => ∃ k : Nat, k ≤ n ∧ i = .int .i64 k ∧ wr.ownsRow w.heap.size 5 1 v k (bv ((putL x n).take k)) ∧ Below w.heap.size w wr) (fun _ i _ => n - (intOf i).toNat)
  case atStart => exact ⟨0, Nat.zero_le _, rfl, World.ownsRow_nil _ _ _ _, Below.refl _ _⟩
  case round =>
    obtain ⟨k, hk, rfl, hown, hb⟩ := hrel
    by_cases hlt : k < n
    · go_wp2
      go_loop [7, 8] (fun y i => ∃ j : Nat, k + 1 ≤ j ∧ j ≤ n ∧ i = .int .i64 j ∧ y = .int .u64 (sh x (j - (k + 1)))) (fun _ i => n - (intOf i).toNat)
      case atStart => exact ⟨k + 1, by omega, by omega, by go_num, by simp [sh_zero]⟩
      case round =>
        obtain ⟨j, hj1, hj2, rfl, rfl⟩ := hrel
        have hs := sh_bd x (j - (k + 1)) hx0 hx1
        by_cases hjn : j < n
        · have HS : Hid (sh x (j + 1 - (k + 1)) = sh x (j - (k + 1)) / 256) := by
            rw [← sh_succ, show j - (k + 1) + 1 = j + 1 - (k + 1) from by omega]; rfl
          go_wp2
          go_round
          case rel => exact ⟨j + 1, by omega, by omega, by go_num, by rw [HS.out]⟩
          case measure => simp [intOf]; omega
        · have HC : Hid (sh x (j - (k + 1)) % 256 = sh x (n - 1 - k) % 256) := by
            rw [show j - (k + 1) = n - 1 - k from by omega]; rfl
          generalize sh x (j - (k + 1)) = G at hs HC ⊢
          go_wp2_with (at_builtin; refine wpList_append_own _ rfl _ _ 22 rfl w.heap.size 5 i0 (.int .u8 0) 1 1 Tryd.underlying22 hi hz0 hz1 hz2 rfl (by decide) _ _ _ rfl (hown.alloc _) ⟨wr.heap.size, 0, none⟩ 1 1 [.int .u8 (G % 256)] rfl rfl (cell_one_new _ _ _) (bv_one [G % 256]) (by unfold maxLen; omega) (by omega) (by have := hb.size; simp; omega) ?_)
          intro v' w1 hown' hgrow _
          have R := refput_rel hlt HC.out hown hb hown' hgrow
          clear hown' hgrow hown hb
          go_wp2
          go_roundw
          case rel => exact ⟨k + 1, by omega, by go_num, R.1, R.2⟩
          case measure => simp [intOf]; omega
    · obtain rfl : k = n := by omega
      have HT : Hid ((putL x k).take k = putL x k) := List.take_of_length_le (by rw [putL_length]; exact Nat.le_refl _)
      go_wp2
      go_ret
      exact ⟨_, rfl, by rw [HT.out] at hown; exact hown, hb⟩
end Go.Proofs.YtfkloilbjfleeaaDoor
namespace Go.Proofs.YtfkloilbjfleeaaDoor
open Go.RowKit
set_option linter.unusedVariables false

/-- how many noughts stand behind a text of n bytes -/
def padZ (n : Int) : Nat := ((119 - n % 64) % 64).toNat
theorem padZ_le (n : Int) : padZ n ≤ 63 := by unfold padZ; omega
/-- what stands behind a text of n bytes -/
def padL (n : Int) : List Int := 128 :: List.replicate (padZ n) 0 ++ putL (8 * n % 18446744073709551616) 8
theorem padL_length (n : Int) : (padL n).length = padZ n + 9 := by unfold padL; simp [putL_length]
theorem padL_byt (n : Int) : Byt (padL n) := by
  unfold padL
  refine Byt.append (Byt.cons (by decide) ?_) (putL_byt _ _)
  intro c hc; rw [List.eq_of_mem_replicate hc]; decide
/-- behind k noughts one more is wanted just if k is below that number -/
theorem pad_more (n : Int) (k : Nat) (h0 : 0 ≤ n) (hk : k ≤ padZ n) : ((((n + ((k : Int) + 1)) % 18446744073709551616 + 8) % 18446744073709551616) % 64 ≠ 0) ↔ k < padZ n := by
  unfold padZ at *; omega
theorem rep_snoc (k : Nat) : (128 : Int) :: List.replicate (k + 1) 0 = (128 :: List.replicate k 0) ++ [0] := by
  rw [List.replicate_succ']; rfl

/-- exclusive or, and, not: of numbers of 32 bits -/
def xr (a b : Int) : Int := ((a.toNat ^^^ b.toNat : Nat) : Int)
def an (a b : Int) : Int := ((a.toNat &&& b.toNat : Nat) : Int)
def U32 (a : Int) : Prop := 0 ≤ a ∧ a < 4294967296
theorem xr_eq {a b : Int} (ha : U32 a) (hb : U32 b) : bits .xor .u32 a b = xr a b := u32_xor a b ha.1 ha.2 hb.1 hb.2
theorem an_eq {a b : Int} (ha : U32 a) (hb : U32 b) : bits .and .u32 a b = an a b := u32_and a b ha.1 ha.2 hb.1 hb.2
theorem xr_u {a b : Int} (ha : U32 a) (hb : U32 b) : U32 (xr a b) := by
  have h1 := ha.1; have h2 := ha.2; have h3 := hb.1; have h4 := hb.2
  have := xor_lt32 a.toNat b.toNat (by omega) (by omega)
  exact ⟨by unfold xr; omega, by unfold xr; omega⟩
theorem an_u {a b : Int} (ha : U32 a) (hb : U32 b) : U32 (an a b) := by
  have h1 := ha.1; have h2 := ha.2
  have := @Nat.and_le_left a.toNat b.toNat
  exact ⟨by unfold an; omega, by unfold an; omega⟩
theorem turn_u {x : Int} (n : Int) (h : U32 x) : U32 (turnV x n) := turn_bd x n h.1 h.2
/-- turned by three numbers of places, all of it by exclusive or -/
def thr (x a b c : Int) : Int := xr (xr (turnV x a) (turnV x b)) (turnV x c)
theorem thr_u {x : Int} (a b c : Int) (h : U32 x) : U32 (thr x a b c) := xr_u (xr_u (turn_u a h) (turn_u b h)) (turn_u c h)

def keyL : List Int := [1116352408, 1899447441, 3049323471, 3921009573, 961987163, 1508970993, 2453635748, 2870763221, 3624381080, 310598401, 607225278, 1426881987, 1925078388, 2162078206, 2614888103, 3248222580, 3835390401, 4022224774, 264347078, 604807628, 770255983, 1249150122, 1555081692, 1996064986, 2554220882, 2821834349, 2952996808, 3210313671, 3336571891, 3584528711, 113926993, 338241895, 666307205, 773529912, 1294757372, 1396182291, 1695183700, 1986661051, 2177026350, 2456956037, 2730485921, 2820302411, 3259730800, 3345764771, 3516065817, 3600352804, 4094571909, 275423344, 430227734, 506948616, 659060556, 883997877, 958139571, 1322822218, 1537002063, 1747873779, 1955562222, 2024104815, 2227730452, 2361852424, 2428436474, 2756734187, 3204031479, 3329325298]
def uv (l : List Int) : List Value := l.map (Value.int .u32)
theorem uv_length (l : List Int) : (uv l).length = l.length := by simp [uv]
theorem uv_append (l m : List Int) : uv (l ++ m) = uv l ++ uv m := by simp [uv]
theorem uv_one (l : List Int) : ∀ u ∈ uv l, u.oneCell' = true := ints_oneCell _ l
def U32s (l : List Int) : Prop := ∀ c ∈ l, U32 c
theorem U32s.getD {l : List Int} (h : U32s l) (i : Nat) : U32 (l.getD i 0) := by
  by_cases hi : i < l.length
  · rw [List.getD_eq_getElem?_getD, List.getElem?_eq_getElem hi]; exact h _ (List.getElem_mem hi)
  · rw [List.getD_eq_getElem?_getD, List.getElem?_eq_none (by omega)]; exact ⟨by decide, by decide⟩
theorem keyL_u : U32s keyL := by
  intro c hc
  have : keyL.all (fun c => decide (0 ≤ c) && decide (c < 4294967296)) = true := by decide +kernel
  have := List.all_eq_true.1 this c hc
  simp at this
  exact this
end Go.Proofs.YtfkloilbjfleeaaDoor
namespace Go.Proofs.YtfkloilbjfleeaaDoor
open Go.RowKit
set_option linter.unusedVariables false

theorem Bts.cut {w : World} {ao : Option Addr} {len cap : Nat} {l : List Int} (h : Bts w ao len cap l) (n : Nat) (hn : n ≤ len) : Bts w ao n cap (l.take n) := by
  have hl := h.len_eq
  refine ⟨by rw [List.length_take]; omega, h.byt.take n, Nat.le_trans hn h.le_cap, h.cap_le, h.nil, fun hp => ?_⟩
  obtain ⟨b, off, e, hlt, hc⟩ := h.spot (by omega)
  refine ⟨b, off, e, hlt, fun i hi => ?_⟩
  rw [hc i (by omega), List.getD_eq_getElem?_getD, List.getD_eq_getElem?_getD, List.getElem?_take, if_pos hi]

theorem Bts.cells {w : World} {ad : Addr} {len cap : Nat} {l : List Int} (h : Bts w (some ad) len cap l) : ∀ j u, (bv l)[j]? = some u → w.cell? (ad.add j) = some u := by
  intro j u hu
  have hj : j < l.length := by have := (List.getElem?_eq_some_iff.1 hu).1; rwa [bv_length] at this
  have hl := h.len_eq
  obtain ⟨b, off, e, hlt, hc⟩ := h.spot (by omega)
  cases e
  rw [Addr.add_lit, hc j (by omega), List.getD_eq_getElem?_getD, List.getElem?_eq_getElem hj]
  rw [bv, List.getElem?_map, List.getElem?_eq_getElem hj] at hu
  exact hu

set_option maxHeartbeats 400000 in
theorem cut_any (a : Option Addr) (len cap n : Nat) (l : List Int) (w : World) (h : Bts w a len cap l) (hn : 1 ≤ n) :
    Calls Tryd.prog 8 #[.slice a len cap, .int .i64 n] w fun e w' => (∃ len', e = .returned (.slice a len' cap) ∧ Bts w a len' cap (l.take n)) ∧ w = w' := by
  have hm := Nat.le_trans h.le_cap h.cap_le
  have hcm := h.cap_le
  have hlc := h.le_cap
  unfold maxLen at hm hcm
  by_cases hlt : n < len
  · have hb := h.cut n (by omega)
    obtain ⟨b, off, rfl, _, _⟩ := h.spot (by omega)
    go_enter Tryd.func8, Tryd.ntmps8
    go_wp2
    go_ret
    exact ⟨⟨_, rfl, hb⟩, rfl⟩
  · have hl := h.len_eq
    rw [List.take_of_length_le (by omega)]
    have hn' : ¬ (n : Int) < len := by omega
    go_enter Tryd.func8, Tryd.ntmps8
    go_wp2
    go_ret
    exact ⟨⟨_, rfl, h⟩, rfl⟩

set_option maxHeartbeats 400000 in
theorem copy_any (a : Option Addr) (len cap : Nat) (l : List Int) (w : World) (h : Bts w a len cap l) (hs : len ≤ 140737488355328) :
    Calls Tryd.prog 14 #[.slice a len cap] w fun e w' => ∃ v, e = .returned v ∧ w'.ownsRow w.heap.size 5 1 v len (bv l) ∧ Below w.heap.size w w' := by
  have hm := Nat.le_trans h.le_cap h.cap_le
  have hl := h.len_eq
  obtain ⟨i0, hi, hz0, hz1, hz2⟩ := info_parts Tryd.info5
  cases a with
  | none =>
    have hc0 := h.nil rfl
    have hlc := h.le_cap
    obtain rfl : cap = 0 := hc0
    obtain rfl : len = 0 := by omega
    obtain rfl : l = [] := List.eq_nil_of_length_eq_zero hl
    go_enter Tryd.func14, Tryd.ntmps14
    go_wp2
    go_ret
    exact ⟨_, rfl, World.ownsRow_nil _ _ _ _, Below.refl _ _⟩
  | some ad =>
    have hcells := h.cells
    go_enter Tryd.func14, Tryd.ntmps14
    go_wp2_with (at_builtin; refine wpList_append_own _ rfl _ _ 22 rfl w.heap.size 5 i0 (.int .u8 0) 1 1 Tryd.underlying22 hi hz0 hz1 hz2 rfl (by decide) _ 0 [] rfl (World.ownsRow_nil _ _ _ _) ad len cap (bv l) rfl ?c0 hcells (bv_one l) ?c3 ?c4 (Nat.le_refl _) ?_)
    case c0 => rw [bv_length]; omega
    case c3 => omega
    case c4 => omega
    intro v' w1 hown hgrow _
    have hb1 : Below w.heap.size w w1 := (Below.refl _ _).grown hgrow (Nat.le_refl _) (by intro k hk; cases hk)
    clear hgrow hi hz0 hz1 hz2 hcells
    go_wp2
    go_ret
    exact ⟨_, rfl, hown, hb1⟩
end Go.Proofs.YtfkloilbjfleeaaDoor
namespace Go.Proofs.YtfkloilbjfleeaaDoor
open Go.RowKit
set_option linter.unusedVariables false

theorem same_step {la lb : List Int} {k : Nat} (h : la.take k = lb.take k) (ha : k < la.length) (hb : k < lb.length) (e : la.getD k 0 = lb.getD k 0) : la.take (k + 1) = lb.take (k + 1) := by
  rw [take_succ_getD la k ha, take_succ_getD lb k hb, h, e]
theorem same_not {la lb : List Int} {k : Nat} (e : la.getD k 0 ≠ lb.getD k 0) : decide (la = lb) = false := by
  rw [decide_eq_false_iff_not]; intro h; exact e (by rw [h])

set_option maxHeartbeats 400000 in
theorem same_any (a b : Option Addr) (n m c d : Nat) (la lb : List Int) (w : World) (ha : Bts w a n c la) (hb : Bts w b m d lb) :
    Calls Tryd.prog 17 #[.slice a n c, .slice b m d] w fun e w' => e = .returned (.bool (decide (la = lb))) ∧ ∃ q, w' = w.drewN q := by
  have hn := Nat.le_trans ha.le_cap ha.cap_le
  have hm := Nat.le_trans hb.le_cap hb.cap_le
  unfold maxLen at hn hm
  have hla := ha.len_eq
  have hlb := hb.len_eq
  by_cases hne : n = m
  · subst hne
    have hq : ((n : Int) != (n : Int)) = false := by simp
    have HA : Hid (la.length = n) := hla
    have HB : Hid (lb.length = n) := hlb
    clear hla hlb
    go_enter Tryd.func17, Tryd.ntmps17
    go_wp2
    go_loopw [5] (fun i wr => ∃ k : Nat, k ≤ n ∧ i = .int .i64 k ∧ la.take k = lb.take k ∧ ∃ q, wr = w.drewN q) (fun i _ => n - (intOf i).toNat)
    case atStart => exact ⟨0, Nat.zero_le _, rfl, by simp, 0, rfl⟩
    case round =>
      obtain ⟨k, hk, rfl, ht, q, rfl⟩ := hrel
      have HT : Hid (la.take k = lb.take k) := ht
      clear ht
      by_cases hlt : k < n
      · obtain ⟨b1, o1, rfl, _, hc1⟩ := ha.spot (by omega)
        obtain ⟨b2, o2, rfl, _, hc2⟩ := hb.spot (by omega)
        have hx := hc1 k hlt
        have hy := hc2 k hlt
        clear hc1 hc2
        have hki : (k : Int) < (n : Int) := by omega
        generalize hav : la.getD k 0 = av at hx
        generalize hbv : lb.getD k 0 = bw at hy
        have HAV : Hid (la.getD k 0 = av) := hav
        have HBV : Hid (lb.getD k 0 = bw) := hbv
        clear hav hbv
        by_cases he : av = bw
        · have hd : (av != bw) = false := by simpa using he
          have HE : Hid (av = bw) := he
          clear he
          go_wp2
          go_quiet (fail)
          go_wp2
          go_roundw
          case rel => exact ⟨k + 1, by omega, by go_num, same_step HT.out (by rw [HA.out]; omega) (by rw [HB.out]; omega) (by rw [HAV.out, HBV.out, HE.out]), _, rfl⟩
          case measure => simp [intOf]; omega
        · have hd : (av != bw) = true := by simpa using he
          have HE : Hid (¬ av = bw) := he
          clear he
          go_wp2
          go_quiet (fail)
          go_wp2
          go_ret
          exact ⟨ret_bool (same_not (k := k) (by rw [HAV.out, HBV.out]; exact HE.out)).symm, drew_close _ _ _⟩
      · go_wp2
        go_ret
        refine ⟨?_, q, rfl⟩
        have h1 := HT.out
        rw [List.take_of_length_le (by rw [HA.out]; omega), List.take_of_length_le (by rw [HB.out]; omega)] at h1
        exact ret_bool (decide_eq_true h1).symm
  · have hq : ((n : Int) != (m : Int)) = true := by simp; omega
    have hf : decide (la = lb) = false := by rw [decide_eq_false_iff_not]; intro h; rw [h] at hla; omega
    rw [hf]
    go_enter Tryd.func17, Tryd.ntmps17
    go_wp2
    go_ret
    exact ⟨rfl, 0, rfl⟩

theorem same_yes (a b : Option Addr) (n m c d : Nat) (l : List Int) (w : World) (ha : Bts w a n c l) (hb : Bts w b m d l) :
    Calls Tryd.prog 17 #[.slice a n c, .slice b m d] w fun e w' => e = .returned (.bool true) ∧ ∃ q, w' = w.drewN q := by
  refine (same_any a b n m c d l l w ha hb).mono ?_
  rintro e w' ⟨rfl, q, rfl⟩
  exact ⟨ret_bool (by simp), q, rfl⟩
end Go.Proofs.YtfkloilbjfleeaaDoor
namespace Go.Proofs.YtfkloilbjfleeaaDoor
open Go.RowKit
set_option linter.unusedVariables false

theorem pad_rel {w wr w1 : World} {k : Nat} {v v' : Value} {o : Obj} (hb : Below w.heap.size w wr)
    (hown : wr.ownsRow w.heap.size 5 1 v (k + 1) (bv (128 :: List.replicate k 0)))
    (h1 : w1.ownsRow w.heap.size 5 1 v' (k + 1 + 1) (bv (128 :: List.replicate k 0) ++ [.int .u8 0])) (hg : (wr.alloc o).grownBy w1 v.ownBlock) :
    w1.ownsRow w.heap.size 5 1 v' (k + 1 + 1) (bv (128 :: List.replicate (k + 1) 0)) ∧ Below w.heap.size w w1 := by
  refine ⟨by rw [rep_snoc, bv_append]; exact h1, ?_⟩
  refine (hb.alloc hb.size o).grown hg (by have := hb.size; simp; omega) ?_
  intro g hg'
  exact (hown.lt g hg').1

set_option maxHeartbeats 400000 in
theorem refpad_any (n : Int) (w : World) (h0 : 0 ≤ n) (h1 : n ≤ 18446744073709551615) :
    Calls Tryd.prog 54 #[.int .u64 n] w fun e w' => ∃ v, e = .returned v ∧ w'.ownsRow w.heap.size 5 1 v (padL n).length (bv (padL n)) ∧ Below w.heap.size w w' := by
  obtain ⟨i0, hi, hz0, hz1, hz2⟩ := info_parts Tryd.info5
  have hz := padZ_le n
  go_enter Tryd.func54, Tryd.ntmps54
  go_wp2
  go_loopw [3] (fun v wr => ∃ k : Nat, k ≤ padZ n ∧ wr.ownsRow w.heap.size 5 1 v (k + 1) (bv (128 :: List.replicate k 0)) ∧ Below w.heap.size w wr) (fun v _ => padZ n + 1 - lenOf v)
  case atStart => exact ⟨0, Nat.zero_le _, World.ownsRow_lit w #[.int .u8 128] 1 (Nat.le_refl _) (by unfold maxLen; omega) rfl, (Below.refl _ _).alloc (Nat.le_refl _) _⟩
  case round =>
    obtain ⟨k, hk, hown, hb⟩ := hrel
    obtain ⟨g, cap, rfl, hg0, hg1⟩ := owns_form hown (by omega)
    have HM : Hid (((((n + ((k : Int) + 1)) % 18446744073709551616 + 8) % 18446744073709551616) % 64 ≠ 0) ↔ k < padZ n) := pad_more n k h0 hk
    have HE : Hid ((IntKind.u64.wrap (IntKind.u64.wrap (n + ((k : Int) + 1)) + 8)).tmod 64 = (((n + ((k : Int) + 1)) % 18446744073709551616 + 8) % 18446744073709551616) % 64) := by
      show _ = _
      rw [IntKind.wrap_u64, IntKind.wrap_u64, Int.tmod_eq_emod_of_nonneg (by omega)]
    have hbyt : Byt (128 :: List.replicate k 0) := Byt.cons (by decide) (by intro c hc; rw [List.eq_of_mem_replicate hc]; decide)
    by_cases hlt : k < padZ n
    · have hc : ((IntKind.u64.wrap (IntKind.u64.wrap (n + ((k : Int) + 1)) + 8)).tmod 64 != 0) = true := by rw [HE.out, bne_iff_ne]; exact HM.out.2 hlt
      go_wp2_with (at_builtin; refine wpList_append_own _ rfl _ _ 22 rfl w.heap.size 5 i0 (.int .u8 0) 1 1 Tryd.underlying22 hi hz0 hz1 hz2 rfl (by decide) _ _ _ rfl (hown.alloc _) ⟨wr.heap.size, 0, none⟩ 1 1 [.int .u8 0] rfl rfl (cell_one_new _ _ _) (bv_one [0]) (by unfold maxLen; omega) (by omega) (by have := hb.size; simp; omega) ?_)
      intro v' w1 hown' hgrow _
      have R := pad_rel hb hown hown' hgrow
      have hlen : lenOf v' = k + 1 + 1 := by obtain ⟨g', cap', rfl, _, _⟩ := owns_form hown' (by omega); rfl
      have HL : Hid (lenOf v' = k + 1 + 1) := hlen
      clear hown' hgrow hown hb hlen
      go_wp2
      go_roundw
      case rel => exact ⟨k + 1, by omega, R.1, R.2⟩
      case measure => rw [HL.out]; simp [lenOf]; omega
    · obtain rfl : k = padZ n := by omega
      have hc : ((IntKind.u64.wrap (IntKind.u64.wrap (n + ((padZ n : Int) + 1)) + 8)).tmod 64 != 0) = false := by
        rw [HE.out, bne_eq_false_iff_eq]; exact Classical.byContradiction fun h => hlt (HM.out.1 h)
      have h8n : IntKind.u64.wrap (8 * n) = 8 * n % 18446744073709551616 := IntKind.wrap_u64 _
      go_wp2_with fail
      refine (refput_some (8 * n % 18446744073709551616) 8 _ (by decide) (by decide) (by omega) (by omega)).mono ?_
      rintro e w2 ⟨v2, rfl, hown2, hb2⟩
      obtain ⟨a2, cap2, rfl, hm2⟩ := Bts.of_owns hown2 (putL_byt _ _)
      obtain ⟨b2, off2, rfl, _, _⟩ := hm2.spot (by omega)
      have hcells := hm2.cells
      have hown1 := owns_below hown hb2
      have hbb := bstep hb hb2
      have HP : Hid (bv (128 :: List.replicate (padZ n) 0) ++ bv (putL (8 * n % 18446744073709551616) 8) = bv (padL n)) := by show _ = _; rw [← bv_append]; rfl
      have HLn : Hid ((padL n).length = padZ n + 1 + 8) := padL_length n
      have hl8 : (bv (putL (8 * n % 18446744073709551616) 8)).length = 8 * 1 := by rw [bv_length, putL_length]
      clear hown hb hb2 hown2 hm2 h8n
      generalize putL (8 * n % 18446744073709551616) 8 = t at *
      go_wp2_with (at_builtin; refine wpList_append_own _ rfl _ _ 22 rfl w.heap.size 5 i0 (.int .u8 0) 1 1 Tryd.underlying22 hi hz0 hz1 hz2 rfl (by decide) _ _ _ rfl hown1 ⟨b2, off2, none⟩ 8 cap2 (bv t) rfl hl8 hcells (bv_one t) (by unfold maxLen; omega) (by omega) hbb.size ?_)
      intro v' w3 hown' hgrow _
      have hb3 : Below w.heap.size w w3 := hbb.grown hgrow hbb.size (by intro g hg; cases hg; exact hg0)
      rw [HP.out, ← HLn.out] at hown'
      clear hown1 hgrow hbb hcells hl8
      go_wp2
      go_ret
      exact ⟨_, rfl, hown', hb3⟩
end Go.Proofs.YtfkloilbjfleeaaDoor
namespace Go.Proofs.YtfkloilbjfleeaaDoor
open Go.RowKit
set_option linter.unusedVariables false

set_option maxHeartbeats 400000 in
theorem three_any (x a b c : Int) (w : World) (hx : U32 x) (ha : -9223372036854775808 ≤ a ∧ a ≤ 9223372036854775807) (hb : -9223372036854775808 ≤ b ∧ b ≤ 9223372036854775807) (hc : -9223372036854775808 ≤ c ∧ c ≤ 9223372036854775807) :
    Calls Tryd.prog 75 #[.int .u32 x, .int .i64 a, .int .i64 b, .int .i64 c] w fun e w' => e = .returned (.int .u32 (thr x a b c)) ∧ w = w' := by
  have h1 := xr_eq (turn_u a hx) (turn_u b hx)
  have h2 := xr_eq (xr_u (turn_u a hx) (turn_u b hx)) (turn_u c hx)
  go_enter Tryd.func75, Tryd.ntmps75
  go_wp2_with fail
  refine (refturn_any x a _ hx.1 hx.2 ha.1 ha.2).mono ?_
  rintro e w' ⟨rfl, rfl⟩
  go_wp2_with fail
  refine (refturn_any x b _ hx.1 hx.2 hb.1 hb.2).mono ?_
  rintro e w' ⟨rfl, rfl⟩
  go_wp2_with fail
  refine (refturn_any x c _ hx.1 hx.2 hc.1 hc.2).mono ?_
  rintro e w' ⟨rfl, rfl⟩
  go_wp2
  go_ret
  exact ⟨rfl, rfl⟩

theorem uv_getD (l : List Int) (i : Nat) (h : i < l.length) : (uv l)[i]? = some (.int .u32 (l.getD i 0)) := by
  rw [uv, List.getElem?_map, List.getElem?_eq_getElem h, List.getD_eq_getElem?_getD, List.getElem?_eq_getElem h]; rfl
theorem keyL_length : keyL.length = 64 := rfl
theorem keyL_size : (uv keyL).toArray.size = 64 := rfl
theorem key_info : (Tryd.prog.info? 106).map (·.size) = some (uv keyL).toArray.size := by kernel_rfl
set_option maxRecDepth 100000 in
set_option maxHeartbeats 400000 in
theorem key_any (i : Nat) (w : World) (hi : i < 64) :
    Calls Tryd.prog 76 #[.int .i64 i] w fun e w' => e = .returned (.int .u32 (keyL.getD i 0)) ∧ Below w.heap.size w w' := by
  go_enter Tryd.func76, Tryd.ntmps76
  iterate 11 go_step
  refine wpList_run rfl (.agg (uv keyL).toArray) w (by kernel_rfl) ?_
  refine wpList_run rfl (.pointer (some ⟨w.heap.size, 0, none⟩)) (w.alloc (.cells (Array.replicate 64 (.int .u32 0)) 106)) (by kernel_rfl) ?_
  have ht := there_new w (Array.replicate 64 (.int .u32 0)) 106
  rw [Array.size_replicate] at ht
  refine wpList_store_mid rfl 106 _ _ rfl w.heap.size 0 (uv keyL).toArray rfl rfl (by rw [keyL_size]; exact ht) key_info (all_oneCell_toArray (uv_one keyL)) ?_
  have hc : ((w.alloc (.cells (Array.replicate 64 (.int .u32 0)) 106)).setCells w.heap.size 0 (uv keyL).toArray.toList).cell? ⟨w.heap.size, i, none⟩ = some (.int .u32 (keyL.getD i 0)) := by
    rw [List.toList_toArray, cell_stored ht (by rw [uv_length, keyL_length]) i hi]
    exact uv_getD keyL i (by rw [keyL_length]; exact hi)
  have hb : Below w.heap.size w ((w.alloc (.cells (Array.replicate 64 (.int .u32 0)) 106)).setCells w.heap.size 0 (uv keyL).toArray.toList) :=
    below_setCells ((Below.refl _ _).alloc (Nat.le_refl _) _) _ (Nat.le_refl _) _ _
  generalize (w.alloc (.cells (Array.replicate 64 (.int .u32 0)) 106)).setCells w.heap.size 0 (uv keyL).toArray.toList = W at hc hb ⊢
  clear ht
  generalize hK : keyL.getD i 0 = K at hc
  have HK : Hid (keyL.getD i 0 = K) := hK
  clear hK
  generalize (uv keyL).toArray = arr
  go_wp2
  go_ret
  exact ⟨ret_int HK.out.symm, hb⟩
set_option maxHeartbeats 400000 in
theorem reffirst_any (w : World) :
    Calls Tryd.prog 55 #[] w fun e w' => e = .returned (.agg (uv [1779033703, 3144134277, 1013904242, 2773480762, 1359893119, 2600822924, 528734635, 1541459225]).toArray) ∧ Below w.heap.size w w' := by
  go_enter Tryd.func55, Tryd.ntmps55
  go_wp2
  exact bodyPost_ret (v := .agg #[.int .u32 1779033703, .int .u32 3144134277, .int .u32 1013904242, .int .u32 2773480762, .int .u32 1359893119, .int .u32 2600822924, .int .u32 528734635, .int .u32 1541459225]) (by simp [results, Tryd.results55, go_sem]) rfl ⟨rfl, (Below.refl _ _).alloc (Nat.le_refl _) _⟩
end Go.Proofs.YtfkloilbjfleeaaDoor
namespace Go.Proofs.YtfkloilbjfleeaaDoor
open Go.RowKit
set_option linter.unusedVariables false

def ad (a b : Int) : Int := (a + b) % 4294967296
theorem ad_u (a b : Int) : U32 (ad a b) := by unfold U32 ad; omega
def nt (a : Int) : Int := 4294967295 - a
theorem nt_u {a : Int} (h : U32 a) : U32 (nt a) := by unfold U32 nt at *; omega
def wsum (p q r x y : Int) : Int := ad (ad (ad p x) q) y
def sg0 (v : Int) : Int := xr (xr (turnV v 7) (turnV v 18)) (v / 8)
def sg1 (v : Int) : Int := xr (xr (turnV v 17) (turnV v 19)) (v / 1024)
theorem div_u {v : Int} (h : U32 v) (d : Int) (hd : 0 < d) : U32 (v / d) := by
  have h1 := h.1; have h2 := h.2
  exact ⟨Int.ediv_nonneg h1 (Int.le_of_lt hd), Int.lt_of_le_of_lt (Int.ediv_le_self _ h1) h2⟩
theorem sg0_u {v : Int} (h : U32 v) : U32 (sg0 v) := xr_u (xr_u (turn_u _ h) (turn_u _ h)) (div_u h 8 (by decide))
theorem sg1_u {v : Int} (h : U32 v) : U32 (sg1 v) := xr_u (xr_u (turn_u _ h) (turn_u _ h)) (div_u h 1024 (by decide))
/-- the number w[i], those ahead being l -/
def wx (l : List Int) (i : Nat) : Int := ad (ad (ad (l.getD (i - 16) 0) (sg0 (l.getD (i - 15) 0))) (l.getD (i - 7) 0)) (sg1 (l.getD (i - 2) 0))
/-- four bytes as a number -/
def w4 (b : List Int) (i : Nat) : Int := getV ((b.drop (4 * i)).take 4)
/-- w[0] to w[k - 1] -/
def sch (b : List Int) : Nat → List Int
  | 0 => []
  | k + 1 => sch b k ++ [if k < 16 then w4 b k else wx (sch b k) k]
theorem sch_length (b : List Int) (k : Nat) : (sch b k).length = k := by
  induction k with
  | zero => rfl
  | succ k ih => simp [sch, ih]
theorem w4_u (b : List Int) (i : Nat) (h : Byt b) : U32 (w4 b i) := by
  unfold w4
  have hb : Byt ((b.drop (4 * i)).take 4) := fun c hc => h c (List.mem_of_mem_drop (List.mem_of_mem_take hc))
  have h1 := getV_bd _ hb
  have h2 : ((b.drop (4 * i)).take 4).length ≤ 4 := List.length_take_le _ _
  rcases (by omega : ((b.drop (4 * i)).take 4).length = 0 ∨ ((b.drop (4 * i)).take 4).length = 1 ∨ ((b.drop (4 * i)).take 4).length = 2 ∨ ((b.drop (4 * i)).take 4).length = 3 ∨ ((b.drop (4 * i)).take 4).length = 4) with e | e | e | e | e <;> rw [e] at h1 <;> exact ⟨h1.1, by omega⟩
theorem sch_u (b : List Int) (k : Nat) (h : Byt b) : U32s (sch b k) := by
  induction k with
  | zero => intro c hc; simp [sch] at hc
  | succ k ih =>
    intro c hc
    rcases List.mem_append.1 hc with h' | h'
    · exact ih c h'
    · simp at h'; subst h'; split
      · exact w4_u b k h
      · exact ad_u _ _

structure St where
  a : Int
  b : Int
  c : Int
  d : Int
  e : Int
  f : Int
  g : Int
  h : Int
structure StU (s : St) : Prop where
  a : U32 s.a
  b : U32 s.b
  c : U32 s.c
  d : U32 s.d
  e : U32 s.e
  f : U32 s.f
  g : U32 s.g
  h : U32 s.h
def rT (k w : Int) (s : St) : Int := ad (ad (ad (ad s.h (thr s.e 6 11 25)) (xr (an s.e s.f) (an (nt s.e) s.g))) k) w
def rU (s : St) : Int := ad (thr s.a 2 13 22) (xr (xr (an s.a s.b) (an s.a s.c)) (an s.b s.c))
def rnd (k w : Int) (s : St) : St := ⟨ad (rT k w s) (rU s), s.a, s.b, s.c, ad s.d (rT k w s), s.e, s.f, s.g⟩
theorem rnd_u {s : St} (k w : Int) (h : StU s) : StU (rnd k w s) := ⟨ad_u _ _, h.a, h.b, h.c, ad_u _ _, h.e, h.f, h.g⟩
def rnds (b : List Int) (s : St) : Nat → St
  | 0 => s
  | i + 1 => rnd (keyL.getD i 0) ((sch b 64).getD i 0) (rnds b s i)
theorem rnds_u (b : List Int) {s : St} (h : StU s) (i : Nat) : StU (rnds b s i) := by
  induction i with
  | zero => exact h
  | succ i ih => exact rnd_u _ _ ih
def St.plus (s t : St) : St := ⟨ad s.a t.a, ad s.b t.b, ad s.c t.c, ad s.d t.d, ad s.e t.e, ad s.f t.f, ad s.g t.g, ad s.h t.h⟩
/-- what 64 bytes make of eight numbers -/
def blk (s : St) (b : List Int) : St := s.plus (rnds b s 64)
theorem blk_u (s : St) (b : List Int) : StU (blk s b) := ⟨ad_u _ _, ad_u _ _, ad_u _ _, ad_u _ _, ad_u _ _, ad_u _ _, ad_u _ _, ad_u _ _⟩
def St.cells (s : St) : Array Value := #[.int .u32 s.a, .int .u32 s.b, .int .u32 s.c, .int .u32 s.d, .int .u32 s.e, .int .u32 s.f, .int .u32 s.g, .int .u32 s.h]
def st0 : St := ⟨1779033703, 3144134277, 1013904242, 2773480762, 1359893119, 2600822924, 528734635, 1541459225⟩
theorem st0_u : StU st0 := by constructor <;> exact ⟨by decide, by decide⟩
/-- the numbers behind i blocks of the bytes l -/
def chn (l : List Int) : Nat → St
  | 0 => st0
  | i + 1 => blk (chn l i) ((l.drop (64 * i)).take 64)
theorem chn_u (l : List Int) (i : Nat) : StU (chn l i) := by
  cases i with
  | zero => exact st0_u
  | succ i => exact blk_u _ _
/-- the eight numbers as a list -/
def St.list (s : St) : List Int := [s.a, s.b, s.c, s.d, s.e, s.f, s.g, s.h]
theorem St.list_u {s : St} (h : StU s) : U32s s.list := by
  intro c hc
  simp only [St.list, List.mem_cons, List.not_mem_nil, or_false] at hc
  rcases hc with rfl | rfl | rfl | rfl | rfl | rfl | rfl | rfl
  · exact h.a
  · exact h.b
  · exact h.c
  · exact h.d
  · exact h.e
  · exact h.f
  · exact h.g
  · exact h.h
theorem St.cells_list (s : St) : s.cells = (uv s.list).toArray := rfl
/-- numbers as bytes, four each -/
def digL : List Int → List Int
  | [] => []
  | x :: r => putL x 4 ++ digL r
/-- a text and what stands behind it -/
def allL (b : List Int) : List Int := b ++ padL b.length
/-- the sum of a text -/
def sumL (b : List Int) : List Int := digL (chn (allL b) ((allL b).length / 64)).list
theorem digL_length (l : List Int) : (digL l).length = 4 * l.length := by
  induction l with
  | nil => rfl
  | cons x r ih => simp [digL, putL_length, ih]; omega
theorem sumL_length (b : List Int) : (sumL b).length = 32 := by unfold sumL; rw [digL_length]; rfl
theorem digL_byt (l : List Int) : Byt (digL l) := by
  induction l with
  | nil => exact Byt.nil
  | cons x r ih => exact Byt.append (putL_byt _ _) ih
theorem allL_byt {b : List Int} (h : Byt b) : Byt (allL b) := h.append (padL_byt _)
theorem allL_64 (b : List Int) : (allL b).length % 64 = 0 := by
  unfold allL; rw [List.length_append, padL_length]; unfold padZ; omega
theorem cells_size (s : St) : s.cells.size = 8 := rfl
theorem cells_one (s : St) : s.cells.all (·.oneCell') = true := by simp [St.cells, Value.oneCell']
theorem cells_info (s : St) : (Tryd.prog.info? 76).map (·.size) = some s.cells.size := by kernel_rfl
end Go.Proofs.YtfkloilbjfleeaaDoor
namespace Go.Proofs.YtfkloilbjfleeaaDoor
open Go.RowKit
set_option linter.unusedVariables false

theorem Tryd.info32 : (Tryd.prog.info? 75).map (fun i => (i.zero, i.size, i.bytes)) = some (some (.int .u32 0), 1, 4) := by kernel_rfl

/-- a piece of a row of bytes -/
theorem Bts.piece {w : World} {g n : Nat} {b : List Int} (hc : ∀ j, j < b.length → w.cell? ⟨g, j, none⟩ = some (.int .u8 (b.getD j 0))) (hb : Byt b) (hg : g < w.heap.size) (o m cap : Nat) (h : o + m ≤ b.length) (hcap : m ≤ cap) (hm : cap ≤ maxLen) :
    Bts w (some ⟨g, o, none⟩) m cap ((b.drop o).take m) := by
  refine ⟨by rw [List.length_take, List.length_drop]; omega, fun c hc' => hb c (List.mem_of_mem_drop (List.mem_of_mem_take hc')), hcap, hm, (fun hh => by cases hh), fun _ => ⟨g, o, rfl, hg, fun i hi => ?_⟩⟩
  rw [hc (o + i) (by omega)]
  simp only [List.getD_eq_getElem?_getD, List.getElem?_take, List.getElem?_drop, if_pos hi]
theorem bv_cell {w : World} {g : Nat} {b : List Int} {t : TypeId} (hg : w.heap[g]? = some (.cells (bv b).toArray t (0, 0))) (j : Nat) (hj : j < b.length) : w.cell? ⟨g, j, none⟩ = some (.int .u8 (b.getD j 0)) := by
  rw [cell_of_row w g j _ t (0, 0) hg]
  simp [bv, hj, List.getD_eq_getElem?_getD]
theorem sch_lo (b : List Int) (k : Nat) (h : k < 16) : sch b (k + 1) = sch b k ++ [w4 b k] := by simp [sch, h]
theorem sch_hi (b : List Int) (k : Nat) (h : 16 ≤ k) : sch b (k + 1) = sch b k ++ [wx (sch b k) k] := by simp [sch, show ¬ k < 16 by omega]
/-- behind an append of one number to a row of numbers of 32 bits -/
theorem row_rel {B : Nat} {w wr w1 : World} {p q : List Int} {n : Nat} {v v' : Value} {c : Int} {o : Obj} (hb : Below B w wr) (hB : B ≤ wr.heap.size)
    (hown : wr.ownsRow B 75 1 v n (uv p))
    (h1 : w1.ownsRow B 75 1 v' (n + 1) (uv p ++ [.int .u32 c])) (hg : (wr.alloc o).grownBy w1 v.ownBlock) (hq : q = p ++ [c]) :
    w1.ownsRow B 75 1 v' (n + 1) (uv q) ∧ Below B w w1 := by
  refine ⟨by rw [hq, uv_append]; exact h1, ?_⟩
  refine (hb.alloc hB o).grown hg (by simp; omega) ?_
  intro g hg'
  exact (hown.lt g hg').1

theorem row_cell {w : World} {base g n cap : Nat} {p : List Int} (h : w.ownsRow base 75 1 (.slice (some ⟨g, 0, none⟩) n cap) n (uv p)) (hp : p.length = n) (j : Nat) (hj : j < n) : w.cell? ⟨g, j, none⟩ = some (.int .u32 (p.getD j 0)) := by
  rw [h.cellAt j (by omega)]; exact uv_getD p j (by omega)
theorem st_cell {w : World} {N : Nat} {s : St} {t : TypeId} (h : w.heap[N]? = some (.cells s.cells t (0, 0))) :
    w.cell? ⟨N, 0, none⟩ = some (.int .u32 s.a) ∧ w.cell? ⟨N, 1, none⟩ = some (.int .u32 s.b) ∧ w.cell? ⟨N, 2, none⟩ = some (.int .u32 s.c) ∧ w.cell? ⟨N, 3, none⟩ = some (.int .u32 s.d) ∧
    w.cell? ⟨N, 4, none⟩ = some (.int .u32 s.e) ∧ w.cell? ⟨N, 5, none⟩ = some (.int .u32 s.f) ∧ w.cell? ⟨N, 6, none⟩ = some (.int .u32 s.g) ∧ w.cell? ⟨N, 7, none⟩ = some (.int .u32 s.h) := by
  refine ⟨?_, ?_, ?_, ?_, ?_, ?_, ?_, ?_⟩ <;> rw [cell_of_row w N _ _ t (0, 0) h] <;> rfl
theorem keep_cell {wr wX w1 : World} {p : Addr} {v : Value} (h : wX.cell? p = some v ∧ Below wr.heap.size wr wX) (hb : Below wX.heap.size wX w1) : w1.cell? p = some v ∧ Below wr.heap.size wr w1 :=
  ⟨(hb.cell (block_lt_of_cell h.1)).trans h.1, bstep h.2 hb⟩
theorem not_eq {e : Int} (h : U32 e) : bits .xor .u32 IntKind.u32.max e = nt e := by
  have h1 := h.1; have h2 := h.2
  have hm : IntKind.u32.max = 4294967295 := rfl
  rw [hm, u32_xor _ _ (by decide) (by decide) h1 h2]
  obtain ⟨x, rfl⟩ := Int.eq_ofNat_of_zero_le h1
  have hx : x < 2 ^ 32 := by omega
  have e : 4294967295 ^^^ x = 4294967295 - x := by
    have := BitVec.toNat_not (x := BitVec.ofNat 32 x)
    rw [BitVec.toNat_ofNat, Nat.mod_eq_of_lt hx] at this
    have h3 : (~~~ (BitVec.ofNat 32 x)) = BitVec.allOnes 32 ^^^ BitVec.ofNat 32 x := by rw [BitVec.allOnes_xor]
    rw [h3, BitVec.toNat_xor, BitVec.toNat_allOnes, BitVec.toNat_ofNat, Nat.mod_eq_of_lt hx] at this
    simpa using this
  show ((Int.toNat 4294967295 ^^^ Int.toNat (x : Int) : Nat) : Int) = _
  rw [Int.toNat_natCast, show Int.toNat 4294967295 = 4294967295 from rfl, e]
  unfold nt; omega
end Go.Proofs.YtfkloilbjfleeaaDoor
namespace Go.Proofs.YtfkloilbjfleeaaDoor
open Go.RowKit
set_option linter.unusedVariables false
def leastV (n lo hi : Int) : Int := if n < lo then lo else if hi < n then hi else n
set_option maxRecDepth 100000 in
theorem least_bd (n lo hi : Int) (h : lo ≤ hi) : lo ≤ leastV n lo hi ∧ leastV n lo hi ≤ hi := by
  unfold leastV; split
  · omega
  · split <;> omega
set_option maxRecDepth 100000 in
theorem least_any (n lo hi : Int) (w : World) :
    Calls Tryd.prog 23 #[.int .i64 n, .int .i64 lo, .int .i64 hi] w fun e w' => e = .returned (.int .i64 (leastV n lo hi)) ∧ w = w' := by
  unfold leastV
  by_cases h1 : n < lo
  · rw [if_pos h1]
    go_enter Tryd.func23, Tryd.ntmps23
    go_wp2
    go_ret
    exact ⟨rfl, rfl⟩
  · rw [if_neg h1]
    by_cases h2 : hi < n
    · rw [if_pos h2]
      go_enter Tryd.func23, Tryd.ntmps23
      go_wp2
      go_ret
      exact ⟨rfl, rfl⟩
    · rw [if_neg h2]
      go_enter Tryd.func23, Tryd.ntmps23
      go_wp2
      go_ret
      exact ⟨rfl, rfl⟩
end Go.Proofs.YtfkloilbjfleeaaDoor
