/- The plain mathematics of short numbers: no Go text. The plain mathematics of turned bits and of lowest bits: no Go text. -/

namespace Go.Proofs.YtbednfacipphhaaDoor

/-- x as a short number, of at most f + 1 bytes -/
def varF : Nat → Int → List Int
  | 0, x => [x]
  | f + 1, x => if x < 128 then [x] else (x % 128 + 128) :: varF f (x / 128)
/-- what is read from the place i on, X being what the bytes ahead are -/
def rd : List Int → Nat → Int → Int × Int × Int
  | [], _, _ => (0, 0, 3)
  | c :: t, i, X => if i = 9 ∧ 1 < c then (0, 0, 4) else if 128 ≤ c then rd t (i + 1) (X + c % 128 * 128 ^ i) else if c = 0 ∧ 0 < i then (0, 0, 4) else (X + c % 128 * 128 ^ i, (i : Int) + 1, 0)
/-- seven bits a byte, the lowest first -/
def valL : List Int → Int
  | [] => 0
  | c :: t => c % 128 + 128 * valL t

set_option maxRecDepth 100000 in
theorem p128 (k : Nat) : (0 : Int) < 128 ^ k := Int.pow_pos (by decide)
set_option maxRecDepth 100000 in
theorem p128_two (k : Nat) : (2 : Int) ^ (7 * k) = 128 ^ k := by rw [Int.pow_mul]; rfl
set_option maxRecDepth 100000 in
theorem p128_le (k : Nat) (h : k ≤ 9) : (128 : Int) ^ k ≤ 9223372036854775808 := by
  have e : (9223372036854775808 : Int) = 128 ^ k * 128 ^ (9 - k) := by rw [← Int.pow_add, show k + (9 - k) = 9 from by omega]; rfl
  have h1 := p128 (9 - k)
  have h2 := Int.mul_le_mul_of_nonneg_left (show (1 : Int) ≤ 128 ^ (9 - k) by omega) (Int.le_of_lt (p128 k))
  rw [Int.mul_one, ← e] at h2
  exact h2
set_option maxRecDepth 100000 in
theorem p128_le8 (k : Nat) (h : k ≤ 8) : (128 : Int) ^ k ≤ 72057594037927936 := by
  have h1 := p128_le (k + 1) (by omega)
  rw [Int.pow_succ] at h1
  omega
set_option maxRecDepth 100000 in
theorem mul_bd {a P : Int} (h0 : 0 ≤ a) (h1 : a < 128) (hp : 0 < P) : 0 ≤ a * P ∧ a * P ≤ 127 * P :=
  ⟨Int.mul_nonneg h0 (Int.le_of_lt hp), Int.mul_le_mul_of_nonneg_right (by omega) (Int.le_of_lt hp)⟩

set_option maxRecDepth 100000 in
theorem varF_small (f : Nat) (x : Int) (h : x < 128) : varF f x = [x] := by
  cases f with
  | zero => rfl
  | succ f => simp [varF, h]
set_option maxRecDepth 100000 in
theorem varF_big (f : Nat) (x : Int) (h : ¬ x < 128) : varF (f + 1) x = (x % 128 + 128) :: varF f (x / 128) := by simp [varF, h]
set_option maxRecDepth 100000 in
theorem varF_length (f : Nat) (x : Int) : 1 ≤ (varF f x).length ∧ (varF f x).length ≤ f + 1 := by
  induction f generalizing x with
  | zero => simp [varF]
  | succ f ih =>
    by_cases h : x < 128
    · simp [varF, h]
    · have := ih (x / 128)
      rw [varF_big f x h, List.length_cons]; omega
set_option maxRecDepth 100000 in
theorem varF_byt (f : Nat) (x : Int) (h0 : 0 ≤ x) (h : x < 128 ^ (f + 1)) : ∀ c ∈ varF f x, 0 ≤ c ∧ c ≤ 255 := by
  induction f generalizing x with
  | zero =>
    intro c hc
    have h' : x < 128 := h
    simp [varF] at hc; omega
  | succ f ih =>
    by_cases hs : x < 128
    · intro c hc; rw [varF_small _ x hs] at hc; simp at hc; omega
    · intro c hc
      rw [varF_big f x hs] at hc
      rcases List.mem_cons.1 hc with rfl | hc'
      · omega
      · refine ih (x / 128) (by omega) ?_ c hc'
        rw [Int.pow_succ] at h
        omega

set_option maxRecDepth 100000 in
theorem rd_bd (l : List Int) (i : Nat) (X : Int) (hb : ∀ c ∈ l, 0 ≤ c ∧ c ≤ 255) (hi : i ≤ 9) (h0 : 0 ≤ X) (h1 : X < 128 ^ i) : 0 ≤ (rd l i X).1 ∧ (rd l i X).1 ≤ 18446744073709551615 := by
  induction l generalizing i X with
  | nil => simp [rd]
  | cons c t ih =>
    have hc := hb c (by simp)
    have hp := p128 i
    have hm := mul_bd (a := c % 128) (by omega) (by omega) hp
    unfold rd
    by_cases c1 : i = 9 ∧ 1 < c
    · rw [if_pos c1]; simp
    · rw [if_neg c1]
      by_cases c2 : 128 ≤ c
      · rw [if_pos c2]
        refine ih (i + 1) _ (fun d hd => hb d (by simp [hd])) (by omega) (by omega) ?_
        rw [Int.pow_succ]; omega
      · rw [if_neg c2]
        by_cases c3 : c = 0 ∧ 0 < i
        · rw [if_pos c3]; simp
        · rw [if_neg c3]
          by_cases c4 : i = 9
          · subst c4
            have hcc : c % 128 = 0 ∨ c % 128 = 1 := by omega
            have e9 : (128 : Int) ^ 9 = 9223372036854775808 := rfl
            rw [e9] at h1 ⊢
            rcases hcc with h | h <;> rw [h] <;> simp <;> omega
          · have h8 := p128_le8 i (by omega)
            simp only []
            generalize c % 128 * 128 ^ i = T at *
            omega
set_option maxRecDepth 100000 in
/-- what is not read is nothing -/
theorem rd_err (l : List Int) (i : Nat) (X : Int) (h : (rd l i X).2.2 ≠ 0) : (rd l i X).1 = 0 ∧ (rd l i X).2.1 = 0 := by
  induction l generalizing i X with
  | nil => simp [rd]
  | cons c t ih =>
    unfold rd at h ⊢
    split
    · simp
    · rename_i c1
      rw [if_neg c1] at h
      split
      · rename_i c2
        rw [if_pos c2] at h
        exact ih _ _ h
      · rename_i c2
        rw [if_neg c2] at h
        split
        · simp
        · rename_i c3
          rw [if_neg c3] at h
          exact absurd rfl h
set_option maxRecDepth 100000 in
theorem rd_code (l : List Int) (i : Nat) (X : Int) : (rd l i X).2.2 = 0 ∨ (rd l i X).2.2 = 3 ∨ (rd l i X).2.2 = 4 := by
  induction l generalizing i X with
  | nil => simp [rd]
  | cons c t ih =>
    unfold rd
    split
    · simp
    · split
      · exact ih _ _
      · split <;> simp

set_option maxRecDepth 100000 in
/-- what is written short is read, whatever stands behind -/
theorem rd_varF (f : Nat) (x : Int) (i : Nat) (X : Int) (t : List Int) (h0 : 0 ≤ x) (h : x < 128 ^ (f + 1)) (hi : i + f ≤ 9) (hz : 0 < i → x ≠ 0) (hlim : x * 128 ^ i ≤ 18446744073709551615) :
    rd (varF f x ++ t) i X = (X + x * 128 ^ i, (i : Int) + (varF f x).length, 0) := by
  induction f generalizing x i X with
  | zero =>
    have h' : x < 128 := h
    have hc9 : ¬ (i = 9 ∧ 1 < x) := by
      rintro ⟨rfl, h2⟩
      rw [show (128 : Int) ^ 9 = 9223372036854775808 from rfl] at hlim; omega
    have hc0 : ¬ (x = 0 ∧ 0 < i) := fun h => hz h.2 h.1
    simp only [varF, List.cons_append, List.nil_append, rd]
    rw [if_neg hc9, if_neg (by omega), if_neg hc0, Int.emod_eq_of_lt h0 h']
    simp
  | succ f ih =>
    by_cases hs : x < 128
    · rw [varF_small _ x hs]
      have hc9 : ¬ (i = 9 ∧ 1 < x) := by omega
      have hc0 : ¬ (x = 0 ∧ 0 < i) := fun h => hz h.2 h.1
      simp only [List.cons_append, List.nil_append, rd]
      rw [if_neg hc9, if_neg (by omega), if_neg hc0, Int.emod_eq_of_lt h0 hs]
      simp
    · rw [varF_big f x hs]
      have hc9 : ¬ (i = 9 ∧ 1 < x % 128 + 128) := by omega
      simp only [List.cons_append, rd]
      rw [if_neg hc9, if_pos (by omega)]
      have hp := p128 i
      have e1 : x / 128 * 128 ^ (i + 1) = x / 128 * 128 * 128 ^ i := by rw [Int.pow_succ, Int.mul_comm (128 ^ i) 128, Int.mul_assoc]
      have e2 : x / 128 * 128 * 128 ^ i ≤ x * 128 ^ i := Int.mul_le_mul_of_nonneg_right (by omega) (Int.le_of_lt hp)
      rw [ih (x / 128) (i + 1) _ (by omega) (by rw [Int.pow_succ] at h; omega) (by omega) (by omega) (by rw [e1]; omega)]
      have e3 : x = x % 128 + x / 128 * 128 := by omega
      have e4 : x * 128 ^ i = x % 128 * 128 ^ i + x / 128 * 128 * 128 ^ i := by
        conv => lhs; rw [e3]
        rw [Int.add_mul]
      rw [e1, e4, show (x % 128 + 128) % 128 = x % 128 from by omega, List.length_cons]
      refine Prod.ext ?_ (Prod.ext ?_ rfl)
      · simp only []; omega
      · simp only []; omega

set_option maxRecDepth 100000 in
/-- what is read, written again, is what was read -/
theorem rd_inv (l : List Int) (i : Nat) (X x n : Int) (hb : ∀ c ∈ l, 0 ≤ c ∧ c ≤ 255) (hi : i ≤ 9) (h : rd l i X = (x, n, 0)) :
    ∃ (m : Nat) (y : Int), 1 ≤ m ∧ m ≤ l.length ∧ n = (i : Int) + m ∧ 0 ≤ y ∧ x = X + y * 128 ^ i ∧ varF (9 - i) y = l.take m ∧ (0 < i → y ≠ 0) := by
  induction l generalizing i X with
  | nil => simp [rd] at h
  | cons c t ih =>
    have hc := hb c (by simp)
    unfold rd at h
    by_cases c1 : i = 9 ∧ 1 < c
    · rw [if_pos c1] at h; simp at h
    · rw [if_neg c1] at h
      by_cases c2 : 128 ≤ c
      · rw [if_pos c2] at h
        obtain ⟨m, y, h1, h2, h3, h4, h5, h6, h7⟩ := ih (i + 1) _ (fun d hd => hb d (by simp [hd])) (by omega) h
        have hy : y ≠ 0 := h7 (by omega)
        refine ⟨m + 1, c % 128 + 128 * y, by omega, by rw [List.length_cons]; omega, by omega, by omega, ?_, ?_, by omega⟩
        · rw [h5, Int.pow_succ, Int.add_mul, Int.mul_right_comm 128 y, Int.mul_comm (128 * 128 ^ i) y, Int.mul_comm 128 (128 ^ i)]; omega
        · obtain ⟨f, hf⟩ : ∃ f, 9 - i = f + 1 := ⟨8 - i, by omega⟩
          rw [hf, varF_big f _ (by omega), List.take_succ_cons, show (c % 128 + 128 * y) % 128 + 128 = c from by omega, show (c % 128 + 128 * y) / 128 = y from by omega, ← h6, show 9 - (i + 1) = f from by omega]
      · rw [if_neg c2] at h
        by_cases c3 : c = 0 ∧ 0 < i
        · rw [if_pos c3] at h; simp at h
        · rw [if_neg c3] at h
          simp only [Prod.mk.injEq] at h
          refine ⟨1, c, Nat.le_refl _, by simp, by omega, hc.1, ?_, ?_, fun hi0 hc0 => c3 ⟨hc0, hi0⟩⟩
          · rw [← h.1, Int.emod_eq_of_lt hc.1 (by omega)]
          · rw [varF_small _ c (by omega)]; simp

set_option maxRecDepth 100000 in
theorem valL_append (a b : List Int) : valL (a ++ b) = valL a + 128 ^ a.length * valL b := by
  induction a with
  | nil => simp [valL]
  | cons c t ih => simp only [List.cons_append, valL, ih, List.length_cons, Int.pow_succ]; rw [Int.mul_add, ← Int.mul_assoc, Int.mul_comm 128 (128 ^ t.length)]; omega
set_option maxRecDepth 100000 in
theorem valL_bd (l : List Int) : 0 ≤ valL l ∧ valL l < 128 ^ l.length := by
  induction l with
  | nil => simp [valL]
  | cons c t ih => simp only [valL, List.length_cons, Int.pow_succ]; omega
set_option maxRecDepth 100000 in
theorem valL_drop_le (l : List Int) (m : Nat) : valL (l.drop m) ≤ valL l := by
  have h := valL_append (l.take m) (l.drop m)
  rw [List.take_append_drop] at h
  have h1 := valL_bd (l.take m)
  have h2 := valL_bd (l.drop m)
  have hp := p128 (l.take m).length
  have h3 := Int.mul_le_mul_of_nonneg_right (show (1 : Int) ≤ 128 ^ (l.take m).length by omega) h2.1
  omega
end Go.Proofs.YtbednfacipphhaaDoor
namespace Go.Proofs.YtbednfacipphhaaDoor

/-- one place towards the low end -/
def stp (y : Int) : Int := y / 2 + y % 2 * 2147483648
/-- k places -/
def rot : Nat → Int → Int
  | 0, x => x
  | k + 1, x => stp (rot k x)
/-- k places at once, k up to 32 -/
def trn (x : Int) (k : Nat) : Int := x / 2 ^ k + x % 2 ^ k * 2 ^ (32 - k)

set_option maxRecDepth 100000 in
theorem pow_pos2 (k : Nat) : (0 : Int) < 2 ^ k := Int.pow_pos (by decide)
set_option maxRecDepth 100000 in
theorem stp_bd (y : Int) (h0 : 0 ≤ y) (h1 : y < 4294967296) : 0 ≤ stp y ∧ stp y < 4294967296 := by unfold stp; omega
set_option maxRecDepth 100000 in
theorem rot_bd (k : Nat) (x : Int) (h0 : 0 ≤ x) (h1 : x < 4294967296) : 0 ≤ rot k x ∧ rot k x < 4294967296 := by
  induction k with
  | zero => exact ⟨h0, h1⟩
  | succ k ih => exact stp_bd _ ih.1 ih.2
set_option maxRecDepth 100000 in
theorem mod_pow_succ (x : Int) (k : Nat) : x % 2 ^ (k + 1) = x % 2 ^ k + 2 ^ k * (x / 2 ^ k % 2) := by
  rw [Int.pow_succ]
  have hp := pow_pos2 k
  generalize (2 : Int) ^ k = p at hp
  have e1 := Int.emod_add_mul_ediv x p
  have e2 := Int.emod_add_mul_ediv (x / p) 2
  have r1 := Int.emod_nonneg x (Int.ne_of_gt hp)
  have r2 := Int.emod_lt_of_pos x hp
  have hx : x = (x % p + p * (x / p % 2)) + (p * 2) * (x / p / 2) := by
    conv => lhs; rw [← e1, ← e2]
    rw [Int.mul_add, Int.mul_assoc, Int.add_assoc]
  have hq : x / p % 2 = 0 ∨ x / p % 2 = 1 := by omega
  have hlo : 0 ≤ x % p + p * (x / p % 2) := by rcases hq with h | h <;> rw [h] <;> omega
  have hhi : x % p + p * (x / p % 2) < p * 2 := by rcases hq with h | h <;> rw [h] <;> omega
  conv => lhs; rw [hx]
  rw [Int.add_mul_emod_self_left, Int.emod_eq_of_lt hlo hhi]
set_option maxRecDepth 100000 in
theorem div_pow_succ (x : Int) (k : Nat) : x / 2 ^ (k + 1) = x / 2 ^ k / 2 := by
  rw [Int.pow_succ, Int.ediv_ediv_of_nonneg (Int.le_of_lt (pow_pos2 k))]
set_option maxRecDepth 100000 in
theorem trn_zero (x : Int) : trn x 0 = x := by simp [trn, Int.emod_one]
set_option maxRecDepth 100000 in
theorem trn_succ (x : Int) (k : Nat) (hk : k < 32) : trn x (k + 1) = stp (trn x k) := by
  unfold trn stp
  rw [mod_pow_succ, div_pow_succ]
  obtain ⟨m, hm⟩ : ∃ m, m = 31 - k := ⟨_, rfl⟩
  rw [show 32 - (k + 1) = m from by omega, show 32 - k = m + 1 from by omega, Int.pow_succ]
  have hPM : (2 : Int) ^ k * 2 ^ m = 2147483648 := by rw [← Int.pow_add, show k + m = 31 from by omega]; rfl
  generalize (2 : Int) ^ k = P at hPM
  generalize (2 : Int) ^ m = M at hPM
  generalize x / P = Q
  generalize x % P = R
  have e1 : (R + P * (Q % 2)) * M = R * M + Q % 2 * 2147483648 := by
    rw [Int.add_mul, Int.mul_right_comm, hPM, Int.mul_comm 2147483648]
  have e2 : R * (M * 2) = R * M * 2 := by rw [Int.mul_assoc]
  rw [e1, e2]
  generalize R * M = T
  omega
set_option maxRecDepth 100000 in
theorem rot_trn (x : Int) (k : Nat) (hk : k ≤ 32) : rot k x = trn x k := by
  induction k with
  | zero => rw [trn_zero]; rfl
  | succ k ih => rw [trn_succ x k (by omega), ← ih (by omega)]; rfl
set_option maxRecDepth 100000 in
theorem rot_32 (x : Int) (h0 : 0 ≤ x) (h1 : x < 4294967296) : rot 32 x = x := by
  rw [rot_trn x 32 (Nat.le_refl _)]; unfold trn
  rw [show (2 : Int) ^ 32 = 4294967296 from rfl, show (2 : Int) ^ (32 - 32) = 1 from rfl]; omega
set_option maxRecDepth 100000 in
theorem rot_add (a b : Nat) (x : Int) : rot b (rot a x) = rot (a + b) x := by
  induction b with
  | zero => rfl
  | succ b ih => show stp (rot b (rot a x)) = stp (rot (a + b) x); rw [ih]
set_option maxRecDepth 100000 in
theorem rot_add32 (a : Nat) (x : Int) (h0 : 0 ≤ x) (h1 : x < 4294967296) : rot (a + 32) x = rot a x := by
  rw [← rot_add, rot_32 _ (rot_bd a x h0 h1).1 (rot_bd a x h0 h1).2]
/-- by any number, modulo 32 -/
def turnV (x n : Int) : Int := rot (n % 32).toNat x
set_option maxRecDepth 100000 in
theorem turn_bd (x n : Int) (h0 : 0 ≤ x) (h1 : x < 4294967296) : 0 ≤ turnV x n ∧ turnV x n < 4294967296 := rot_bd _ x h0 h1
set_option maxRecDepth 100000 in
theorem turn_add (x a b : Int) (h0 : 0 ≤ x) (h1 : x < 4294967296) : turnV (turnV x a) b = turnV x (a + b) := by
  unfold turnV
  rw [rot_add]
  by_cases h : a % 32 + b % 32 < 32
  · rw [show (a % 32).toNat + (b % 32).toNat = ((a + b) % 32).toNat from by omega]
  · rw [show (a % 32).toNat + (b % 32).toNat = ((a + b) % 32).toNat + 32 from by omega, rot_add32 _ x h0 h1]
set_option maxRecDepth 100000 in
theorem turn_zero (x n : Int) (h : n % 32 = 0) : turnV x n = x := by unfold turnV; rw [h]; rfl

set_option maxRecDepth 100000 in
theorem or_disj (i x y : Nat) (hx : x % 2 ^ i = 0) (hy : y < 2 ^ i) : y ||| x = y + x := by
  obtain ⟨q, rfl⟩ : ∃ q, x = 2 ^ i * q := ⟨x / 2 ^ i, by have := Nat.div_add_mod x (2 ^ i); omega⟩
  rw [Nat.or_comm, ← Nat.two_pow_add_eq_or_of_lt hy, Nat.add_comm]
set_option maxRecDepth 100000 in
/-- the two pieces that Turn joins -/
theorem turn_join (x : Nat) (k : Nat) (hk : k ≤ 32) (hx : x < 4294967296) : x / 2 ^ k ||| x * 2 ^ (32 - k) % 4294967296 = x / 2 ^ k + x % 2 ^ k * 2 ^ (32 - k) := by
  have hP : 2 ^ k * 2 ^ (32 - k) = 4294967296 := by rw [← Nat.pow_add, show k + (32 - k) = 32 from by omega]
  have hm : x * 2 ^ (32 - k) % 4294967296 = x % 2 ^ k * 2 ^ (32 - k) := by rw [← hP, Nat.mul_mod_mul_right]
  rw [hm]
  refine or_disj (32 - k) _ _ (by rw [Nat.mul_mod_left]) ?_
  rw [Nat.div_lt_iff_lt_mul (Nat.pow_pos (by decide)), Nat.mul_comm, hP]; exact hx

set_option maxRecDepth 100000 in
theorem flip31 (y : Nat) (h : y < 2147483648) : y + 2147483648 = y ^^^ 2147483648 := by
  have e := or_disj 31 2147483648 y (by decide) h
  rw [← e]
  apply Nat.eq_of_testBit_eq
  intro i
  rw [Nat.testBit_or, Nat.testBit_xor, show (2147483648 : Nat) = 2 ^ 31 from rfl, Nat.testBit_two_pow]
  by_cases hi : 31 = i
  · subst hi
    rw [Nat.testBit_lt_two_pow (by exact h)]; simp
  · simp [hi]
def stpN (a : Nat) : Nat := a / 2 ^^^ (if a % 2 = 1 then 2147483648 else 0)
set_option maxRecDepth 100000 in
theorem stp_nat (a : Nat) (h : a < 4294967296) : stp (a : Int) = (stpN a : Int) := by
  unfold stp stpN
  rcases Nat.mod_two_eq_zero_or_one a with h2 | h2
  · rw [h2, if_neg (by decide), Nat.xor_zero]; omega
  · rw [h2, if_pos rfl, ← flip31 _ (by omega)]; omega
set_option maxRecDepth 100000 in
theorem stpN_xor (a b : Nat) : stpN (a ^^^ b) = stpN a ^^^ stpN b := by
  unfold stpN
  rw [Nat.xor_div_two]
  have hm : (a ^^^ b) % 2 = (a % 2 + b % 2) % 2 := by
    have := @Nat.xor_mod_two_pow a b 1
    rw [show (2 : Nat) ^ 1 = 2 from rfl] at this
    rw [this]
    rcases Nat.mod_two_eq_zero_or_one a with ha | ha <;> rcases Nat.mod_two_eq_zero_or_one b with hb | hb <;> rw [ha, hb] <;> rfl
  rw [hm]
  rcases Nat.mod_two_eq_zero_or_one a with ha | ha <;> rcases Nat.mod_two_eq_zero_or_one b with hb | hb <;> rw [ha, hb] <;> simp
  · rw [Nat.xor_assoc]
  · rw [Nat.xor_assoc, Nat.xor_comm (b / 2), Nat.xor_assoc]
  · rw [← Nat.xor_assoc, Nat.xor_assoc (a / 2), Nat.xor_comm 2147483648, ← Nat.xor_assoc, Nat.xor_assoc, Nat.xor_self, Nat.xor_zero]
set_option maxRecDepth 100000 in
theorem xor_lt32 (a b : Nat) (ha : a < 4294967296) (hb : b < 4294967296) : a ^^^ b < 4294967296 := Nat.xor_lt_two_pow (n := 32) ha hb
set_option maxRecDepth 100000 in
theorem rot_xor (k a b : Nat) (ha : a < 4294967296) (hb : b < 4294967296) : rot k ((a ^^^ b : Nat) : Int) = (((rot k a).toNat ^^^ (rot k b).toNat : Nat) : Int) := by
  induction k with
  | zero => simp [rot]
  | succ k ih =>
    show stp (rot k _) = _
    rw [ih]
    have b1 := rot_bd k a (by omega) (by omega)
    have b2 := rot_bd k b (by omega) (by omega)
    show _ = (((stp (rot k a)).toNat ^^^ (stp (rot k b)).toNat : Nat) : Int)
    obtain ⟨p, hp⟩ := Int.eq_ofNat_of_zero_le b1.1
    obtain ⟨q, hq⟩ := Int.eq_ofNat_of_zero_le b2.1
    rw [hp, hq, Int.toNat_natCast, Int.toNat_natCast, stp_nat p (by omega), stp_nat q (by omega), Int.toNat_natCast, Int.toNat_natCast, stp_nat _ (xor_lt32 p q (by omega) (by omega)), stpN_xor]
set_option maxRecDepth 100000 in
theorem turn_xor (x y n : Int) (hx0 : 0 ≤ x) (hx : x < 4294967296) (hy0 : 0 ≤ y) (hy : y < 4294967296) : turnV ((x.toNat ^^^ y.toNat : Nat) : Int) n = (((turnV x n).toNat ^^^ (turnV y n).toNat : Nat) : Int) := by
  obtain ⟨a, rfl⟩ := Int.eq_ofNat_of_zero_le hx0
  obtain ⟨b, rfl⟩ := Int.eq_ofNat_of_zero_le hy0
  rw [Int.toNat_natCast, Int.toNat_natCast]
  exact rot_xor _ a b (by omega) (by omega)

/-! ### lowest bits -/
def lowV (x : Int) (n : Nat) : Int := if x % 2 ^ n < 2 ^ (n - 1) then x % 2 ^ n else x % 2 ^ n - 2 ^ n
set_option maxRecDepth 100000 in
theorem pow_split (n : Nat) (h1 : 1 ≤ n) (h : n ≤ 64) : (2 : Int) ^ n * 2 ^ (64 - n) = 18446744073709551616 ∧ (2 : Int) ^ (n - 1) * 2 ^ (64 - n) = 9223372036854775808 ∧ (2 : Int) ^ n = 2 * 2 ^ (n - 1) := by
  refine ⟨by rw [← Int.pow_add, show n + (64 - n) = 64 from by omega]; rfl, by rw [← Int.pow_add, show n - 1 + (64 - n) = 63 from by omega]; rfl, ?_⟩
  obtain ⟨m, rfl⟩ : ∃ m, n = m + 1 := ⟨n - 1, by omega⟩
  rw [Int.pow_succ, Int.mul_comm]; rfl
set_option maxRecDepth 100000 in
theorem low_bit (x : Int) (k : Nat) (h : k < 64) : x % 18446744073709551616 / 2 ^ k % 2 = x / 2 ^ k % 2 := by
  have e1 : (18446744073709551616 : Int) = 2 ^ k * (2 * 2 ^ (63 - k)) := by rw [← Int.mul_assoc, ← Int.pow_succ, ← Int.pow_add, show k + 1 + (63 - k) = 64 from by omega]; rfl
  have hx := Int.emod_add_mul_ediv x 18446744073709551616
  have hp := pow_pos2 k
  generalize x % 18446744073709551616 = U at *
  generalize x / 18446744073709551616 = D at *
  have e2 : x = U + 2 ^ k * (2 * 2 ^ (63 - k) * D) := by rw [← Int.mul_assoc, ← e1]; exact hx.symm
  rw [e2, Int.add_mul_ediv_left _ _ (Int.ne_of_gt hp), Int.mul_assoc]
  omega
set_option maxRecDepth 100000 in
theorem low_at (x : Int) (n : Nat) (h1 : 1 ≤ n) : lowV x n = x % 2 ^ (n - 1) - x / 2 ^ (n - 1) % 2 * 2 ^ (n - 1) := by
  unfold lowV
  obtain ⟨m, rfl⟩ : ∃ m, n = m + 1 := ⟨n - 1, by omega⟩
  rw [show m + 1 - 1 = m from rfl, mod_pow_succ, Int.pow_succ]
  have hp := pow_pos2 m
  have r0 := Int.emod_nonneg x (Int.ne_of_gt hp)
  have r1 := Int.emod_lt_of_pos x hp
  generalize (2 : Int) ^ m = P at *
  have hb : x / P % 2 = 0 ∨ x / P % 2 = 1 := by omega
  generalize x / P % 2 = B at *
  generalize x % P = R at *
  rcases hb with rfl | rfl
  · rw [if_pos (by omega)]; omega
  · rw [if_neg (by omega)]; omega
set_option maxRecDepth 100000 in
theorem low_bd (x : Int) (n : Nat) (h1 : 1 ≤ n) : - 2 ^ (n - 1) ≤ lowV x n ∧ lowV x n < 2 ^ (n - 1) := by
  rw [low_at x n h1]
  have hp := pow_pos2 (n - 1)
  have r0 := Int.emod_nonneg x (Int.ne_of_gt hp)
  have r1 := Int.emod_lt_of_pos x hp
  generalize (2 : Int) ^ (n - 1) = P at *
  have hb : x / P % 2 = 0 ∨ x / P % 2 = 1 := by omega
  generalize x / P % 2 = B at *
  rcases hb with rfl | rfl <;> omega
set_option maxRecDepth 100000 in
theorem pow_le62 (k : Nat) (h : k ≤ 62) : (2 : Int) ^ k ≤ 4611686018427387904 := by
  have e : (4611686018427387904 : Int) = 2 ^ k * 2 ^ (62 - k) := by rw [← Int.pow_add, show k + (62 - k) = 62 from by omega]; rfl
  have h1 := pow_pos2 (62 - k)
  have h2 := Int.mul_le_mul_of_nonneg_left (show (1 : Int) ≤ 2 ^ (62 - k) by omega) (Int.le_of_lt (pow_pos2 k))
  rw [Int.mul_one, ← e] at h2
  exact h2
set_option maxRecDepth 100000 in
theorem pow_le61 (k : Nat) (h : k ≤ 61) : (2 : Int) ^ k ≤ 2305843009213693952 := by
  have h1 := pow_le62 (k + 1) (by omega)
  rw [Int.pow_succ] at h1
  omega
set_option maxRecDepth 100000 in
theorem low_cong (x : Int) (n : Nat) : ∃ c, lowV x n = x + 2 ^ n * c := by
  unfold lowV
  have hx := Int.emod_add_mul_ediv x (2 ^ n)
  generalize (2 : Int) ^ n = N at *
  split
  · exact ⟨-(x / N), by rw [Int.mul_neg]; omega⟩
  · exact ⟨-(x / N) - 1, by rw [Int.mul_sub, Int.mul_neg, Int.mul_one]; omega⟩
set_option maxRecDepth 100000 in
theorem low_mod (x : Int) (n : Nat) : lowV x n % 2 ^ n = x % 2 ^ n := by
  obtain ⟨c, hc⟩ := low_cong x n
  rw [hc, Int.add_mul_emod_self_left]
set_option maxRecDepth 100000 in
theorem low_idem (x : Int) (n : Nat) : lowV (lowV x n) n = lowV x n := by
  have h := low_mod x n
  generalize hy : lowV x n = y at h ⊢
  unfold lowV at hy ⊢
  rw [h, hy]
set_option maxRecDepth 100000 in
theorem mul_mod_left (a M T : Int) : (a % T * M) % T = (a * M) % T := by
  rw [Int.mul_emod, Int.emod_emod, ← Int.mul_emod]
set_option maxRecDepth 100000 in
theorem low_same (x : Int) (n : Nat) (h1 : 1 ≤ n) (h : n < 64) : lowV x n % 18446744073709551616 * 2 ^ (64 - n) % 18446744073709551616 = x % 18446744073709551616 * 2 ^ (64 - n) % 18446744073709551616 := by
  rw [mul_mod_left, mul_mod_left]
  obtain ⟨c, hc⟩ := low_cong x n
  have e := (pow_split n h1 (by omega)).1
  rw [hc, Int.add_mul, Int.mul_right_comm, e, Int.add_mul_emod_self_left]
set_option maxRecDepth 100000 in
/-- up to the top and back -/
theorem low_shift (x : Int) (n : Nat) (h1 : 1 ≤ n) (h : n < 64) : ((x * 2 ^ (64 - n) + 9223372036854775808) % 18446744073709551616 - 9223372036854775808) / 2 ^ (64 - n) = lowV x n := by
  unfold lowV
  obtain ⟨e1, e2, e3⟩ := pow_split n h1 (by omega)
  have hM := pow_pos2 (64 - n)
  have hN := pow_pos2 n
  generalize (2 : Int) ^ (64 - n) = M at *
  generalize (2 : Int) ^ (n - 1) = H at *
  generalize (2 : Int) ^ n = N at *
  have hx := Int.emod_add_mul_ediv x N
  have r0 := Int.emod_nonneg x (Int.ne_of_gt hN)
  have r1 := Int.emod_lt_of_pos x hN
  generalize x % N = R at *
  generalize x / N = D at *
  subst hx
  have e4 : (R + N * D) * M = R * M + 18446744073709551616 * D := by rw [Int.add_mul, Int.mul_right_comm, e1]
  rw [e4]
  by_cases hR : R < H
  · rw [if_pos hR]
    have b1 : R * M < 9223372036854775808 := by rw [← e2]; exact Int.mul_lt_mul_of_pos_right hR hM
    have b0 : 0 ≤ R * M := Int.mul_nonneg r0 (Int.le_of_lt hM)
    rw [show (R * M + 18446744073709551616 * D + 9223372036854775808) % 18446744073709551616 - 9223372036854775808 = R * M from by omega]
    exact Int.mul_ediv_cancel _ (Int.ne_of_gt hM)
  · rw [if_neg hR]
    have b1 : 9223372036854775808 ≤ R * M := by rw [← e2]; exact Int.mul_le_mul_of_nonneg_right (by omega) (Int.le_of_lt hM)
    have b0 : R * M < 18446744073709551616 := by rw [← e1]; exact Int.mul_lt_mul_of_pos_right r1 hM
    rw [show (R * M + 18446744073709551616 * D + 9223372036854775808) % 18446744073709551616 - 9223372036854775808 = (R - N) * M from by rw [Int.sub_mul, e1]; omega]
    exact Int.mul_ediv_cancel _ (Int.ne_of_gt hM)
end Go.Proofs.YtbednfacipphhaaDoor
