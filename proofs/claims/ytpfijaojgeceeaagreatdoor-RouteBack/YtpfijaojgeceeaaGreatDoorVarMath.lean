/- The plain mathematics of short numbers: no Go text. -/
namespace Go.Proofs.YtpfijaojgeceeaaGreatDoor

/-- x as a short number, of at most f + 1 bytes -/
def varF : Nat → Int → List Int
  | 0, x => [x]
  | f + 1, x => if x < 128 then [x] else (x % 128 + 128) :: varF f (x / 128)
/-- what is read from the place i on, X being what the bytes ahead are -/
def rd : List Int → Nat → Int → Int × Int × Int
  | [], _, _ => (0, 0, 3)
  | c :: t, i, X => if i = 9 ∧ 1 < c then (0, 0, 4) else if 128 ≤ c then rd t (i + 1) (X + c % 128 * 128 ^ i) else if c = 0 ∧ 0 < i then (0, 0, 4) else (X + c % 128 * 128 ^ i, (i : Int) + 1, 0)
/-- seven bits a byte, the lowest first -/
def valL : List Int → Int
  | [] => 0
  | c :: t => c % 128 + 128 * valL t

set_option maxRecDepth 100000 in
theorem p128 (k : Nat) : (0 : Int) < 128 ^ k := Int.pow_pos (by decide)
set_option maxRecDepth 100000 in
theorem p128_two (k : Nat) : (2 : Int) ^ (7 * k) = 128 ^ k := by rw [Int.pow_mul]; rfl
set_option maxRecDepth 100000 in
theorem p128_le (k : Nat) (h : k ≤ 9) : (128 : Int) ^ k ≤ 9223372036854775808 := by
  have e : (9223372036854775808 : Int) = 128 ^ k * 128 ^ (9 - k) := by rw [← Int.pow_add, show k + (9 - k) = 9 from by omega]; rfl
  have h1 := p128 (9 - k)
  have h2 := Int.mul_le_mul_of_nonneg_left (show (1 : Int) ≤ 128 ^ (9 - k) by omega) (Int.le_of_lt (p128 k))
  rw [Int.mul_one, ← e] at h2
  exact h2
set_option maxRecDepth 100000 in
theorem p128_le8 (k : Nat) (h : k ≤ 8) : (128 : Int) ^ k ≤ 72057594037927936 := by
  have h1 := p128_le (k + 1) (by omega)
  rw [Int.pow_succ] at h1
  omega
set_option maxRecDepth 100000 in
theorem mul_bd {a P : Int} (h0 : 0 ≤ a) (h1 : a < 128) (hp : 0 < P) : 0 ≤ a * P ∧ a * P ≤ 127 * P :=
  ⟨Int.mul_nonneg h0 (Int.le_of_lt hp), Int.mul_le_mul_of_nonneg_right (by omega) (Int.le_of_lt hp)⟩

set_option maxRecDepth 100000 in
theorem varF_small (f : Nat) (x : Int) (h : x < 128) : varF f x = [x] := by
  cases f with
  | zero => rfl
  | succ f => simp [varF, h]
set_option maxRecDepth 100000 in
theorem varF_big (f : Nat) (x : Int) (h : ¬ x < 128) : varF (f + 1) x = (x % 128 + 128) :: varF f (x / 128) := by simp [varF, h]
set_option maxRecDepth 100000 in
theorem varF_length (f : Nat) (x : Int) : 1 ≤ (varF f x).length ∧ (varF f x).length ≤ f + 1 := by
  induction f generalizing x with
  | zero => simp [varF]
  | succ f ih =>
    by_cases h : x < 128
    · simp [varF, h]
    · have := ih (x / 128)
      rw [varF_big f x h, List.length_cons]; omega
set_option maxRecDepth 100000 in
theorem varF_byt (f : Nat) (x : Int) (h0 : 0 ≤ x) (h : x < 128 ^ (f + 1)) : ∀ c ∈ varF f x, 0 ≤ c ∧ c ≤ 255 := by
  induction f generalizing x with
  | zero =>
    intro c hc
    have h' : x < 128 := h
    simp [varF] at hc; omega
  | succ f ih =>
    by_cases hs : x < 128
    · intro c hc; rw [varF_small _ x hs] at hc; simp at hc; omega
    · intro c hc
      rw [varF_big f x hs] at hc
      rcases List.mem_cons.1 hc with rfl | hc'
      · omega
      · refine ih (x / 128) (by omega) ?_ c hc'
        rw [Int.pow_succ] at h
        omega

set_option maxRecDepth 100000 in
theorem rd_bd (l : List Int) (i : Nat) (X : Int) (hb : ∀ c ∈ l, 0 ≤ c ∧ c ≤ 255) (hi : i ≤ 9) (h0 : 0 ≤ X) (h1 : X < 128 ^ i) : 0 ≤ (rd l i X).1 ∧ (rd l i X).1 ≤ 18446744073709551615 := by
  induction l generalizing i X with
  | nil => simp [rd]
  | cons c t ih =>
    have hc := hb c (by simp)
    have hp := p128 i
    have hm := mul_bd (a := c % 128) (by omega) (by omega) hp
    unfold rd
    by_cases c1 : i = 9 ∧ 1 < c
    · rw [if_pos c1]; simp
    · rw [if_neg c1]
      by_cases c2 : 128 ≤ c
      · rw [if_pos c2]
        refine ih (i + 1) _ (fun d hd => hb d (by simp [hd])) (by omega) (by omega) ?_
        rw [Int.pow_succ]; omega
      · rw [if_neg c2]
        by_cases c3 : c = 0 ∧ 0 < i
        · rw [if_pos c3]; simp
        · rw [if_neg c3]
          by_cases c4 : i = 9
          · subst c4
            have hcc : c % 128 = 0 ∨ c % 128 = 1 := by omega
            have e9 : (128 : Int) ^ 9 = 9223372036854775808 := rfl
            rw [e9] at h1 ⊢
            rcases hcc with h | h <;> rw [h] <;> simp <;> omega
          · have h8 := p128_le8 i (by omega)
            simp only []
            generalize c % 128 * 128 ^ i = T at *
            omega
set_option maxRecDepth 100000 in
/-- what is not read is nothing -/
theorem rd_err (l : List Int) (i : Nat) (X : Int) (h : (rd l i X).2.2 ≠ 0) : (rd l i X).1 = 0 ∧ (rd l i X).2.1 = 0 := by
  induction l generalizing i X with
  | nil => simp [rd]
  | cons c t ih =>
    unfold rd at h ⊢
    split
    · simp
    · rename_i c1
      rw [if_neg c1] at h
      split
      · rename_i c2
        rw [if_pos c2] at h
        exact ih _ _ h
      · rename_i c2
        rw [if_neg c2] at h
        split
        · simp
        · rename_i c3
          rw [if_neg c3] at h
          exact absurd rfl h
set_option maxRecDepth 100000 in
theorem rd_code (l : List Int) (i : Nat) (X : Int) : (rd l i X).2.2 = 0 ∨ (rd l i X).2.2 = 3 ∨ (rd l i X).2.2 = 4 := by
  induction l generalizing i X with
  | nil => simp [rd]
  | cons c t ih =>
    unfold rd
    split
    · simp
    · split
      · exact ih _ _
      · split <;> simp

set_option maxRecDepth 100000 in
/-- what is written short is read, whatever stands behind -/
theorem rd_varF (f : Nat) (x : Int) (i : Nat) (X : Int) (t : List Int) (h0 : 0 ≤ x) (h : x < 128 ^ (f + 1)) (hi : i + f ≤ 9) (hz : 0 < i → x ≠ 0) (hlim : x * 128 ^ i ≤ 18446744073709551615) :
    rd (varF f x ++ t) i X = (X + x * 128 ^ i, (i : Int) + (varF f x).length, 0) := by
  induction f generalizing x i X with
  | zero =>
    have h' : x < 128 := h
    have hc9 : ¬ (i = 9 ∧ 1 < x) := by
      rintro ⟨rfl, h2⟩
      rw [show (128 : Int) ^ 9 = 9223372036854775808 from rfl] at hlim; omega
    have hc0 : ¬ (x = 0 ∧ 0 < i) := fun h => hz h.2 h.1
    simp only [varF, List.cons_append, List.nil_append, rd]
    rw [if_neg hc9, if_neg (by omega), if_neg hc0, Int.emod_eq_of_lt h0 h']
    simp
  | succ f ih =>
    by_cases hs : x < 128
    · rw [varF_small _ x hs]
      have hc9 : ¬ (i = 9 ∧ 1 < x) := by omega
      have hc0 : ¬ (x = 0 ∧ 0 < i) := fun h => hz h.2 h.1
      simp only [List.cons_append, List.nil_append, rd]
      rw [if_neg hc9, if_neg (by omega), if_neg hc0, Int.emod_eq_of_lt h0 hs]
      simp
    · rw [varF_big f x hs]
      have hc9 : ¬ (i = 9 ∧ 1 < x % 128 + 128) := by omega
      simp only [List.cons_append, rd]
      rw [if_neg hc9, if_pos (by omega)]
      have hp := p128 i
      have e1 : x / 128 * 128 ^ (i + 1) = x / 128 * 128 * 128 ^ i := by rw [Int.pow_succ, Int.mul_comm (128 ^ i) 128, Int.mul_assoc]
      have e2 : x / 128 * 128 * 128 ^ i ≤ x * 128 ^ i := Int.mul_le_mul_of_nonneg_right (by omega) (Int.le_of_lt hp)
      rw [ih (x / 128) (i + 1) _ (by omega) (by rw [Int.pow_succ] at h; omega) (by omega) (by omega) (by rw [e1]; omega)]
      have e3 : x = x % 128 + x / 128 * 128 := by omega
      have e4 : x * 128 ^ i = x % 128 * 128 ^ i + x / 128 * 128 * 128 ^ i := by
        conv => lhs; rw [e3]
        rw [Int.add_mul]
      rw [e1, e4, show (x % 128 + 128) % 128 = x % 128 from by omega, List.length_cons]
      refine Prod.ext ?_ (Prod.ext ?_ rfl)
      · simp only []; omega
      · simp only []; omega

set_option maxRecDepth 100000 in
/-- what is read, written again, is what was read -/
theorem rd_inv (l : List Int) (i : Nat) (X x n : Int) (hb : ∀ c ∈ l, 0 ≤ c ∧ c ≤ 255) (hi : i ≤ 9) (h : rd l i X = (x, n, 0)) :
    ∃ (m : Nat) (y : Int), 1 ≤ m ∧ m ≤ l.length ∧ n = (i : Int) + m ∧ 0 ≤ y ∧ x = X + y * 128 ^ i ∧ varF (9 - i) y = l.take m ∧ (0 < i → y ≠ 0) := by
  induction l generalizing i X with
  | nil => simp [rd] at h
  | cons c t ih =>
    have hc := hb c (by simp)
    unfold rd at h
    by_cases c1 : i = 9 ∧ 1 < c
    · rw [if_pos c1] at h; simp at h
    · rw [if_neg c1] at h
      by_cases c2 : 128 ≤ c
      · rw [if_pos c2] at h
        obtain ⟨m, y, h1, h2, h3, h4, h5, h6, h7⟩ := ih (i + 1) _ (fun d hd => hb d (by simp [hd])) (by omega) h
        have hy : y ≠ 0 := h7 (by omega)
        refine ⟨m + 1, c % 128 + 128 * y, by omega, by rw [List.length_cons]; omega, by omega, by omega, ?_, ?_, by omega⟩
        · rw [h5, Int.pow_succ, Int.add_mul, Int.mul_right_comm 128 y, Int.mul_comm (128 * 128 ^ i) y, Int.mul_comm 128 (128 ^ i)]; omega
        · obtain ⟨f, hf⟩ : ∃ f, 9 - i = f + 1 := ⟨8 - i, by omega⟩
          rw [hf, varF_big f _ (by omega), List.take_succ_cons, show (c % 128 + 128 * y) % 128 + 128 = c from by omega, show (c % 128 + 128 * y) / 128 = y from by omega, ← h6, show 9 - (i + 1) = f from by omega]
      · rw [if_neg c2] at h
        by_cases c3 : c = 0 ∧ 0 < i
        · rw [if_pos c3] at h; simp at h
        · rw [if_neg c3] at h
          simp only [Prod.mk.injEq] at h
          refine ⟨1, c, Nat.le_refl _, by simp, by omega, hc.1, ?_, ?_, fun hi0 hc0 => c3 ⟨hc0, hi0⟩⟩
          · rw [← h.1, Int.emod_eq_of_lt hc.1 (by omega)]
          · rw [varF_small _ c (by omega)]; simp

set_option maxRecDepth 100000 in
theorem valL_append (a b : List Int) : valL (a ++ b) = valL a + 128 ^ a.length * valL b := by
  induction a with
  | nil => simp [valL]
  | cons c t ih => simp only [List.cons_append, valL, ih, List.length_cons, Int.pow_succ]; rw [Int.mul_add, ← Int.mul_assoc, Int.mul_comm 128 (128 ^ t.length)]; omega
set_option maxRecDepth 100000 in
theorem valL_bd (l : List Int) : 0 ≤ valL l ∧ valL l < 128 ^ l.length := by
  induction l with
  | nil => simp [valL]
  | cons c t ih => simp only [valL, List.length_cons, Int.pow_succ]; omega
set_option maxRecDepth 100000 in
theorem valL_drop_le (l : List Int) (m : Nat) : valL (l.drop m) ≤ valL l := by
  have h := valL_append (l.take m) (l.drop m)
  rw [List.take_append_drop] at h
  have h1 := valL_bd (l.take m)
  have h2 := valL_bd (l.drop m)
  have hp := p128 (l.take m).length
  have h3 := Int.mul_le_mul_of_nonneg_right (show (1 : Int) ≤ 128 ^ (l.take m).length by omega) h2.1
  omega
end Go.Proofs.YtpfijaojgeceeaaGreatDoor
