/- A row of at most 32 bits of bytes turned, one by one: no walk. -/
import Derived.Test.YtjnjokbdoendkaaGreatSrs
namespace Go.Proofs.YtjnjokbdoendkaaGreat
open Go.RowKit
set_option linter.unusedVariables false

/-- a byte with one bit turned -/
def tnB (c : Int) (r : Nat) : Int := ((c.toNat ^^^ 2 ^ r : Nat) : Int)
set_option maxRecDepth 100000 in
theorem tnB_byt (c : Int) (r : Nat) (hc : 0 ≤ c ∧ c ≤ 255) (hr : r < 8) : 0 ≤ tnB c r ∧ tnB c r ≤ 255 := by
  unfold tnB
  have : c.toNat ^^^ 2 ^ r < 2 ^ 8 := Nat.xor_lt_two_pow (by omega) (Nat.pow_lt_pow_right (by decide) hr)
  omega
/-- i rounds -/
def tnL (F : List Int) (p0 B : Nat) : Nat → List Int
  | 0 => F
  | i + 1 => if B.testBit i then (tnL F p0 B i).set ((p0 + i) / 8) (tnB ((tnL F p0 B i).getD ((p0 + i) / 8) 0) ((p0 + i) % 8)) else tnL F p0 B i
/-- whether any bit was turned -/
def tnT (B : Nat) : Nat → Bool
  | 0 => false
  | i + 1 => if B.testBit i then true else tnT B i
set_option maxRecDepth 100000 in
theorem tnT_iff (B i : Nat) : tnT B i = true ↔ ∃ j, j < i ∧ B.testBit j = true := by
  induction i with
  | zero => simp [tnT]
  | succ i ih =>
    unfold tnT
    by_cases h : B.testBit i = true
    · rw [if_pos h]; exact ⟨fun _ => ⟨i, by omega, h⟩, fun _ => rfl⟩
    · rw [if_neg h, ih]
      constructor
      · rintro ⟨j, hj, hb⟩; exact ⟨j, by omega, hb⟩
      · rintro ⟨j, hj, hb⟩
        refine ⟨j, ?_, hb⟩
        rcases Nat.lt_or_ge j i with h2 | h2
        · exact h2
        · have : j = i := by omega
          rw [this] at hb; exact absurd hb h
set_option maxRecDepth 100000 in
theorem tnL_len (F : List Int) (p0 B i : Nat) : (tnL F p0 B i).length = F.length := by
  induction i with
  | zero => rfl
  | succ i ih => unfold tnL; split
                 · rw [List.length_set, ih]
                 · exact ih
set_option maxRecDepth 100000 in
theorem set_getD (l : List Int) (q j : Nat) (v : Int) (hq : q < l.length) : (l.set q v).getD j 0 = if q = j then v else l.getD j 0 := by
  rw [List.getD_eq_getElem?_getD, List.getElem?_set]
  by_cases h : q = j
  · rw [if_pos h, if_pos h, if_pos (by omega)]; rfl
  · rw [if_neg h, if_neg h, List.getD_eq_getElem?_getD]
set_option maxRecDepth 100000 in
theorem tnL_byt (F : List Int) (p0 B i : Nat) (hF : Byt F) : Byt (tnL F p0 B i) := by
  induction i with
  | zero => exact hF
  | succ i ih =>
    unfold tnL; split
    · intro c hc
      rcases List.mem_or_eq_of_mem_set hc with h | h
      · exact ih c h
      · rw [h]; exact tnB_byt _ _ (ih.getD _) (by omega)
    · exact ih
set_option maxRecDepth 100000 in
theorem tnL_bit (F : List Int) (p0 B i : Nat) (hi : p0 + i ≤ 8 * F.length) : ∀ p, p < 8 * F.length →
    ((tnL F p0 B i).getD (p / 8) 0).toNat.testBit (p % 8) = ((F.getD (p / 8) 0).toNat.testBit (p % 8) ^^ (decide (p0 ≤ p ∧ p < p0 + i) && B.testBit (p - p0))) := by
  induction i with
  | zero =>
    intro p hp
    have : decide (p0 ≤ p ∧ p < p0 + 0) = false := by rw [decide_eq_false_iff_not]; omega
    rw [this]; simp [tnL]
  | succ i ih =>
    intro p hp
    have hp2 := ih (by omega) p hp
    unfold tnL
    by_cases hb : B.testBit i = true
    · rw [if_pos hb, set_getD _ _ _ _ (by rw [tnL_len]; omega)]
      by_cases hq : (p0 + i) / 8 = p / 8
      · rw [if_pos hq]
        unfold tnB
        rw [Int.toNat_natCast, Nat.testBit_xor, Nat.testBit_two_pow, hq, hp2]
        by_cases hr : (p0 + i) % 8 = p % 8
        · have hpi : p = p0 + i := by omega
          have d1 : decide (p0 ≤ p ∧ p < p0 + i) = false := by rw [decide_eq_false_iff_not]; omega
          have d2 : decide (p0 ≤ p ∧ p < p0 + (i + 1)) = true := by rw [decide_eq_true_eq]; omega
          rw [d1, d2, decide_eq_true hr, show p - p0 = i from by omega, hb]
          cases (F.getD (p / 8) 0).toNat.testBit (p % 8) <;> rfl
        · have d1 : decide (p0 ≤ p ∧ p < p0 + (i + 1)) = decide (p0 ≤ p ∧ p < p0 + i) := by
            apply decide_eq_decide.2; constructor <;> intro h <;> omega
          rw [d1, decide_eq_false hr, Bool.xor_false]
      · rw [if_neg hq, hp2]
        have d1 : decide (p0 ≤ p ∧ p < p0 + (i + 1)) = decide (p0 ≤ p ∧ p < p0 + i) := by
          apply decide_eq_decide.2; constructor <;> intro h <;> omega
        rw [d1]
    · rw [if_neg hb, hp2]
      by_cases hpi : p = p0 + i
      · have e : B.testBit (p - p0) = false := by rw [show p - p0 = i from by omega]; simpa using hb
        rw [e, Bool.and_false, Bool.and_false]
      · have d1 : decide (p0 ≤ p ∧ p < p0 + (i + 1)) = decide (p0 ≤ p ∧ p < p0 + i) := by
          apply decide_eq_decide.2; constructor <;> intro h <;> omega
        rw [d1]
set_option maxRecDepth 100000 in
theorem tnL_none (F : List Int) (p0 B i : Nat) (h : tnT B i = false) : tnL F p0 B i = F := by
  induction i with
  | zero => rfl
  | succ i ih =>
    unfold tnT at h
    by_cases hb : B.testBit i = true
    · rw [if_pos hb] at h; cases h
    · rw [if_neg hb] at h; unfold tnL; rw [if_neg hb]; exact ih h
set_option maxRecDepth 100000 in
/-- of a frame in which bits were turned nothing is read -/
theorem tn_bad (seq : Int) (b z : List Int) (p0 B i : Nat) (h1 : 1 ≤ seq) (h64 : seq < 18446744073709551616) (hb : b.length ≤ 16384) (hB : Byt b) (hi : p0 + i ≤ 8 * (20 + b.length)) (h32 : i ≤ 32) (hT : tnT B i = true) : rdE (tnL (frmL seq b) p0 B i ++ z) ≠ 0 := by
  have hl := frmL_len seq b
  refine rd_burst seq b z (tnL (frmL seq b) p0 B i) p0 (fun p => decide (p0 ≤ p ∧ p < p0 + i) && B.testBit (p - p0)) h1 h64 hb hB (by rw [tnL_len, hl]) (tnL_byt _ _ _ _ (frmL_byt seq b hB)) (fun p hp => tnL_bit _ _ _ _ (by rw [hl]; exact hi) p (by rw [hl]; exact hp)) (fun p hp => ?_) ?_
  · rw [Bool.and_eq_true, decide_eq_true_eq] at hp; omega
  · obtain ⟨j, hj, hbit⟩ := (tnT_iff B i).1 hT
    refine ⟨p0 + j, by omega, ?_⟩
    rw [Bool.and_eq_true, decide_eq_true_eq, show p0 + j - p0 = j from by omega]
    exact ⟨⟨by omega, by omega⟩, hbit⟩
set_option maxRecDepth 100000 in
theorem xor_tn (C : Int) (r : Nat) (hC : 0 ≤ C ∧ C ≤ 255) (hr : r < 8) : bits .xor .u8 C (2 ^ r % 256) = tnB C r := by
  have hp : 2 ^ r < 2 ^ 8 := Nat.pow_lt_pow_right (by decide) hr
  unfold tnB
  rw [show ((2 : Int) ^ r) = ((2 ^ r : Nat) : Int) from by rw [Int.natCast_pow]; rfl]
  generalize 2 ^ r = Q at hp ⊢
  rw [show ((Q : Int) % 256) = (Q : Int) from by omega, u8_xor _ _ hC.1 (by omega) (by omega) (by omega)]
  rfl
set_option maxRecDepth 100000 in
theorem bv_set (l : List Int) (q : Nat) (x : Int) : (bv l).set q (.int .u8 x) = bv (l.set q x) := by unfold bv; rw [List.map_set]
set_option maxRecDepth 100000 in
theorem tnL_step (F : List Int) (p0 B i : Nat) (h : B.testBit i = true) : tnL F p0 B (i + 1) = (tnL F p0 B i).set ((p0 + i) / 8) (tnB ((tnL F p0 B i).getD ((p0 + i) / 8) 0) ((p0 + i) % 8)) := by
  show (if B.testBit i then _ else _) = _
  rw [if_pos h]
set_option maxRecDepth 100000 in
theorem tnL_stay (F : List Int) (p0 B i : Nat) (h : ¬ B.testBit i = true) : tnL F p0 B (i + 1) = tnL F p0 B i := by
  show (if B.testBit i then _ else _) = _
  rw [if_neg h]
set_option maxRecDepth 100000 in
theorem tnT_step (B i : Nat) (h : B.testBit i = true) : tnT B (i + 1) = true := by
  show (if B.testBit i then _ else _) = _
  rw [if_pos h]
set_option maxRecDepth 100000 in
theorem tnT_stay (B i : Nat) (h : ¬ B.testBit i = true) : tnT B (i + 1) = tnT B i := by
  show (if B.testBit i then _ else _) = _
  rw [if_neg h]
set_option maxRecDepth 100000 in
theorem bit_shr (B i : Nat) (hB : B ≤ 4294967295) : (bits .and .u32 ((B : Int) / 2 ^ i) 1 == 1) = B.testBit i := by
  have e : ((B : Int) / 2 ^ i) = ((B / 2 ^ i : Nat) : Int) := by rw [Int.natCast_ediv, Int.natCast_pow]; rfl
  have hle : B / 2 ^ i ≤ 4294967295 := Nat.le_trans (Nat.div_le_self _ _) hB
  rw [e, Nat.testBit_eq_decide_div_mod_eq]
  generalize B / 2 ^ i = Q at hle ⊢
  rw [and_one _ (by omega) (by omega)]
  by_cases h : Q % 2 = 1
  · rw [decide_eq_true h]; simp; omega
  · rw [decide_eq_false h]; simp; omega
end Go.Proofs.YtjnjokbdoendkaaGreat
