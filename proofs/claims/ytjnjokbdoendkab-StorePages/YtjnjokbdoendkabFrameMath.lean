/- What frames are, what reading answers; there and back; that a frame of which at most 32 bits in a row are turned is not read: no walk. -/
import Derived.Test.YtjnjokbdoendkabCrcMath
import Derived.Test.YtjnjokbdoendkabSma
namespace Go.Proofs.Ytjnjokbdoendkab
open Go.RowKit
set_option linter.unusedVariables false

set_option maxRecDepth 100000 in
theorem getV_putL (x : Int) (n : Nat) (h0 : 0 ≤ x) : getV (putL x n) = x % 256 ^ n := by
  suffices H : ∀ (n : Nat) (acc : Int), (putL x n).foldl (fun y c => 256 * y + c) acc = acc * 256 ^ n + x % 256 ^ n by
    have := H n 0; unfold getV; rw [this]; omega
  intro n
  induction n with
  | zero => intro acc; simp [putL, Int.emod_one]
  | succ n ih =>
    intro acc
    show (putL x n).foldl _ (256 * acc + sh x n % 256) = _
    rw [ih, Int.pow_succ]
    unfold sh
    have hp : (0 : Int) < 256 ^ n := Int.pow_pos (by decide)
    generalize (256 : Int) ^ n = P at *
    have e1 := Int.emod_add_mul_ediv x P
    have e2 := Int.emod_add_mul_ediv (x / P) 256
    have r1 := Int.emod_nonneg x (Int.ne_of_gt hp)
    have r2 := Int.emod_lt_of_pos x hp
    have hx : x = (x % P + P * (x / P % 256)) + (P * 256) * (x / P / 256) := by
      conv => lhs; rw [← e1, ← e2]
      rw [Int.mul_add, Int.mul_assoc, Int.add_assoc]
    have q0 : 0 ≤ x / P % 256 := Int.emod_nonneg _ (by decide)
    have q1 : x / P % 256 ≤ 255 := by have := Int.emod_lt_of_pos (x / P) (show (0 : Int) < 256 by decide); omega
    have m0 : 0 ≤ P * (x / P % 256) := Int.mul_nonneg (Int.le_of_lt hp) q0
    have m1 : P * (x / P % 256) ≤ P * 255 := Int.mul_le_mul_of_nonneg_left q1 (Int.le_of_lt hp)
    have hm : x % (P * 256) = x % P + P * (x / P % 256) := by
      conv => lhs; rw [hx]
      rw [Int.add_mul_emod_self_left, Int.emod_eq_of_lt (by omega) (by omega)]
    rw [hm, Int.add_mul, Int.mul_comm 256 acc, Int.mul_assoc, Int.mul_comm 256 P, Int.mul_comm (x / P % 256) P]
    omega
set_option maxRecDepth 100000 in
/-- bytes put together are the bytes again -/
theorem getV_cons (c : Int) (l : List Int) : getV (c :: l) = c * 256 ^ l.length + getV l := by
  suffices H : ∀ (l : List Int) (a : Int), l.foldl (fun x c => 256 * x + c) a = a * 256 ^ l.length + l.foldl (fun x c => 256 * x + c) 0 by
    have := H l (256 * 0 + c); unfold getV; rw [List.foldl_cons, this]; simp
  intro l
  induction l with
  | nil => intro a; simp
  | cons d l ih =>
    intro a
    rw [List.foldl_cons, List.foldl_cons, ih (256 * a + d), ih (256 * 0 + d), List.length_cons, Int.pow_succ, Int.add_mul, Int.mul_comm 256 a, Int.mul_assoc, Int.mul_comm 256 (256 ^ l.length)]
    simp; omega
set_option maxRecDepth 100000 in
theorem putL_getV : ∀ (l : List Int), Byt l → ∀ k : Int, putL (k * 256 ^ l.length + getV l) l.length = l := by
  intro l
  induction l with
  | nil => intro _ _; rfl
  | cons c l ih =>
    intro h k
    have hc := h c (by simp)
    have hl : Byt l := fun d hd => h d (by simp [hd])
    have hb := getV_bd l hl
    have hp : (0 : Int) < 256 ^ l.length := Int.pow_pos (by decide)
    rw [getV_cons, List.length_cons]
    show sh _ l.length % 256 :: putL _ l.length = _
    have e : k * 256 ^ (l.length + 1) + (c * 256 ^ l.length + getV l) = (k * 256 + c) * 256 ^ l.length + getV l := by
      rw [Int.pow_succ, Int.add_mul, Int.mul_comm (256 ^ l.length) 256, Int.mul_assoc]; omega
    rw [e, ih hl (k * 256 + c)]
    congr 1
    unfold sh
    rw [Int.add_comm, Int.add_mul_ediv_right _ _ (Int.ne_of_gt hp), Int.ediv_eq_zero_of_lt hb.1 hb.2]
    omega
/-- a sum as a number -/
def crcN (l : List Int) : Nat := (crcL l).toNat
/-- a frame's head: how many bytes, and the number -/
def headL (n : Nat) (seq : Int) : List Int := putL (n : Int) 4 ++ putL seq 8
/-- a frame -/
def frmL (seq : Int) (b : List Int) : List Int := headL b.length seq ++ (four (crcN (headL b.length seq)) ++ (b ++ four (crcN b)))
set_option maxRecDepth 100000 in
theorem headL_len (n : Nat) (seq : Int) : (headL n seq).length = 12 := by unfold headL; rw [List.length_append, putL_length, putL_length]
set_option maxRecDepth 100000 in
theorem headL_byt (n : Nat) (seq : Int) : Byt (headL n seq) := (putL_byt _ _).append (putL_byt _ _)
set_option maxRecDepth 100000 in
theorem four_len (n : Nat) : (four n).length = 4 := rfl
set_option maxRecDepth 100000 in
theorem frmL_len (seq : Int) (b : List Int) : (frmL seq b).length = 20 + b.length := by
  unfold frmL; rw [List.length_append, List.length_append, List.length_append, headL_len, four_len, four_len]; omega
set_option maxRecDepth 100000 in
theorem frmL_byt (seq : Int) (b : List Int) (h : Byt b) : Byt (frmL seq b) := (headL_byt _ _).append ((four_byt _).append (h.append (four_byt _)))
/-- how many bytes a head says -/
def rdC (b : List Int) : Nat := (getV (b.take 4)).toNat
/-- what reading answers: the error -/
def rdE (b : List Int) : Int :=
  if b.length < 16 then 3
  else if (b.drop 12).take 4 ≠ four (crcN (b.take 12)) then 13
  else if getV ((b.drop 4).take 8) = 0 then 4
  else if 16384 < getV (b.take 4) then 5
  else if b.length < 20 + rdC b then 3
  else if (b.drop (16 + rdC b)).take 4 ≠ four (crcN ((b.drop 16).take (rdC b))) then 13
  else 0
/-- .. the number, the text, how many bytes -/
def rdS (b : List Int) : Int := if rdE b = 0 then getV ((b.drop 4).take 8) else 0
def rdT (b : List Int) : List Int := if rdE b = 0 then (b.drop 16).take (rdC b) else []
def rdN (b : List Int) : Nat := if rdE b = 0 then 20 + rdC b else 0
set_option maxRecDepth 100000 in
theorem rdE_ok (b : List Int) : rdE b = 0 ↔ 16 ≤ b.length ∧ (b.drop 12).take 4 = four (crcN (b.take 12)) ∧ getV ((b.drop 4).take 8) ≠ 0 ∧ getV (b.take 4) ≤ 16384 ∧ 20 + rdC b ≤ b.length ∧ (b.drop (16 + rdC b)).take 4 = four (crcN ((b.drop 16).take (rdC b))) := by
  unfold rdE
  constructor
  · intro h
    split at h
    · cases h
    · split at h
      · cases h
      · rename_i h1 h2
        split at h
        · cases h
        · rename_i h3
          split at h
          · cases h
          · rename_i h4
            split at h
            · cases h
            · rename_i h5
              split at h
              · cases h
              · rename_i h6
                exact ⟨by omega, Classical.not_not.1 h2, h3, by omega, by omega, Classical.not_not.1 h6⟩
  · rintro ⟨h1, h2, h3, h4, h5, h6⟩
    rw [if_neg (by omega), if_neg (fun h => h h2), if_neg h3, if_neg (by omega), if_neg (by omega), if_neg (fun h => h h6)]
set_option maxRecDepth 100000 in
/-- the pieces of what begins with a frame -/
theorem frm_parts (seq : Int) (b z : List Int) (h0 : 0 ≤ seq) (h64 : seq < 18446744073709551616) (hb : b.length ≤ 16384) :
    (frmL seq b ++ z).take 12 = headL b.length seq ∧ ((frmL seq b ++ z).drop 12).take 4 = four (crcN (headL b.length seq)) ∧ getV ((frmL seq b ++ z).take 4) = (b.length : Int) ∧ getV (((frmL seq b ++ z).drop 4).take 8) = seq ∧
    rdC (frmL seq b ++ z) = b.length ∧ ((frmL seq b ++ z).drop 16).take b.length = b ∧ ((frmL seq b ++ z).drop (16 + b.length)).take 4 = four (crcN b) := by
  have hh := headL_len b.length seq
  have hf := four_len (crcN (headL b.length seq))
  have hg := four_len (crcN b)
  have e : frmL seq b ++ z = headL b.length seq ++ (four (crcN (headL b.length seq)) ++ (b ++ (four (crcN b) ++ z))) := by unfold frmL; simp
  have e4 : getV ((frmL seq b ++ z).take 4) = (b.length : Int) := by
    rw [e, List.take_append_of_le_length (by rw [hh]; decide)]
    unfold headL
    rw [List.take_append_of_le_length (by rw [putL_length]; exact Nat.le_refl _), List.take_of_length_le (by rw [putL_length]; exact Nat.le_refl _), getV_putL _ _ (by omega)]
    exact Int.emod_eq_of_lt (by omega) (by omega)
  have e8 : getV (((frmL seq b ++ z).drop 4).take 8) = seq := by
    rw [e, List.drop_append_of_le_length (by rw [hh]; decide)]
    have hd : (headL b.length seq).drop 4 = putL seq 8 := by
      unfold headL
      rw [List.drop_append_of_le_length (by rw [putL_length]; exact Nat.le_refl _), List.drop_of_length_le (by rw [putL_length]; exact Nat.le_refl _)]; rfl
    rw [hd, List.take_append_of_le_length (by rw [putL_length]; exact Nat.le_refl _), List.take_of_length_le (by rw [putL_length]; exact Nat.le_refl _), getV_putL _ _ h0]
    exact Int.emod_eq_of_lt h0 (by omega)
  refine ⟨?_, ?_, e4, e8, by unfold rdC; rw [e4]; omega, ?_, ?_⟩
  · rw [e, List.take_append_of_le_length (by rw [hh]; exact Nat.le_refl _), List.take_of_length_le (by rw [hh]; exact Nat.le_refl _)]
  · rw [e, show (12 : Nat) = (headL b.length seq).length from hh.symm, List.drop_left, List.take_append_of_le_length (by rw [hf]; exact Nat.le_refl _), List.take_of_length_le (by rw [hf]; exact Nat.le_refl _)]
  · rw [e, ← List.append_assoc, show (16 : Nat) = (headL b.length seq ++ four (crcN (headL b.length seq))).length from by rw [List.length_append, hh, hf], List.drop_left, List.take_left]
  · rw [e, ← List.append_assoc, ← List.append_assoc, show 16 + b.length = (headL b.length seq ++ four (crcN (headL b.length seq)) ++ b).length from by rw [List.length_append, List.length_append, hh, hf], List.drop_left, List.take_append_of_le_length (by rw [hg]; exact Nat.le_refl _), List.take_of_length_le (by rw [hg]; exact Nat.le_refl _)]
set_option maxRecDepth 100000 in
/-- what is put is read, whatever stands behind -/
theorem rd_back (seq : Int) (b z : List Int) (h1 : 1 ≤ seq) (h64 : seq < 18446744073709551616) (hb : b.length ≤ 16384) : rdE (frmL seq b ++ z) = 0 ∧ rdS (frmL seq b ++ z) = seq ∧ rdT (frmL seq b ++ z) = b ∧ rdN (frmL seq b ++ z) = 20 + b.length := by
  obtain ⟨p1, p2, p3, p4, p5, p6, p7⟩ := frm_parts seq b z (by omega) h64 hb
  have hl : (frmL seq b ++ z).length = 20 + b.length + z.length := by rw [List.length_append, frmL_len]
  have h0 : rdE (frmL seq b ++ z) = 0 := (rdE_ok _).2 ⟨by omega, by rw [p1, p2], by rw [p4]; omega, by rw [p3]; omega, by rw [p5]; omega, by rw [p5, p6, p7]⟩
  refine ⟨h0, ?_, ?_, ?_⟩
  · unfold rdS; rw [if_pos h0, p4]
  · unfold rdT; rw [if_pos h0, p5, p6]
  · unfold rdN; rw [if_pos h0, p5]
set_option maxRecDepth 100000 in
/-- a beginning of a frame is too short -/
theorem rd_begin (seq : Int) (b : List Int) (k : Nat) (h1 : 1 ≤ seq) (h64 : seq < 18446744073709551616) (hb : b.length ≤ 16384) (hk : k < 20 + b.length) : rdE ((frmL seq b).take k) = 3 := by
  obtain ⟨p1, p2, p3, p4, p5, p6, p7⟩ := frm_parts seq b [] (by omega) h64 hb
  rw [List.append_nil] at p1 p2 p3 p4 p5 p6 p7
  have hl : ((frmL seq b).take k).length = k := by rw [List.length_take, frmL_len]; omega
  unfold rdE
  rw [hl]
  by_cases h16 : k < 16
  · rw [if_pos h16]
  · have t12 : ((frmL seq b).take k).take 12 = (frmL seq b).take 12 := by rw [List.take_take, Nat.min_eq_left (by omega)]
    have t4 : ((frmL seq b).take k).take 4 = (frmL seq b).take 4 := by rw [List.take_take, Nat.min_eq_left (by omega)]
    have d12 : (((frmL seq b).take k).drop 12).take 4 = ((frmL seq b).drop 12).take 4 := by rw [List.drop_take, List.take_take, Nat.min_eq_left (by omega)]
    have d4 : (((frmL seq b).take k).drop 4).take 8 = ((frmL seq b).drop 4).take 8 := by rw [List.drop_take, List.take_take, Nat.min_eq_left (by omega)]
    have hc : rdC ((frmL seq b).take k) = b.length := by unfold rdC; rw [t4, p3]; omega
    rw [if_neg h16, if_neg (fun h => h (by rw [d12, t12, p1, p2])), if_neg (by rw [d4, p4]; omega), if_neg (by rw [t4, p3]; omega), if_pos (by rw [hc]; exact hk)]
set_option maxRecDepth 100000 in
/-- what is read, put again, is the bytes -/
theorem rd_one (b : List Int) (hB : Byt b) (h : rdE b = 0) : frmL (rdS b) (rdT b) = b.take (rdN b) ∧ 1 ≤ rdS b ∧ rdS b < 18446744073709551616 ∧ (rdT b).length ≤ 16384 ∧ rdN b ≤ b.length ∧ (rdT b).length = rdC b := by
  obtain ⟨h1, h2, h3, h4, h5, h6⟩ := (rdE_ok b).1 h
  have b4 := getV_bd (b.take 4) (hB.take 4)
  have hB8 : Byt ((b.drop 4).take 8) := fun c hc => hB c (List.mem_of_mem_drop (List.mem_of_mem_take hc))
  have b8 := getV_bd ((b.drop 4).take 8) hB8
  have l8 : ((b.drop 4).take 8).length = 8 := by rw [List.length_take, List.length_drop]; omega
  have l4 : (b.take 4).length = 4 := by rw [List.length_take]; omega
  rw [l8] at b8
  have hT : (rdT b).length = rdC b := by unfold rdT; rw [if_pos h, List.length_take, List.length_drop]; omega
  have hC : ((rdC b : Nat) : Int) = getV (b.take 4) := by unfold rdC; omega
  have hS : rdS b = getV ((b.drop 4).take 8) := by unfold rdS; rw [if_pos h]
  have hTe : rdT b = (b.drop 16).take (rdC b) := by unfold rdT; rw [if_pos h]
  have hN : rdN b = 20 + rdC b := by unfold rdN; rw [if_pos h]
  have q4 := putL_getV (b.take 4) (hB.take 4) 0
  have q8 := putL_getV ((b.drop 4).take 8) hB8 0
  rw [l4, Int.zero_mul, Int.zero_add] at q4
  rw [l8, Int.zero_mul, Int.zero_add] at q8
  have hH : headL (rdT b).length (rdS b) = b.take 12 := by
    unfold headL
    rw [hT, hC, hS, q4, q8, ← List.take_add]
  refine ⟨?_, by rw [hS]; omega, by rw [hS]; omega, by rw [hT]; omega, by rw [hN]; exact h5, hT⟩
  unfold frmL
  rw [hH, ← h2, hTe, ← h6, hN]
  have e1 : b.take 12 ++ (b.drop 12).take 4 = b.take 16 := (List.take_add).symm
  have e2 : b.take 16 ++ (b.drop 16).take (rdC b) = b.take (16 + rdC b) := (List.take_add).symm
  have e3 : b.take (16 + rdC b) ++ (b.drop (16 + rdC b)).take 4 = b.take (16 + rdC b + 4) := (List.take_add).symm
  rw [← List.append_assoc, ← List.append_assoc, e1, e2, e3, show 16 + rdC b + 4 = 20 + rdC b from by omega]
set_option maxRecDepth 100000 in
theorem byte_eq {a b : Int} (ha : 0 ≤ a ∧ a ≤ 255) (hb : 0 ≤ b ∧ b ≤ 255) (h : ∀ i, i < 8 → a.toNat.testBit i = b.toNat.testBit i) : a = b := by
  have : a.toNat = b.toNat := by
    apply Nat.eq_of_testBit_eq
    intro i
    by_cases hi : i < 8
    · exact h i hi
    · have hp : 2 ^ 8 ≤ 2 ^ i := Nat.pow_le_pow_right (by decide) (by omega)
      rw [Nat.testBit_lt_two_pow (Nat.lt_of_lt_of_le (show a.toNat < 2 ^ 8 by omega) hp), Nat.testBit_lt_two_pow (Nat.lt_of_lt_of_le (show b.toNat < 2 ^ 8 by omega) hp)]
  omega
set_option maxRecDepth 100000 in
theorem getD_take_drop (l : List Int) (o n i : Nat) (h : i < n) : ((l.drop o).take n).getD i 0 = l.getD (o + i) 0 := by
  rw [List.getD_eq_getElem?_getD, List.getElem?_take, if_pos h, List.getElem?_drop, ← List.getD_eq_getElem?_getD]
set_option maxRecDepth 100000 in
/-- of a frame at most 32 bits in a row are turned: it is not read -/
theorem rd_burst (seq : Int) (b z f' : List Int) (at_ : Nat) (ef : Nat → Bool) (h1 : 1 ≤ seq) (h64 : seq < 18446744073709551616) (hb : b.length ≤ 16384) (hB : Byt b) (hl : f'.length = 20 + b.length) (hF : Byt f')
    (hbit : ∀ p, p < 8 * (20 + b.length) → (f'.getD (p / 8) 0).toNat.testBit (p % 8) = (((frmL seq b).getD (p / 8) 0).toNat.testBit (p % 8) ^^ ef p))
    (hw : ∀ p, ef p = true → at_ ≤ p ∧ p < at_ + 32) (hx : ∃ p, p < 8 * (20 + b.length) ∧ ef p = true) : rdE (f' ++ z) ≠ 0 := by
  obtain ⟨p1, p2, p3, p4, p5, p6, p7⟩ := frm_parts seq b [] (by omega) h64 hb
  rw [List.append_nil] at p1 p2 p3 p4 p5 p6 p7
  have hfl := frmL_len seq b
  have hfb := frmL_byt seq b hB
  intro h
  obtain ⟨k1, k2, k3, k4, k5, k6⟩ := (rdE_ok _).1 h
  have tk : ∀ n, n ≤ 20 + b.length → (f' ++ z).take n = f'.take n := fun n hn => List.take_append_of_le_length (by omega)
  have dk : ∀ o n, o + n ≤ 20 + b.length → ((f' ++ z).drop o).take n = (f'.drop o).take n := fun o n hn => by
    rw [List.drop_append_of_le_length (by omega), List.take_append_of_le_length (by rw [List.length_drop]; omega)]
  have bF : ∀ o n, Byt ((f'.drop o).take n) := fun o n c hc => hF c (List.mem_of_mem_drop (List.mem_of_mem_take hc))
  by_cases hhead : ∃ p, p < 128 ∧ ef p = true
  · rw [tk 12 (by omega), dk 12 4 (by omega)] at k2
    refine turned_bad (headL b.length seq) (four (crcN (headL b.length seq))) (f'.take 12) ((f'.drop 12).take 4) at_ ef rfl (by rw [List.length_take, List.length_drop]; omega) (by rw [List.length_take, headL_len]; omega) (headL_byt _ _) (four_byt _) (hF.take 12) (bF 12 4) rfl (fun p hp => ?_) hw ?_ k2
    · rw [headL_len] at hp
      have e1 : f'.take 12 ++ (f'.drop 12).take 4 = (f'.drop 0).take 16 := by rw [List.drop_zero]; exact (List.take_add).symm
      have e2 : headL b.length seq ++ four (crcN (headL b.length seq)) = ((frmL seq b).drop 0).take 16 := by
        have : (frmL seq b).take 12 ++ ((frmL seq b).drop 12).take 4 = (frmL seq b).take 16 := (List.take_add).symm
        rw [List.drop_zero, ← this, p1, p2]
      rw [e1, e2, getD_take_drop _ _ _ _ (by omega), getD_take_drop _ _ _ _ (by omega), Nat.zero_add]
      exact hbit p (by omega)
    · obtain ⟨p, hp, he⟩ := hhead
      exact ⟨p, by rw [headL_len]; omega, he⟩
  · have hsame : ∀ i, i < 16 → f'.getD i 0 = (frmL seq b).getD i 0 := by
      intro i hi
      have g1 : 0 ≤ f'.getD i 0 ∧ f'.getD i 0 ≤ 255 := by rw [List.getD_eq_getElem?_getD, List.getElem?_eq_getElem (by omega)]; exact hF _ (List.getElem_mem _)
      have g2 : 0 ≤ (frmL seq b).getD i 0 ∧ (frmL seq b).getD i 0 ≤ 255 := by rw [List.getD_eq_getElem?_getD, List.getElem?_eq_getElem (by omega)]; exact hfb _ (List.getElem_mem _)
      refine byte_eq g1 g2 (fun j hj => ?_)
      have hb := hbit (8 * i + j) (by omega)
      rw [show (8 * i + j) / 8 = i from by omega, show (8 * i + j) % 8 = j from by omega] at hb
      rw [hb]
      cases he : ef (8 * i + j) with
      | false => simp
      | true => exact absurd ⟨8 * i + j, by omega, he⟩ hhead
    have h4 : f'.take 4 = (frmL seq b).take 4 := by
      apply List.ext_getElem?
      intro i
      by_cases hi : i < 4
      · have := hsame i (by omega)
        rw [List.getD_eq_getElem?_getD, List.getElem?_eq_getElem (by omega), List.getD_eq_getElem?_getD, List.getElem?_eq_getElem (by omega)] at this
        rw [List.getElem?_take, if_pos hi, List.getElem?_take, if_pos hi, List.getElem?_eq_getElem (by omega), List.getElem?_eq_getElem (by omega)]
        exact congrArg some this
      · rw [List.getElem?_take, if_neg hi, List.getElem?_take, if_neg hi]
    have hC : rdC (f' ++ z) = b.length := by unfold rdC; rw [tk 4 (by omega), h4, p3]; omega
    rw [hC, dk (16 + b.length) 4 (by omega), dk 16 b.length (by omega)] at k6
    refine turned_bad b (four (crcN b)) ((f'.drop 16).take b.length) ((f'.drop (16 + b.length)).take 4) (at_ - 128) (fun p => ef (p + 128)) rfl (by rw [List.length_take, List.length_drop]; omega) (by rw [List.length_take, List.length_drop]; omega) hB (four_byt _) (bF _ _) (bF _ _) rfl (fun p hp => ?_) (fun p hp => ?_) ?_ k6
    · have e1 : (f'.drop 16).take b.length ++ (f'.drop (16 + b.length)).take 4 = (f'.drop 16).take (b.length + 4) := by rw [← List.drop_drop]; exact (List.take_add).symm
      have e2 : b ++ four (crcN b) = ((frmL seq b).drop 16).take (b.length + 4) := by
        have : ((frmL seq b).drop 16).take b.length ++ (((frmL seq b).drop 16).drop b.length).take 4 = ((frmL seq b).drop 16).take (b.length + 4) := (List.take_add).symm
        rw [← this, List.drop_drop, p6, p7]
      rw [e1, e2, getD_take_drop _ _ _ _ (by omega), getD_take_drop _ _ _ _ (by omega)]
      have hb := hbit (p + 128) (by omega)
      rw [show (p + 128) / 8 = 16 + p / 8 from by omega, show (p + 128) % 8 = p % 8 from by omega] at hb
      exact hb
    · have := hw _ hp
      omega
    · obtain ⟨p, hp, he⟩ := hx
      have hge : 128 ≤ p := by
        refine Classical.byContradiction fun hn => hhead ⟨p, by omega, he⟩
      exact ⟨p - 128, by omega, by show ef (p - 128 + 128) = true; rw [show p - 128 + 128 = p from by omega]; exact he⟩
end Go.Proofs.Ytjnjokbdoendkab
