/- CRC-32: the register, bit by bit; that at most 32 bits in a row that are turned are found: no walk. What frames are, what reading answers; there and back; that a frame of which at most 32 bits in a row are turned is not read: no walk. -/
import Derived.Test.YtjnjokbdoendkaaGreatBase
import Derived.Test.YtjnjokbdoendkaaGreatSma
namespace Go.Proofs.YtjnjokbdoendkaaGreat
open Go.RowKit
set_option linter.unusedVariables false

/-- one shift of the sum's register -/
def crT (c : BitVec 32) : BitVec 32 := (c >>> 1) ^^^ (if c.getLsbD 0 then (BitVec.ofNat 32 0xedb88320) else (BitVec.ofNat 32 0))
/-- n shifts -/
def crN : Nat → BitVec 32 → BitVec 32
  | 0, c => c
  | n + 1, c => crN n (crT c)
/-- the register behind bytes -/
def crcS (c : BitVec 32) : List Int → BitVec 32
  | [] => c
  | b :: l => crcS (crN 8 (c ^^^ BitVec.ofNat 32 b.toNat)) l
/-- the sum -/
def crO : BitVec 32 := (BitVec.ofNat 32 0xffffffff)
def crcL (l : List Int) : BitVec 32 := crcS crO l ^^^ crO
/-- a sum as bytes, the lowest first -/
def four (n : Nat) : List Int := [((n % 256 : Nat) : Int), ((n / 256 % 256 : Nat) : Int), ((n / 65536 % 256 : Nat) : Int), ((n / 16777216 % 256 : Nat) : Int)]
set_option maxRecDepth 100000 in
theorem four_byt (n : Nat) : Byt (four n) := by
  intro c hc
  simp only [four, List.mem_cons, List.not_mem_nil, or_false] at hc
  rcases hc with rfl | rfl | rfl | rfl <;> omega
end Go.Proofs.YtjnjokbdoendkaaGreat
namespace Go.Proofs.YtjnjokbdoendkaaGreat
open Go.RowKit
set_option linter.unusedVariables false

set_option maxRecDepth 100000 in
theorem getV_putL (x : Int) (n : Nat) (h0 : 0 ≤ x) : getV (putL x n) = x % 256 ^ n := by
  suffices H : ∀ (n : Nat) (acc : Int), (putL x n).foldl (fun y c => 256 * y + c) acc = acc * 256 ^ n + x % 256 ^ n by
    have := H n 0; unfold getV; rw [this]; omega
  intro n
  induction n with
  | zero => intro acc; simp [putL, Int.emod_one]
  | succ n ih =>
    intro acc
    show (putL x n).foldl _ (256 * acc + sh x n % 256) = _
    rw [ih, Int.pow_succ]
    unfold sh
    have hp : (0 : Int) < 256 ^ n := Int.pow_pos (by decide)
    generalize (256 : Int) ^ n = P at *
    have e1 := Int.emod_add_mul_ediv x P
    have e2 := Int.emod_add_mul_ediv (x / P) 256
    have r1 := Int.emod_nonneg x (Int.ne_of_gt hp)
    have r2 := Int.emod_lt_of_pos x hp
    have hx : x = (x % P + P * (x / P % 256)) + (P * 256) * (x / P / 256) := by
      conv => lhs; rw [← e1, ← e2]
      rw [Int.mul_add, Int.mul_assoc, Int.add_assoc]
    have q0 : 0 ≤ x / P % 256 := Int.emod_nonneg _ (by decide)
    have q1 : x / P % 256 ≤ 255 := by have := Int.emod_lt_of_pos (x / P) (show (0 : Int) < 256 by decide); omega
    have m0 : 0 ≤ P * (x / P % 256) := Int.mul_nonneg (Int.le_of_lt hp) q0
    have m1 : P * (x / P % 256) ≤ P * 255 := Int.mul_le_mul_of_nonneg_left q1 (Int.le_of_lt hp)
    have hm : x % (P * 256) = x % P + P * (x / P % 256) := by
      conv => lhs; rw [hx]
      rw [Int.add_mul_emod_self_left, Int.emod_eq_of_lt (by omega) (by omega)]
    rw [hm, Int.add_mul, Int.mul_comm 256 acc, Int.mul_assoc, Int.mul_comm 256 P, Int.mul_comm (x / P % 256) P]
    omega
set_option maxRecDepth 100000 in
/-- bytes put together are the bytes again -/
theorem getV_cons (c : Int) (l : List Int) : getV (c :: l) = c * 256 ^ l.length + getV l := by
  suffices H : ∀ (l : List Int) (a : Int), l.foldl (fun x c => 256 * x + c) a = a * 256 ^ l.length + l.foldl (fun x c => 256 * x + c) 0 by
    have := H l (256 * 0 + c); unfold getV; rw [List.foldl_cons, this]; simp
  intro l
  induction l with
  | nil => intro a; simp
  | cons d l ih =>
    intro a
    rw [List.foldl_cons, List.foldl_cons, ih (256 * a + d), ih (256 * 0 + d), List.length_cons, Int.pow_succ, Int.add_mul, Int.mul_comm 256 a, Int.mul_assoc, Int.mul_comm 256 (256 ^ l.length)]
    simp; omega
set_option maxRecDepth 100000 in
theorem putL_getV : ∀ (l : List Int), Byt l → ∀ k : Int, putL (k * 256 ^ l.length + getV l) l.length = l := by
  intro l
  induction l with
  | nil => intro _ _; rfl
  | cons c l ih =>
    intro h k
    have hc := h c (by simp)
    have hl : Byt l := fun d hd => h d (by simp [hd])
    have hb := getV_bd l hl
    have hp : (0 : Int) < 256 ^ l.length := Int.pow_pos (by decide)
    rw [getV_cons, List.length_cons]
    show sh _ l.length % 256 :: putL _ l.length = _
    have e : k * 256 ^ (l.length + 1) + (c * 256 ^ l.length + getV l) = (k * 256 + c) * 256 ^ l.length + getV l := by
      rw [Int.pow_succ, Int.add_mul, Int.mul_comm (256 ^ l.length) 256, Int.mul_assoc]; omega
    rw [e, ih hl (k * 256 + c)]
    congr 1
    unfold sh
    rw [Int.add_comm, Int.add_mul_ediv_right _ _ (Int.ne_of_gt hp), Int.ediv_eq_zero_of_lt hb.1 hb.2]
    omega
/-- a sum as a number -/
def crcN (l : List Int) : Nat := (crcL l).toNat
/-- a frame's head: how many bytes, and the number -/
def headL (n : Nat) (seq : Int) : List Int := putL (n : Int) 4 ++ putL seq 8
/-- a frame -/
def frmL (seq : Int) (b : List Int) : List Int := headL b.length seq ++ (four (crcN (headL b.length seq)) ++ (b ++ four (crcN b)))
set_option maxRecDepth 100000 in
theorem headL_len (n : Nat) (seq : Int) : (headL n seq).length = 12 := by unfold headL; rw [List.length_append, putL_length, putL_length]
set_option maxRecDepth 100000 in
theorem headL_byt (n : Nat) (seq : Int) : Byt (headL n seq) := (putL_byt _ _).append (putL_byt _ _)
set_option maxRecDepth 100000 in
theorem four_len (n : Nat) : (four n).length = 4 := rfl
set_option maxRecDepth 100000 in
theorem frmL_len (seq : Int) (b : List Int) : (frmL seq b).length = 20 + b.length := by
  unfold frmL; rw [List.length_append, List.length_append, List.length_append, headL_len, four_len, four_len]; omega
set_option maxRecDepth 100000 in
theorem frmL_byt (seq : Int) (b : List Int) (h : Byt b) : Byt (frmL seq b) := (headL_byt _ _).append ((four_byt _).append (h.append (four_byt _)))
/-- how many bytes a head says -/
def rdC (b : List Int) : Nat := (getV (b.take 4)).toNat
/-- what reading answers: the error -/
def rdE (b : List Int) : Int :=
  if b.length < 16 then 3
  else if (b.drop 12).take 4 ≠ four (crcN (b.take 12)) then 13
  else if getV ((b.drop 4).take 8) = 0 then 4
  else if 16384 < getV (b.take 4) then 5
  else if b.length < 20 + rdC b then 3
  else if (b.drop (16 + rdC b)).take 4 ≠ four (crcN ((b.drop 16).take (rdC b))) then 13
  else 0
/-- .. the number, the text, how many bytes -/
def rdS (b : List Int) : Int := if rdE b = 0 then getV ((b.drop 4).take 8) else 0
def rdT (b : List Int) : List Int := if rdE b = 0 then (b.drop 16).take (rdC b) else []
def rdN (b : List Int) : Nat := if rdE b = 0 then 20 + rdC b else 0
set_option maxRecDepth 100000 in
theorem rdE_ok (b : List Int) : rdE b = 0 ↔ 16 ≤ b.length ∧ (b.drop 12).take 4 = four (crcN (b.take 12)) ∧ getV ((b.drop 4).take 8) ≠ 0 ∧ getV (b.take 4) ≤ 16384 ∧ 20 + rdC b ≤ b.length ∧ (b.drop (16 + rdC b)).take 4 = four (crcN ((b.drop 16).take (rdC b))) := by
  unfold rdE
  constructor
  · intro h
    split at h
    · cases h
    · split at h
      · cases h
      · rename_i h1 h2
        split at h
        · cases h
        · rename_i h3
          split at h
          · cases h
          · rename_i h4
            split at h
            · cases h
            · rename_i h5
              split at h
              · cases h
              · rename_i h6
                exact ⟨by omega, Classical.not_not.1 h2, h3, by omega, by omega, Classical.not_not.1 h6⟩
  · rintro ⟨h1, h2, h3, h4, h5, h6⟩
    rw [if_neg (by omega), if_neg (fun h => h h2), if_neg h3, if_neg (by omega), if_neg (by omega), if_neg (fun h => h h6)]
set_option maxRecDepth 100000 in
/-- the pieces of what begins with a frame -/
theorem frm_parts (seq : Int) (b z : List Int) (h0 : 0 ≤ seq) (h64 : seq < 18446744073709551616) (hb : b.length ≤ 16384) :
    (frmL seq b ++ z).take 12 = headL b.length seq ∧ ((frmL seq b ++ z).drop 12).take 4 = four (crcN (headL b.length seq)) ∧ getV ((frmL seq b ++ z).take 4) = (b.length : Int) ∧ getV (((frmL seq b ++ z).drop 4).take 8) = seq ∧
    rdC (frmL seq b ++ z) = b.length ∧ ((frmL seq b ++ z).drop 16).take b.length = b ∧ ((frmL seq b ++ z).drop (16 + b.length)).take 4 = four (crcN b) := by
  have hh := headL_len b.length seq
  have hf := four_len (crcN (headL b.length seq))
  have hg := four_len (crcN b)
  have e : frmL seq b ++ z = headL b.length seq ++ (four (crcN (headL b.length seq)) ++ (b ++ (four (crcN b) ++ z))) := by unfold frmL; simp
  have e4 : getV ((frmL seq b ++ z).take 4) = (b.length : Int) := by
    rw [e, List.take_append_of_le_length (by rw [hh]; decide)]
    unfold headL
    rw [List.take_append_of_le_length (by rw [putL_length]; exact Nat.le_refl _), List.take_of_length_le (by rw [putL_length]; exact Nat.le_refl _), getV_putL _ _ (by omega)]
    exact Int.emod_eq_of_lt (by omega) (by omega)
  have e8 : getV (((frmL seq b ++ z).drop 4).take 8) = seq := by
    rw [e, List.drop_append_of_le_length (by rw [hh]; decide)]
    have hd : (headL b.length seq).drop 4 = putL seq 8 := by
      unfold headL
      rw [List.drop_append_of_le_length (by rw [putL_length]; exact Nat.le_refl _), List.drop_of_length_le (by rw [putL_length]; exact Nat.le_refl _)]; rfl
    rw [hd, List.take_append_of_le_length (by rw [putL_length]; exact Nat.le_refl _), List.take_of_length_le (by rw [putL_length]; exact Nat.le_refl _), getV_putL _ _ h0]
    exact Int.emod_eq_of_lt h0 (by omega)
  refine ⟨?_, ?_, e4, e8, by unfold rdC; rw [e4]; omega, ?_, ?_⟩
  · rw [e, List.take_append_of_le_length (by rw [hh]; exact Nat.le_refl _), List.take_of_length_le (by rw [hh]; exact Nat.le_refl _)]
  · rw [e, show (12 : Nat) = (headL b.length seq).length from hh.symm, List.drop_left, List.take_append_of_le_length (by rw [hf]; exact Nat.le_refl _), List.take_of_length_le (by rw [hf]; exact Nat.le_refl _)]
  · rw [e, ← List.append_assoc, show (16 : Nat) = (headL b.length seq ++ four (crcN (headL b.length seq))).length from by rw [List.length_append, hh, hf], List.drop_left, List.take_left]
  · rw [e, ← List.append_assoc, ← List.append_assoc, show 16 + b.length = (headL b.length seq ++ four (crcN (headL b.length seq)) ++ b).length from by rw [List.length_append, List.length_append, hh, hf], List.drop_left, List.take_append_of_le_length (by rw [hg]; exact Nat.le_refl _), List.take_of_length_le (by rw [hg]; exact Nat.le_refl _)]
set_option maxRecDepth 100000 in
/-- what is put is read, whatever stands behind -/
theorem rd_back (seq : Int) (b z : List Int) (h1 : 1 ≤ seq) (h64 : seq < 18446744073709551616) (hb : b.length ≤ 16384) : rdE (frmL seq b ++ z) = 0 ∧ rdS (frmL seq b ++ z) = seq ∧ rdT (frmL seq b ++ z) = b ∧ rdN (frmL seq b ++ z) = 20 + b.length := by
  obtain ⟨p1, p2, p3, p4, p5, p6, p7⟩ := frm_parts seq b z (by omega) h64 hb
  have hl : (frmL seq b ++ z).length = 20 + b.length + z.length := by rw [List.length_append, frmL_len]
  have h0 : rdE (frmL seq b ++ z) = 0 := (rdE_ok _).2 ⟨by omega, by rw [p1, p2], by rw [p4]; omega, by rw [p3]; omega, by rw [p5]; omega, by rw [p5, p6, p7]⟩
  refine ⟨h0, ?_, ?_, ?_⟩
  · unfold rdS; rw [if_pos h0, p4]
  · unfold rdT; rw [if_pos h0, p5, p6]
  · unfold rdN; rw [if_pos h0, p5]
set_option maxRecDepth 100000 in
/-- what is read, put again, is the bytes -/
theorem rd_one (b : List Int) (hB : Byt b) (h : rdE b = 0) : frmL (rdS b) (rdT b) = b.take (rdN b) ∧ 1 ≤ rdS b ∧ rdS b < 18446744073709551616 ∧ (rdT b).length ≤ 16384 ∧ rdN b ≤ b.length ∧ (rdT b).length = rdC b := by
  obtain ⟨h1, h2, h3, h4, h5, h6⟩ := (rdE_ok b).1 h
  have b4 := getV_bd (b.take 4) (hB.take 4)
  have hB8 : Byt ((b.drop 4).take 8) := fun c hc => hB c (List.mem_of_mem_drop (List.mem_of_mem_take hc))
  have b8 := getV_bd ((b.drop 4).take 8) hB8
  have l8 : ((b.drop 4).take 8).length = 8 := by rw [List.length_take, List.length_drop]; omega
  have l4 : (b.take 4).length = 4 := by rw [List.length_take]; omega
  rw [l8] at b8
  have hT : (rdT b).length = rdC b := by unfold rdT; rw [if_pos h, List.length_take, List.length_drop]; omega
  have hC : ((rdC b : Nat) : Int) = getV (b.take 4) := by unfold rdC; omega
  have hS : rdS b = getV ((b.drop 4).take 8) := by unfold rdS; rw [if_pos h]
  have hTe : rdT b = (b.drop 16).take (rdC b) := by unfold rdT; rw [if_pos h]
  have hN : rdN b = 20 + rdC b := by unfold rdN; rw [if_pos h]
  have q4 := putL_getV (b.take 4) (hB.take 4) 0
  have q8 := putL_getV ((b.drop 4).take 8) hB8 0
  rw [l4, Int.zero_mul, Int.zero_add] at q4
  rw [l8, Int.zero_mul, Int.zero_add] at q8
  have hH : headL (rdT b).length (rdS b) = b.take 12 := by
    unfold headL
    rw [hT, hC, hS, q4, q8, ← List.take_add]
  refine ⟨?_, by rw [hS]; omega, by rw [hS]; omega, by rw [hT]; omega, by rw [hN]; exact h5, hT⟩
  unfold frmL
  rw [hH, ← h2, hTe, ← h6, hN]
  have e1 : b.take 12 ++ (b.drop 12).take 4 = b.take 16 := (List.take_add).symm
  have e2 : b.take 16 ++ (b.drop 16).take (rdC b) = b.take (16 + rdC b) := (List.take_add).symm
  have e3 : b.take (16 + rdC b) ++ (b.drop (16 + rdC b)).take 4 = b.take (16 + rdC b + 4) := (List.take_add).symm
  rw [← List.append_assoc, ← List.append_assoc, e1, e2, e3, show 16 + rdC b + 4 = 20 + rdC b from by omega]
set_option maxRecDepth 100000 in
theorem getD_take_drop (l : List Int) (o n i : Nat) (h : i < n) : ((l.drop o).take n).getD i 0 = l.getD (o + i) 0 := by
  rw [List.getD_eq_getElem?_getD, List.getElem?_take, if_pos h, List.getElem?_drop, ← List.getD_eq_getElem?_getD]
end Go.Proofs.YtjnjokbdoendkaaGreat
