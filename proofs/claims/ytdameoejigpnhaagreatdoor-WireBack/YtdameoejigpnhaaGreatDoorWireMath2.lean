/- Requests all at once, line by line, as the document reads them: the same as byte by byte. No walk. -/
import Derived.Test.YtdameoejigpnhaaGreatDoorWireMath
namespace Go.Proofs.YtdameoejigpnhaaGreatDoor
open Go.RowKit
set_option linter.unusedVariables false

/-- the line at a place p of a head, looked for from i on: its bytes, how many with CR and LF, the error -/
def lnR (b : List Int) (p : Nat) : Nat → Nat → List Int × Nat × Int
  | 0, _ => ([], 0, 3)
  | f + 1, i => if b.length ≤ i then ([], 0, 3) else if 1024 ≤ i then ([], 0, 5) else
    if (p < i ∧ b.getD (i - 1) 0 = 13) ∧ b.getD i 0 = 10 then ((b.drop p).take (i - 1 - p), i + 1 - p, 0) else
    if (p < i ∧ b.getD (i - 1) 0 = 13) ∨ b.getD i 0 = 10 ∨ (b.getD i 0 ≠ 13 ∧ (b.getD i 0 < 32 ∨ 127 ≤ b.getD i 0)) then ([], 0, 4) else lnR b p f (i + 1)
set_option maxRecDepth 100000 in
theorem bhd_part (b : List Int) (p i : Nat) (hi : i ≤ b.length) (hp : p ≤ i) : (bhd ((b.drop p).take (i - p)) = true) ↔ (p < i ∧ b.getD (i - 1) 0 = 13) := by
  unfold bhd
  rw [decide_eq_true_iff, List.getLast?_eq_getElem?]
  have hl : ((b.drop p).take (i - p)).length = i - p := by rw [List.length_take, List.length_drop]; omega
  rw [hl]
  by_cases h : p < i
  · rw [List.getElem?_take, if_pos (by omega), List.getElem?_drop, show p + (i - p - 1) = i - 1 from by omega, List.getD_eq_getElem?_getD, List.getElem?_eq_getElem (by omega : i - 1 < b.length)]
    simp [h]
  · rw [List.getElem?_eq_none (by rw [hl]; omega)]
    simp [h]
set_option maxRecDepth 100000 in
theorem badB_iff (cur : List Int) (c : Int) : (badB cur c = true) ↔ (bhd cur = true ∨ c = 10 ∨ (c ≠ 13 ∧ (c < 32 ∨ 127 ≤ c))) := by
  unfold badB
  simp [Bool.or_eq_true, Bool.and_eq_true]
set_option maxRecDepth 100000 in
theorem part_snoc (b : List Int) (p i : Nat) (hi : i < b.length) (hp : p ≤ i) : (b.drop p).take (i - p) ++ [b.getD i 0] = (b.drop p).take (i + 1 - p) := by
  rw [show i + 1 - p = (i - p) + 1 from by omega, take_succ_getD (b.drop p) (i - p) (by rw [List.length_drop]; omega)]
  congr 2
  rw [List.getD_eq_getElem?_getD, List.getD_eq_getElem?_getD, List.getElem?_drop, show p + (i - p) = i from by omega]
set_option maxRecDepth 100000 in
theorem part_last (b : List Int) (p i : Nat) (hi : i ≤ b.length) (hp : p < i) : ((b.drop p).take (i - p)).dropLast = (b.drop p).take (i - 1 - p) := by
  rw [List.dropLast_eq_take, List.length_take, List.length_drop, List.take_take]
  congr 1
  omega
set_option maxRecDepth 100000 in
theorem drop_head (l : List Int) (k : Nat) (h : k < l.length) : l.drop k = l.getD k 0 :: l.drop (k + 1) := by
  rw [List.getD_eq_getElem?_getD, List.getElem?_eq_getElem h]; exact List.drop_eq_getElem_cons h
set_option maxRecDepth 100000 in
/-- a line, byte by byte and at once -/
theorem run_ln (P : WP) (h : HD) (lines : Nat) (b : List Int) (p : Nat) : ∀ (f i : Nat), p ≤ i → i ≤ b.length → b.length < f + i →
    runQ P (.head h lines i ((b.drop p).take (i - p))) (b.drop i) i = if (lnR b p f i).2.2 ≠ 0 then (wx0, 0, (lnR b p f i).2.2) else
      if (eol P h lines (p + (lnR b p f i).2.1) (lnR b p f i).1).2 ≠ 0 then (wx0, 0, (eol P h lines (p + (lnR b p f i).2.1) (lnR b p f i).1).2) else
      runQ P (eol P h lines (p + (lnR b p f i).2.1) (lnR b p f i).1).1 (b.drop (p + (lnR b p f i).2.1)) (p + (lnR b p f i).2.1)
  | 0, i, hp, hi, hf => by omega
  | f + 1, i, hp, hi, hf => by
    unfold lnR
    by_cases he : b.length ≤ i
    · rw [if_pos he, if_pos (by simp), List.drop_of_length_le he, runQ_nil P rfl]
    · rw [if_neg he, drop_head b i (by omega), runQ_cons P rfl]
      by_cases h1 : 1024 ≤ i
      · have e : wst P (.head h lines i ((b.drop p).take (i - p))) (b.getD i 0) = (.head h lines i ((b.drop p).take (i - p)), 5) := by simp only [wst]; rw [if_pos h1]
        rw [e, if_pos h1, if_pos (by simp), if_pos (by simp)]
      · rw [if_neg h1]
        have hb := bhd_part b p i hi hp
        by_cases h2 : (p < i ∧ b.getD (i - 1) 0 = 13) ∧ b.getD i 0 = 10
        · have e : wst P (.head h lines i ((b.drop p).take (i - p))) (b.getD i 0) = eol P h lines (i + 1) ((b.drop p).take (i - 1 - p)) := by
            simp only [wst]; rw [if_neg h1, if_pos ⟨hb.2 h2.1, h2.2⟩, part_last b p i hi h2.1.1]
          have e2 : p + (i + 1 - p) = i + 1 := by omega
          rw [e, if_pos h2]
          simp only [e2, ne_eq, not_true_eq_false, if_false]
        · rw [if_neg h2]
          by_cases h3 : (p < i ∧ b.getD (i - 1) 0 = 13) ∨ b.getD i 0 = 10 ∨ (b.getD i 0 ≠ 13 ∧ (b.getD i 0 < 32 ∨ 127 ≤ b.getD i 0))
          · have e : wst P (.head h lines i ((b.drop p).take (i - p))) (b.getD i 0) = (.head h lines i ((b.drop p).take (i - p)), 4) := by
              simp only [wst]; rw [if_neg h1, if_neg (fun hh => h2 ⟨hb.1 hh.1, hh.2⟩), if_pos ((badB_iff _ _).2 (by rw [hb]; exact h3))]
            rw [e, if_pos h3, if_pos (by simp), if_pos (by simp)]
          · have e : wst P (.head h lines i ((b.drop p).take (i - p))) (b.getD i 0) = (.head h lines (i + 1) ((b.drop p).take (i + 1 - p)), 0) := by
              simp only [wst]; rw [if_neg h1, if_neg (fun hh => h2 ⟨hb.1 hh.1, hh.2⟩), if_neg (fun hh => h3 (by rw [← hb]; exact (badB_iff _ _).1 hh)), part_snoc b p i (by omega) hp]
            rw [e, if_neg h3, if_neg (by simp)]
            exact run_ln P h lines b p f (i + 1) (by omega) (by omega) (by omega)
set_option maxRecDepth 100000 in
theorem lnR_ok (b : List Int) (p : Nat) : ∀ (f i : Nat), p ≤ i → (lnR b p f i).2.2 = 0 → 2 ≤ (lnR b p f i).2.1 ∧ p + (lnR b p f i).2.1 ≤ b.length ∧ (lnR b p f i).1.length + 2 = (lnR b p f i).2.1 ∧ (lnR b p f i).1 = (b.drop p).take (lnR b p f i).1.length ∧ p + (lnR b p f i).2.1 ≤ 1024
  | 0, i, _, h => by simp [lnR] at h
  | f + 1, i, hp, h => by
    unfold lnR at h ⊢
    by_cases he : b.length ≤ i
    · rw [if_pos he] at h; simp at h
    · rw [if_neg he] at h ⊢
      by_cases h1 : 1024 ≤ i
      · rw [if_pos h1] at h; simp at h
      · rw [if_neg h1] at h ⊢
        by_cases h2 : (p < i ∧ b.getD (i - 1) 0 = 13) ∧ b.getD i 0 = 10
        · rw [if_pos h2] at h ⊢
          have hl : ((b.drop p).take (i - 1 - p)).length = i - 1 - p := by rw [List.length_take, List.length_drop]; omega
          have := h2.1.1
          refine ⟨by show 2 ≤ i + 1 - p; omega, by show p + (i + 1 - p) ≤ _; omega, by show ((b.drop p).take (i - 1 - p)).length + 2 = i + 1 - p; omega, ?_, by show p + (i + 1 - p) ≤ _; omega⟩
          show (b.drop p).take (i - 1 - p) = (b.drop p).take ((b.drop p).take (i - 1 - p)).length
          rw [hl]
        · rw [if_neg h2] at h ⊢
          by_cases h3 : (p < i ∧ b.getD (i - 1) 0 = 13) ∨ b.getD i 0 = 10 ∨ (b.getD i 0 ≠ 13 ∧ (b.getD i 0 < 32 ∨ 127 ≤ b.getD i 0))
          · rw [if_pos h3] at h; simp at h
          · rw [if_neg h3] at h ⊢
            exact lnR_ok b p f (i + 1) (by omega) h
/-- line by line; then the body -/
def whQ (P : WP) (b : List Int) : Nat → Nat → Nat → HD → WX × Nat × Int
  | 0, _, _, _ => (wx0, 0, 3)
  | f + 1, p, lines, h =>
    if (lnR b p (b.length + 1 - p) p).2.2 ≠ 0 then (wx0, 0, (lnR b p (b.length + 1 - p) p).2.2) else
    if lines = 0 then (match P.F (lnR b p (b.length + 1 - p) p).1 with | none => (wx0, 0, 4) | some (m, t) => whQ P b f (p + (lnR b p (b.length + 1 - p) p).2.1) 1 { h with m := m, t := t }) else
    if (lnR b p (b.length + 1 - p) p).1 = [] then bodR h b (p + (lnR b p (b.length + 1 - p) p).2.1) else
    if 17 ≤ lines then (wx0, 0, 5) else
    if (P.G h (lnR b p (b.length + 1 - p) p).1).2 ≠ 0 then (wx0, 0, (P.G h (lnR b p (b.length + 1 - p) p).1).2) else
    whQ P b f (p + (lnR b p (b.length + 1 - p) p).2.1) (lines + 1) (P.G h (lnR b p (b.length + 1 - p) p).1).1
set_option maxRecDepth 100000 in
theorem whQ_run (P : WP) (b : List Int) : ∀ (f p lines : Nat) (h : HD), p ≤ b.length → b.length < f + p → whQ P b f p lines h = runQ P (.head h lines p []) (b.drop p) p
  | 0, p, lines, h, hp, hf => by omega
  | f + 1, p, lines, h, hp, hf => by
    have hrun := run_ln P h lines b p (b.length + 1 - p) p (Nat.le_refl _) hp (by omega)
    rw [Nat.sub_self, List.take_zero] at hrun
    rw [hrun]
    unfold whQ
    by_cases h1 : (lnR b p (b.length + 1 - p) p).2.2 ≠ 0
    · rw [if_pos h1, if_pos h1]
    · rw [if_neg h1, if_neg h1]
      obtain ⟨k1, k2, _⟩ := lnR_ok b p _ p (Nat.le_refl _) (by simpa using h1)
      generalize lnR b p (b.length + 1 - p) p = Z at k1 k2
      obtain ⟨l, n, e⟩ := Z
      simp only at k1 k2 ⊢
      unfold eol
      by_cases h2 : lines = 0
      · rw [if_pos h2, if_pos h2]
        cases hF : P.F l with
        | none => simp only []; rw [if_pos (by simp)]
        | some mt =>
          obtain ⟨m, t⟩ := mt
          simp only []
          rw [if_neg (by simp)]
          exact whQ_run P b f (p + n) 1 _ k2 (by omega)
      · rw [if_neg h2, if_neg h2]
        by_cases h3 : l = []
        · rw [if_pos h3, if_pos h3, if_neg (by simp)]
          exact (run_bod P h b (p + n)).symm
        · rw [if_neg h3, if_neg h3]
          by_cases h4 : 17 ≤ lines
          · rw [if_pos h4, if_pos h4, if_pos (by simp)]
          · rw [if_neg h4, if_neg h4]
            by_cases h5 : (P.G h l).2 ≠ 0
            · rw [if_pos h5, if_pos h5]
            · rw [if_neg h5, if_neg h5]
              exact whQ_run P b f (p + n) (lines + 1) _ k2 (by omega)
end Go.Proofs.YtdameoejigpnhaaGreatDoor
