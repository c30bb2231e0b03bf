/- Bytes whose names' letters are turned, as the law turns them: the same is read. No walk. -/
import Derived.Test.YtdameoejigpnhaaGreatDoorWireMath5
namespace Go.Proofs.YtdameoejigpnhaaGreatDoor
open Go.RowKit
set_option linter.unusedVariables false

/-- the empty line begins here -/
def brk (b : List Int) (i : Nat) : Prop := 2 ≤ i ∧ i + 1 < b.length ∧ b.getD (i - 2) 0 = 13 ∧ b.getD (i - 1) 0 = 10 ∧ b.getD i 0 = 13 ∧ b.getD (i + 1) 0 = 10
/-- within a name, by the bytes ahead -/
def nmF (b : List Int) : Nat → Bool
  | 0 => false
  | i + 1 => if b.getD i 0 = 10 then true else if b.getD i 0 = 58 then false else nmF b i
/-- letters that are turned -/
structure Cas (b c : List Int) : Prop where
  len : c.length = b.length
  eq : ∀ i, i < b.length → c.getD i 0 = b.getD i 0 ∨ ((∀ j, j ≤ i → ¬ brk b j) ∧ nmF b i = true ∧ lowB (b.getD i 0) = lowB (c.getD i 0) ∧ b.getD i 0 ≠ 58 ∧ c.getD i 0 ≠ 58)
set_option maxRecDepth 100000 in
theorem rlB_refl (s : WS) (a : Int) : rlB s a a := by
  cases s with
  | head h l c u =>
    show (if l = 0 ∨ 58 ∈ u then a = a else lowB a = lowB a ∧ (a = 58 ↔ a = 58))
    split
    · rfl
    · exact ⟨rfl, Iff.rfl⟩
  | fix h n u => rfl
  | chk h c => rfl
  | done x => rfl
set_option maxRecDepth 100000 in
theorem okC_refl : ∀ (l : List Int) (s : WS), okC s l l
  | [], _ => trivial
  | a :: r, s => ⟨rlB_refl s a, fun _ => okC_refl r _⟩
/-- where the reader stands behind i bytes, till the empty line begins -/
structure CI6 (b : List Int) (i : Nat) (l : Nat) (u : List Int) : Prop where
  nm : nmF b i = true → 1 ≤ l ∧ 58 ∉ u
  last : u ≠ [] → 1 ≤ i ∧ u.getLast? = some (b.getD (i - 1) 0)
  e0 : 1 ≤ l → u = [] → 2 ≤ i ∧ b.getD (i - 2) 0 = 13 ∧ b.getD (i - 1) 0 = 10
  e1 : 1 ≤ l → u = [13] → 3 ≤ i ∧ b.getD (i - 3) 0 = 13 ∧ b.getD (i - 2) 0 = 10 ∧ b.getD (i - 1) 0 = 13
set_option maxRecDepth 100000 in
theorem case_ok (b c : List Int) (hc : Cas b c) : ∀ (n i : Nat) (h : HD) (l cnt : Nat) (u : List Int), n = b.length - i → i ≤ b.length → (∀ j, j < i → ¬ brk b j) → CI6 b i l u → okC (.head h l cnt u) (b.drop i) (c.drop i)
  | 0, i, h, l, cnt, u, hn, hi, _, _ => by
    rw [List.drop_of_length_le (by omega), List.drop_of_length_le (by rw [hc.len]; omega)]; trivial
  | n + 1, i, h, l, cnt, u, hn, hi, hs, hI => by
    have hib : i < b.length := by omega
    rw [drop_head b i hib, drop_head c i (by rw [hc.len]; exact hib)]
    refine ⟨?_, fun h0 => ?_⟩
    · rcases hc.eq i hib with e | ⟨_, e1, e2, e3, e4⟩
      · rw [e]; exact rlB_refl _ _
      · obtain ⟨g1, g2⟩ := hI.nm e1
        show (if l = 0 ∨ 58 ∈ u then _ else _)
        rw [if_neg (by rintro (g | g); omega; exact g2 g)]
        exact ⟨e2, ⟨fun g => absurd g e3, fun g => absurd g e4⟩⟩
    · by_cases hbk : brk b i
      · have e : c.drop (i + 1) = b.drop (i + 1) := by
          apply List.ext_getElem?
          intro j
          rw [List.getElem?_drop, List.getElem?_drop]
          by_cases hj : i + 1 + j < b.length
          · rcases hc.eq (i + 1 + j) hj with e | ⟨e, _⟩
            · rw [List.getElem?_eq_getElem hj, List.getElem?_eq_getElem (by rw [hc.len]; exact hj)]
              rw [List.getD_eq_getElem?_getD, List.getD_eq_getElem?_getD, List.getElem?_eq_getElem hj, List.getElem?_eq_getElem (by rw [hc.len]; exact hj)] at e
              exact congrArg some e
            · exact absurd hbk (e i (by omega))
          · have hcl := hc.len
            rw [List.getElem?_eq_none (by omega), List.getElem?_eq_none (by omega)]
        rw [e]; exact okC_refl _ _
      · have hs2 : ∀ j, j < i + 1 → ¬ brk b j := fun j hj => by
          by_cases e : j = i
          · rw [e]; exact hbk
          · exact hs j (by omega)
        simp only [wst] at h0 ⊢
        by_cases h1 : 1024 ≤ cnt
        · rw [if_pos h1] at h0; simp at h0
        · rw [if_neg h1] at h0 ⊢
          by_cases h2 : bhd u = true ∧ b.getD i 0 = 10
          · rw [if_pos h2] at h0 ⊢
            have hu : u ≠ [] := fun e => by have := h2.1; rw [e] at this; exact absurd this (by decide)
            obtain ⟨g1, g2⟩ := hI.last hu
            have h13 : b.getD (i - 1) 0 = 13 := by
              have := h2.1
              unfold bhd at this
              rw [decide_eq_true_iff, g2] at this
              simpa using this
            have hnew : ∀ l2, 1 ≤ l2 → CI6 b (i + 1) l2 [] := fun l2 hl2 =>
              ⟨fun _ => ⟨hl2, by simp⟩, fun e => absurd rfl e, fun _ _ => ⟨by omega, by rw [show i + 1 - 2 = i - 1 from by omega]; exact h13, by rw [Nat.add_sub_cancel]; exact h2.2⟩, fun _ e => by cases e⟩
            unfold eol at h0 ⊢
            by_cases hl : l = 0
            · rw [if_pos hl] at h0 ⊢
              cases hF : wp0.F u.dropLast with
              | none => rw [hF] at h0; simp at h0
              | some mt =>
                obtain ⟨m, t⟩ := mt
                exact case_ok b c hc n (i + 1) _ 1 _ [] (by omega) (by omega) hs2 (hnew 1 (Nat.le_refl _))
            · rw [if_neg hl] at h0 ⊢
              by_cases h3 : u.dropLast = []
              · exfalso
                have hu1 : u = [13] := by
                  cases u with
                  | nil => exact absurd rfl hu
                  | cons x r =>
                    cases r with
                    | nil =>
                      have := h2.1
                      unfold bhd at this
                      simp at this
                      rw [this]
                    | cons y s => simp at h3
                obtain ⟨k1, k2, k3, k4⟩ := hI.e1 (by omega) hu1
                refine hs (i - 1) (by omega) ⟨by omega, by omega, ?_, ?_, k4, ?_⟩
                · rw [show i - 1 - 2 = i - 3 from by omega]; exact k2
                · rw [show i - 1 - 1 = i - 2 from by omega]; exact k3
                · rw [show i - 1 + 1 = i from by omega]; exact h2.2
              · rw [if_neg h3] at h0 ⊢
                by_cases h4 : 17 ≤ l
                · rw [if_pos h4] at h0; simp at h0
                · rw [if_neg h4] at h0 ⊢
                  exact case_ok b c hc n (i + 1) _ (l + 1) _ [] (by omega) (by omega) hs2 (hnew (l + 1) (by omega))
          · rw [if_neg h2] at h0 ⊢
            by_cases h3 : badB u (b.getD i 0) = true
            · rw [if_pos h3] at h0; simp at h0
            · rw [if_neg h3]
              have h10 : b.getD i 0 ≠ 10 := fun e => h3 ((badB_iff _ _).2 (.inr (.inl e)))
              refine case_ok b c hc n (i + 1) h l (cnt + 1) (u ++ [b.getD i 0]) (by omega) (by omega) hs2 ⟨fun hnm => ?_, fun _ => ⟨by omega, by simp⟩, fun _ e => absurd e (by simp), fun hl1 e => ?_⟩
              · unfold nmF at hnm
                rw [if_neg h10] at hnm
                by_cases h58 : b.getD i 0 = 58
                · rw [if_pos h58] at hnm; cases hnm
                · rw [if_neg h58] at hnm
                  obtain ⟨g1, g2⟩ := hI.nm hnm
                  refine ⟨g1, fun g => ?_⟩
                  rcases List.mem_append.1 g with g | g
                  · exact g2 g
                  · simp only [List.mem_cons, List.not_mem_nil, or_false] at g
                    exact h58 g.symm
              · have hu0 : u = [] := by
                  cases u with
                  | nil => rfl
                  | cons x r => have := congrArg List.length e; simp at this
                rw [hu0] at e
                have h13 : b.getD i 0 = 13 := by simpa using e
                obtain ⟨k1, k2, k3⟩ := hI.e0 hl1 hu0
                exact ⟨by omega, by rw [show i + 1 - 3 = i - 2 from by omega]; exact k2, by rw [show i + 1 - 2 = i - 1 from by omega]; exact k3, by rw [Nat.add_sub_cancel]; exact h13⟩
set_option maxRecDepth 100000 in
/-- the same is read -/
theorem case_run {b c : List Int} (hc : Cas b c) : runQ wp0 ws0 b 0 = runQ wp0 ws0 c 0 := by
  have h := case_ok b c hc b.length 0 hd0 0 0 [] rfl (Nat.zero_le _) (fun j hj => by omega) ⟨fun h => (by cases h), fun h => absurd rfl h, fun h => by omega, fun h => by omega⟩
  rw [List.drop_zero, List.drop_zero] at h
  exact run_case b c ws0 ws0 0 (smQ_refl _) h
end Go.Proofs.YtdameoejigpnhaaGreatDoor
