/- What is minted is read as what it says. -/
import Derived.Test.YtdoedkgidcoibaaDoorOpen
namespace Go.Proofs.YtdoedkgidcoibaaDoor
open Go.RowKit
set_option linter.unusedVariables false

theorem tok_read {k : List Int} {n : ByteArray} {v : Int} (h : mOk n v = true) : readV (tokB k n v) = some (n, v, mkS k n v) := readV_form (mOk_says h k)
theorem tok_size {k : List Int} {n : ByteArray} {v : Int} (h : mOk n v = true) : 68 ≤ (tokB k n v).size ∧ (tokB k n v).size ≤ 300 := by
  obtain ⟨h1, h2, h3⟩ := (mOk_iff n v).1 h
  have hd := decS_size (n := v) (by omega) (by omega)
  have hd0 : 1 ≤ (decS v).size := by
    obtain ⟨c, r, e, _⟩ := dec_head v.toNat
    have hl : (decS v).data.toList = c :: r := by
      show Lib.itoa v = _
      rw [← e, ← itoa_nat, show ((v.toNat : Nat) : Int) = v by omega]
    rw [Lib.size_eq, hl, List.length_cons]; omega
  have hn := h1.1
  have hn2 := h1.2.1
  unfold tokB
  rw [form_size (mkS_len _ _ _), claim_size]
  omega
theorem tok_claim {k : List Int} {n : ByteArray} {v : Int} (h : mOk n v = true) : rN (tokB k n v) = n ∧ rV (tokB k n v) = v ∧ cE (tokB k n v) = 0 := by
  obtain ⟨e1, e2, _, e4⟩ := rd_facts (tok_read (k := k) h)
  refine ⟨e1, e2, ?_⟩
  unfold cE; rw [e4]; rfl
/-- what Open answers, in three ways -/
theorem opn_ways (k : List Int) (s : ByteArray) :
    (∀ now, opn k s now = (⟨#[]⟩, 0, 4)) ∨ (∀ now, opn k s now = (⟨#[]⟩, 0, 7)) ∨
    ∃ n v, mOk n v = true ∧ s = tokB k n v ∧ (∀ now, v ≤ now → opn k s now = (⟨#[]⟩, 0, 8)) ∧ (∀ now, ¬ v ≤ now → opn k s now = (n, v, 0)) := by
  cases hr : readV s with
  | none => exact .inl fun now => opn_none hr
  | some r =>
    obtain ⟨n, v, l⟩ := r
    by_cases hl : l = mkS k n v
    · refine .inr (.inr ⟨n, v, ?_, ?_, fun now h => opn_over hr hl h, fun now h => opn_good hr hl h⟩)
      · have hs := (readV_some hr).2
        exact (mOk_iff n v).2 ⟨hs.name, hs.lo, hs.hi⟩
      · rw [(readV_some hr).1, hl]; rfl
    · exact .inr (.inl fun now => opn_sign hr hl)
end Go.Proofs.YtdoedkgidcoibaaDoor
