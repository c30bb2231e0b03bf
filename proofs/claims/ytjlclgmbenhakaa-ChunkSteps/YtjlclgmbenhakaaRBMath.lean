/- The document's own reader: what it knows, and that it says the same. No walk. -/
import Derived.Test.YtjlclgmbenhakaaRWhole
namespace Go.Proofs.Ytjlclgmbenhakaa
open Go.RowKit
set_option linter.unusedVariables false

set_option maxRecDepth 100000 in
/-- a body that is whole: what is said -/
theorem bd_run (most : Nat) (B : List Int) : ∀ (f p : Nat) (body : List Int) (k : Nat) (x : List Int) (K : Nat), body.length ≤ most → B.length < f + p → runW most ⟨0, 0, body⟩ (B.drop p) k = (x, K, 0) → bdR most B f p body = x
  | 0, p, body, k, x, K, hb, hf, h => by
    rw [List.drop_of_length_le (by omega)] at h; cases h
  | f + 1, p, body, k, x, K, hb, hf, h => by
    by_cases hp : B.length ≤ p
    · rw [List.drop_of_length_le hp] at h; cases h
    · have hcase : (szR ((most : Int) - body.length) (B.drop p) 0 0).2.2 = 0 ∧ (szR ((most : Int) - body.length) (B.drop p) 0 0).2.1 ≤ (B.drop p).length ∧ body.length + (szR ((most : Int) - body.length) (B.drop p) 0 0).1 ≤ most ∧
          runW most (if (szR ((most : Int) - body.length) (B.drop p) 0 0).1 = 0 then ⟨8, 0, body⟩ else ⟨4, (szR ((most : Int) - body.length) (B.drop p) 0 0).1, body⟩) ((B.drop p).drop (szR ((most : Int) - body.length) (B.drop p) 0 0).2.1) (k + (szR ((most : Int) - body.length) (B.drop p) 0 0).2.1) = (x, K, 0) ∧ 3 ≤ (szR ((most : Int) - body.length) (B.drop p) 0 0).2.1 := by
        rcases run0 most body hb (B.drop p) k with ⟨h1, h2⟩ | ⟨h1, h2, h3, h4, h5⟩
        · rw [h] at h2
          have h9 : (0 : Int) = (szR ((most : Int) - body.length) (B.drop p) 0 0).2.2 := congrArg (fun q : List Int × Nat × Int => q.2.2) h2
          exact absurd h9.symm h1
        · exact ⟨h1, h3, h4, by rw [← h5]; exact h, h2⟩
      have hroom : szR (most : Int) (B.drop p) 0 0 = szR ((most : Int) - body.length) (B.drop p) 0 0 := szR_room (by omega) _ _ _ (by rw [hcase.1]; decide) (by rw [hcase.1]; decide)
      unfold bdR
      rw [if_neg hp, hroom]
      generalize szR ((most : Int) - body.length) (B.drop p) 0 0 = z at hcase ⊢
      obtain ⟨n, c, e⟩ := z
      obtain ⟨h0, hc, hm, hr, h3⟩ := hcase
      simp only at h0 hc hm hr h3 ⊢
      by_cases hn : n = 0
      · rw [if_pos (.inr hn)]
        rw [if_pos hn, run8] at hr
        split at hr
        · rename_i h9
          have h10 : twoR ((B.drop p).drop c) = 0 := congrArg (fun q : List Int × Nat × Int => q.2.2) hr
          exact absurd h10 h9
        · exact congrArg (fun q : List Int × Nat × Int => q.1) hr
      · rw [if_neg (fun hh => by rcases hh with hh | hh; exact hh h0; exact hn hh)]
        rw [if_neg hn, run4 _ _ _ _ _ (by omega)] at hr
        rw [List.drop_drop] at hr
        split at hr
        · cases hr
        · rename_i h6
          rw [run5] at hr
          split at hr
          · rename_i h9
            have h10 : twoR ((B.drop (p + c)).drop n) = 0 := congrArg (fun q : List Int × Nat × Int => q.2.2) hr
            exact absurd h10 h9
          · rw [List.length_drop] at h6 hc
            rw [List.drop_drop, List.drop_drop] at hr
            exact bd_run most B f _ _ _ x K (by rw [List.length_append, List.length_take, List.length_drop]; omega) (by omega) hr
set_option maxRecDepth 100000 in
theorem stp_errs {most : Nat} {s : CS} {b : Int} (h : s.ph < 10) : (stp most s b).2 = 0 ∨ (stp most s b).2 = 4 ∨ (stp most s b).2 = 5 := by
  obtain ⟨ph, n, body⟩ := s
  match ph, h with
  | 0, _ | 1, _ | 2, _ | 3, _ | 4, _ | 5, _ | 6, _ | 7, _ | 8, _ | 9, _ =>
    simp only [Go.Proofs.Ytjlclgmbenhakaa.stp]
    repeat' split
    all_goals simp
  | (k + 10), h => exact absurd h (by simp)
set_option maxRecDepth 100000 in
theorem stp_ph {most : Nat} {s : CS} {b : Int} (h : s.ph < 10) (h0 : (stp most s b).2 = 0) : (stp most s b).1.ph ≤ 10 := by
  obtain ⟨ph, n, body⟩ := s
  match ph, h with
  | 0, _ | 1, _ | 2, _ | 3, _ | 4, _ | 5, _ | 6, _ | 7, _ | 8, _ | 9, _ =>
    simp only [Go.Proofs.Ytjlclgmbenhakaa.stp]
    repeat' split
    all_goals simp
  | (k + 10), h => exact absurd h (by simp)
/-- what the document's own reader knows -/
structure XI (m : Nat) (B : List Int) (ended : Bool) (s : CS) : Prop where
  go : ended = false → s.ph < 10 ∧ fld m ⟨0, 0, []⟩ B = some s
  no : ended = true → 10 ≤ s.ph
  bd : bdR m B (B.length + 1) 0 [] = s.body
set_option maxRecDepth 100000 in
theorem XI.new (m : Nat) : XI m [] false ⟨0, 0, []⟩ := ⟨fun _ => ⟨by simp, rfl⟩, fun h => (by cases h), rfl⟩
set_option maxRecDepth 100000 in
theorem whV_run (m : Nat) (hm : m ≤ 2048) (l : List Int) : whV (m : Int) l = runW m ⟨0, 0, []⟩ l 0 := by
  unfold whV; rw [if_neg (by omega)]; rfl
set_option maxRecDepth 100000 in
theorem XI.err {m : Nat} {B : List Int} {s : CS} {b : Int} (h : XI m B false s) (hm : m ≤ 2048) (he : (stp m s b).2 ≠ 0) : XI m B true (ptS m s b) ∧ (whV (m : Int) (B ++ [b])).2.2 = (stp m s b).2 := by
  obtain ⟨hp, hf⟩ := h.go rfl
  refine ⟨⟨fun k => (by cases k), fun _ => ?_, ?_⟩, ?_⟩
  · rw [ptS_err (by omega) he]; show 10 ≤ 11; decide
  · rw [ptS_err (by omega) he]; exact h.bd
  · rw [whV_run m hm, run_one m B b _ 0 s hf, if_pos he]
set_option maxRecDepth 100000 in
theorem XI.whole {m : Nat} {B : List Int} {s : CS} {b : Int} (h : XI m B false s) (hm : m ≤ 2048) (he : (stp m s b).2 = 0) (hd : (stp m s b).1.ph = 10) : XI m (B ++ [b]) true (ptS m s b) ∧ (whV (m : Int) (B ++ [b])).2.2 = 0 := by
  obtain ⟨hp, hf⟩ := h.go rfl
  have hr := run_one m B b ⟨0, 0, []⟩ 0 s hf
  rw [if_neg (by rw [he]; simp), if_pos hd] at hr
  rw [ptS_ok (by omega) he]
  refine ⟨⟨fun k => (by cases k), fun _ => by omega, ?_⟩, ?_⟩
  · exact bd_run m (B ++ [b]) _ 0 [] 0 _ _ (by simp) (by omega) (by rw [List.drop_zero]; exact hr)
  · rw [whV_run m hm, hr]
set_option maxRecDepth 100000 in
theorem XI.more {m : Nat} {B : List Int} {s : CS} {b : Int} (h : XI m B false s) (hm : m ≤ 2048) (he : (stp m s b).2 = 0) (hd : (stp m s b).1.ph ≠ 10) : XI m (B ++ [b]) false (ptS m s b) ∧ (whV (m : Int) (B ++ [b])).2.2 = 3 := by
  obtain ⟨hp, hf⟩ := h.go rfl
  have hr := run_one m B b ⟨0, 0, []⟩ 0 s hf
  rw [if_neg (by rw [he]; simp), if_neg hd] at hr
  have hf2 := fld_snoc_some hf he hd
  rw [ptS_ok (by omega) he]
  refine ⟨⟨fun _ => ⟨?_, hf2⟩, fun k => (by cases k), ?_⟩, ?_⟩
  · have := stp_ph hp he; omega
  · exact bd_fld m (B ++ [b]) _ 0 [] _ (by simp) (by omega) (by rw [List.drop_zero]; exact hf2)
  · rw [whV_run m hm, hr]
end Go.Proofs.Ytjlclgmbenhakaa
