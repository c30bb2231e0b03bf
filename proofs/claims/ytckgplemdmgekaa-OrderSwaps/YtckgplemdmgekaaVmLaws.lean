/- What follows of operations done by code. No walk. -/
import Derived.Test.YtckgplemdmgekaaVmMath
namespace Go.Proofs.Ytckgplemdmgekaa
open Go.RowKit
set_option linter.unusedVariables false

set_option maxRecDepth 100000 in
theorem stpV_no {l : List Ic} {S : List Int} {k g f : Int} (h : (thr l).2.2 ≠ 0) : stpV l S k g f = (4, [0, 0, 0, 0], 0, 0) := by unfold stpV; rw [if_pos h]
/-- a step of code that fits together -/
def stpO' (S : List Int) (r : Int × List Int × Int × Nat) : Int × List Int × Int × Int := if r.1 = 1 then (1, r.2.1, r.2.2.1, (r.2.2.2 : Int)) else (r.1, S, 0, (r.2.2.2 : Int))
set_option maxRecDepth 100000 in
theorem stpV_yes {l : List Ic} {S : List Int} {k g f : Int} (h : (thr l).2.2 = 0) : stpV l S k g f = stpO' S (vmF l k g f.toNat (vs0 S) 0) := by unfold stpV stpO'; rw [if_neg (fun k => k h)]
set_option maxRecDepth 100000 in
/-- fuel: what is used; with more the same; with less it lacks -/
theorem stpV_fuel {l : List Ic} {S : List Int} {k g f : Int} (h : (thr l).2.2 = 0) :
    ((stpV l S k g f).1 = 3 ∧ stpV l S k g f = (3, S, 0, (f.toNat : Int))) ∨
    (((stpV l S k g f).1 = 1 ∨ ((stpV l S k g f).1 = 2 ∧ (stpV l S k g f).2.1 = S ∧ (stpV l S k g f).2.2.1 = 0)) ∧ ∃ n : Nat, 1 ≤ n ∧ n ≤ f.toNat ∧ (stpV l S k g f).2.2.2 = (n : Int) ∧ (∀ e : Int, (n : Int) ≤ e → stpV l S k g e = stpV l S k g f) ∧ stpV l S k g ((n : Int) - 1) = (3, S, 0, (n : Int) - 1)) := by
  rw [stpV_yes h]
  rcases vmF_ends l k g f.toNat (vs0 S) 0 with ⟨h1, h2⟩ | ⟨h1, n, n1, n2, n3, n4, n5, n6⟩
  · left
    unfold stpO'
    rw [h1, if_neg (by decide), h2, Nat.zero_add]
    exact ⟨rfl, rfl⟩
  · right
    refine ⟨?_, n, n1, n2, ?_, fun e he => ?_, ?_⟩
    · unfold stpO'
      rcases h1 with h1 | h1
      · rw [h1, if_pos rfl]; exact .inl rfl
      · rw [h1, if_neg (by decide)]; exact .inr ⟨rfl, rfl, rfl⟩
    · unfold stpO'
      split
      · show ((vmF l k g f.toNat (vs0 S) 0).2.2.2 : Int) = _; rw [n3, Nat.zero_add]
      · show ((vmF l k g f.toNat (vs0 S) 0).2.2.2 : Int) = _; rw [n3, Nat.zero_add]
    · rw [stpV_yes h, n4 e.toNat (by omega)]
    · rw [stpV_yes h, show ((n : Int) - 1).toNat = n - 1 from by omega]
      unfold stpO'
      rw [n5, if_neg (by decide), n6, Nat.zero_add, show ((n - 1 : Nat) : Int) = (n : Int) - 1 from by omega]
set_option maxRecDepth 100000 in
/-- what two numbers make, by code -/
theorem sums_thr (a : Int) {o : Int} (h : 8 ≤ o ∧ o ≤ 14) : (thr [⟨0, a⟩, ⟨6, 0⟩, ⟨o, 0⟩, ⟨18, 0⟩]).2.2 = 0 := by
  have : o = 8 ∨ o = 9 ∨ o = 10 ∨ o = 11 ∨ o = 12 ∨ o = 13 ∨ o = 14 := by omega
  rcases this with e | e | e | e | e | e | e <;> subst e <;> (show _ = _; kernel_rfl)
set_option maxRecDepth 100000 in
theorem sums_run (a b : Int) {o : Int} (h : 8 ≤ o ∧ o ≤ 14) : stpV [⟨0, a⟩, ⟨6, 0⟩, ⟨o, 0⟩, ⟨18, 0⟩] [0, 0, 0, 0] 0 b 9 = match jnd o a b with | some y => (1, [0, 0, 0, 0], y, 4) | none => (2, [0, 0, 0, 0], 0, 3) := by
  rw [stpV_yes (sums_thr a h)]
  have e0 : do1 (([⟨0, a⟩, ⟨6, 0⟩, ⟨o, 0⟩, ⟨18, 0⟩] : List Ic).getD (vs0 [0, 0, 0, 0]).p ic0) 0 b (vs0 [0, 0, 0, 0]) = (⟨[0, 0, 0, 0], [a], 1⟩, 0, 0) := do1_0 rfl
  have e1 : do1 (([⟨0, a⟩, ⟨6, 0⟩, ⟨o, 0⟩, ⟨18, 0⟩] : List Ic).getD (⟨[0, 0, 0, 0], [a], 1⟩ : VS).p ic0) 0 b ⟨[0, 0, 0, 0], [a], 1⟩ = (⟨[0, 0, 0, 0], [a, b], 2⟩, 0, 0) := do1_6 rfl
  have e2 : do1 (([⟨0, a⟩, ⟨6, 0⟩, ⟨o, 0⟩, ⟨18, 0⟩] : List Ic).getD (⟨[0, 0, 0, 0], [a, b], 2⟩ : VS).p ic0) 0 b ⟨[0, 0, 0, 0], [a, b], 2⟩ = match jnd o a b with | some y => (⟨[0, 0, 0, 0], [y], 3⟩, 0, 0) | none => (⟨[0, 0, 0, 0], [], 3⟩, 2, 0) := do1_jnd (x := ⟨o, 0⟩) h
  show stpO' _ (vmF _ 0 b (8 + 1) _ 0) = _
  rw [vmF_go (by rw [e0]), e0]
  show stpO' _ (vmF _ 0 b (7 + 1) _ (0 + 1)) = _
  rw [vmF_go (by rw [e1]), e1]
  show stpO' _ (vmF _ 0 b (6 + 1) _ (0 + 1 + 1)) = _
  cases hj : jnd o a b with
  | none =>
    rw [hj] at e2
    rw [vmF_ref (by rw [e2])]; rfl
  | some y =>
    rw [hj] at e2
    rw [vmF_go (by rw [e2]), e2]
    have e3 : do1 (([⟨0, a⟩, ⟨6, 0⟩, ⟨o, 0⟩, ⟨18, 0⟩] : List Ic).getD (⟨[0, 0, 0, 0], [y], 3⟩ : VS).p ic0) 0 b ⟨[0, 0, 0, 0], [y], 3⟩ = (⟨[0, 0, 0, 0], [], 4⟩, 1, y) := do1_18 rfl
    show stpO' _ (vmF _ 0 b (5 + 1) _ (0 + 1 + 1 + 1)) = _
    rw [vmF_ans (by rw [e3]), e3]; rfl
set_option maxRecDepth 100000 in
/-- by, and what is left -/
theorem quo_facts {a b : Int} (ha : V64 a) (hb : V64 b) (h0 : b ≠ 0) : ∃ q r, jnd 11 a b = some q ∧ jnd 12 a b = some r ∧ V64 q ∧ V64 r ∧ w64 (w64 (q * b) + r) = a ∧ (r = 0 ∨ (r < 0 ↔ a < 0)) ∧ ((0 ≤ r ∧ (r < b ∨ b < -r)) ∨ (r < 0 ∧ (b < r ∨ -r < b))) ∧ -9223372036854775807 ≤ r := by
  by_cases h1 : b = -1
  · subst h1
    refine ⟨w64 (-a), 0, rfl, rfl, w64_in _, ⟨by decide, by decide⟩, ?_, .inl rfl, .inl ⟨by decide, .inr (by decide)⟩, by decide⟩
    unfold V64 at ha
    unfold w64
    omega
  · have e1 : jnd 11 a b = some (a.tdiv b) := by unfold jnd; simp [h0, h1]
    have e2 : jnd 12 a b = some (a.tmod b) := by unfold jnd; simp [h0, h1]
    have hm := Int.tdiv_mul_add_tmod a b
    have hab : (a.tmod b).natAbs < b.natAbs := by rw [Int.natAbs_tmod]; exact Nat.mod_lt _ (by omega)
    have hle : (a.tmod b).natAbs ≤ a.natAbs := by rw [Int.natAbs_tmod]; exact Nat.mod_le _ _
    have hs : (0 ≤ a → 0 ≤ a.tmod b) ∧ (a ≤ 0 → a.tmod b ≤ 0) := by
      refine ⟨fun h => Int.tmod_nonneg b h, fun h => ?_⟩
      have h2 := Int.tmod_nonneg (a := -a) b (by omega)
      rw [Int.neg_tmod] at h2
      omega
    have hq := tdiv_in ha h0 h1
    have hr := tmod_in (b := b) ha
    refine ⟨_, _, e1, e2, hq, hr, ?_, ?_, ?_, ?_⟩
    · generalize a.tdiv b * b = m at hm
      generalize a.tmod b = r at *
      unfold V64 at *
      unfold w64
      omega
    · generalize a.tmod b = r at *; omega
    · generalize a.tmod b = r at *; unfold V64 at hb; omega
    · generalize a.tmod b = r at *; unfold V64 at hb; omega
set_option maxRecDepth 100000 in
/-- what is stored is loaded -/
theorem cells_run (S : List Int) (hS : S.length = 4) {p q : Int} (hp : 0 ≤ p ∧ p ≤ 3) (hq : 0 ≤ q ∧ q ≤ 3) (x : Int) : (thr [⟨6, 0⟩, ⟨5, p⟩, ⟨4, q⟩, ⟨18, 0⟩]).2.2 = 0 ∧ stpV [⟨6, 0⟩, ⟨5, p⟩, ⟨4, q⟩, ⟨18, 0⟩] S 3 x 4 = (1, S.set p.toNat x, (S.set p.toNat x).getD q.toNat 0, 4) := by
  have ht : (thr [⟨6, 0⟩, ⟨5, p⟩, ⟨4, q⟩, ⟨18, 0⟩]).2.2 = 0 := by
    have e1 : p = 0 ∨ p = 1 ∨ p = 2 ∨ p = 3 := by omega
    have e2 : q = 0 ∨ q = 1 ∨ q = 2 ∨ q = 3 := by omega
    rcases e1 with e | e | e | e <;> rcases e2 with f | f | f | f <;> subst e <;> subst f <;> rfl
  refine ⟨ht, ?_⟩
  rw [stpV_yes ht]
  have e0 : do1 (([⟨6, 0⟩, ⟨5, p⟩, ⟨4, q⟩, ⟨18, 0⟩] : List Ic).getD (vs0 S).p ic0) 3 x (vs0 S) = (⟨S, [x], 1⟩, 0, 0) := do1_6 rfl
  have e1 : do1 (([⟨6, 0⟩, ⟨5, p⟩, ⟨4, q⟩, ⟨18, 0⟩] : List Ic).getD (⟨S, [x], 1⟩ : VS).p ic0) 3 x ⟨S, [x], 1⟩ = (⟨S.set p.toNat x, [], 2⟩, 0, 0) := do1_5 rfl
  have e2 : do1 (([⟨6, 0⟩, ⟨5, p⟩, ⟨4, q⟩, ⟨18, 0⟩] : List Ic).getD (⟨S.set p.toNat x, [], 2⟩ : VS).p ic0) 3 x ⟨S.set p.toNat x, [], 2⟩ = (⟨S.set p.toNat x, [(S.set p.toNat x).getD q.toNat 0], 3⟩, 0, 0) := do1_4 rfl
  have e3 : do1 (([⟨6, 0⟩, ⟨5, p⟩, ⟨4, q⟩, ⟨18, 0⟩] : List Ic).getD (⟨S.set p.toNat x, [(S.set p.toNat x).getD q.toNat 0], 3⟩ : VS).p ic0) 3 x ⟨S.set p.toNat x, [(S.set p.toNat x).getD q.toNat 0], 3⟩ = (⟨S.set p.toNat x, [], 4⟩, 1, (S.set p.toNat x).getD q.toNat 0) := do1_18 rfl
  show stpO' _ (vmF _ 3 x (3 + 1) _ 0) = _
  rw [vmF_go (by rw [e0]), e0]
  show stpO' _ (vmF _ 3 x (2 + 1) _ (0 + 1)) = _
  rw [vmF_go (by rw [e1]), e1]
  show stpO' _ (vmF _ 3 x (1 + 1) _ (0 + 1 + 1)) = _
  rw [vmF_go (by rw [e2]), e2]
  show stpO' _ (vmF _ 3 x (0 + 1) _ (0 + 1 + 1 + 1)) = _
  rw [vmF_ans (by rw [e3]), e3]; rfl
end Go.Proofs.Ytckgplemdmgekaa
