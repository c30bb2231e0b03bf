/- Things read one behind the other, whatever they are. No walk. -/
import Derived.Test.YtcghebgdieilgaaBase
namespace Go.Proofs.Ytcghebgdieilgaa
open Go.RowKit
set_option linter.unusedVariables false

section
variable {α : Type} (one : List Int → α × Nat × Int)
/-- so many from a place on: the things, the place behind them, the error -/
def sqF (b : List Int) : Nat → Nat → List α × Nat × Int
  | 0, p => ([], p, 0)
  | n + 1, p => if (one (b.drop p)).2.2 ≠ 0 then ([], 0, (one (b.drop p)).2.2) else
    if (sqF b n (p + (one (b.drop p)).2.1)).2.2 ≠ 0 then ([], 0, (sqF b n (p + (one (b.drop p)).2.1)).2.2) else
    ((one (b.drop p)).1 :: (sqF b n (p + (one (b.drop p)).2.1)).1, (sqF b n (p + (one (b.drop p)).2.1)).2.1, 0)
/-- those that were read, and what comes behind them -/
def sqC (D : List α) (r : List α × Nat × Int) : List α × Nat × Int := if r.2.2 ≠ 0 then ([], 0, r.2.2) else (D ++ r.1, r.2.1, 0)
set_option maxRecDepth 100000 in
theorem sqF_step (b : List Int) (n p : Nat) : sqF one b (n + 1) p = if (one (b.drop p)).2.2 ≠ 0 then ([], 0, (one (b.drop p)).2.2) else sqC [(one (b.drop p)).1] (sqF one b n (p + (one (b.drop p)).2.1)) := by
  conv => lhs; unfold sqF
  rfl
set_option maxRecDepth 100000 in
theorem sqC_sqC (D : List α) (x : α) (r : List α × Nat × Int) : sqC D (sqC [x] r) = sqC (D ++ [x]) r := by
  unfold sqC
  by_cases h : r.2.2 ≠ 0
  · rw [if_pos h]; simp only; rw [if_pos h, if_pos h]
  · rw [if_neg h]; simp only; rw [if_neg (fun h => h rfl), if_neg h]; simp
set_option maxRecDepth 100000 in
theorem sqC_nil (b : List Int) : ∀ (n p : Nat), sqC [] (sqF one b n p) = sqF one b n p
  | 0, p => rfl
  | n + 1, p => by
    rw [sqF_step]
    by_cases h : (one (b.drop p)).2.2 ≠ 0
    · rw [if_pos h]; unfold sqC; simp only; rw [if_pos h]
    · rw [if_neg h, sqC_sqC]; rfl
set_option maxRecDepth 100000 in
theorem sqC_end (D : List α) (b : List Int) (p : Nat) : sqC D (sqF one b 0 p) = (D, p, 0) := by
  show (if (0 : Int) ≠ 0 then _ else (D ++ [], p, 0)) = _
  rw [if_neg (fun h => h rfl), List.append_nil]
set_option maxRecDepth 100000 in
theorem sqC_bad (D : List α) (b : List Int) (n p : Nat) (h : (one (b.drop p)).2.2 ≠ 0) : sqC D (sqF one b (n + 1) p) = ([], 0, (one (b.drop p)).2.2) := by
  rw [sqF_step, if_pos h]; unfold sqC; simp only; rw [if_pos h]
set_option maxRecDepth 100000 in
theorem sqC_more (D : List α) (b : List Int) (n p : Nat) (h : (one (b.drop p)).2.2 = 0) : sqC D (sqF one b (n + 1) p) = sqC (D ++ [(one (b.drop p)).1]) (sqF one b n (p + (one (b.drop p)).2.1)) := by
  rw [sqF_step, if_neg (fun k => k h), sqC_sqC]
variable (wr : α → List Int)
def sqW : List α → List Int
  | [] => []
  | x :: t => wr x ++ sqW t
set_option maxRecDepth 100000 in
theorem sqW_append : ∀ (a b : List α), sqW wr (a ++ b) = sqW wr a ++ sqW wr b
  | [], _ => rfl
  | x :: t, b => by show wr x ++ sqW wr (t ++ b) = _; rw [sqW_append t b, ← List.append_assoc]; rfl
variable {one wr}
set_option maxRecDepth 100000 in
/-- they are read as they were written -/
theorem sqF_there {ok : α → Prop} (h1 : ∀ x t, ok x → one (wr x ++ t) = (x, (wr x).length, 0)) : ∀ (l : List α) (a t : List Int), (∀ x ∈ l, ok x) → sqF one (a ++ (sqW wr l ++ t)) l.length a.length = (l, a.length + (sqW wr l).length, 0)
  | [], a, t, _ => by show ([], a.length, 0) = _; simp [sqW]
  | x :: l, a, t, h => by
    have hx := h x (by simp)
    have e1 : (a ++ (sqW wr (x :: l) ++ t)).drop a.length = wr x ++ (sqW wr l ++ t) := by rw [List.drop_left]; show (wr x ++ sqW wr l) ++ t = _; rw [List.append_assoc]
    have e2 : a ++ (sqW wr (x :: l) ++ t) = (a ++ wr x) ++ (sqW wr l ++ t) := by show a ++ ((wr x ++ sqW wr l) ++ t) = _; simp [List.append_assoc]
    have ih := sqF_there h1 l (a ++ wr x) t (fun y hy => h y (by simp [hy]))
    rw [← e2, List.length_append] at ih
    show sqF one _ (l.length + 1) _ = _
    unfold sqF
    rw [e1, h1 x _ hx]
    simp only
    rw [if_neg (fun h => h rfl), ih]
    simp only
    rw [if_neg (fun h => h rfl)]
    show (x :: l, _, _) = (x :: l, a.length + (wr x ++ sqW wr l).length, _)
    rw [List.length_append, Nat.add_assoc]
set_option maxRecDepth 100000 in
theorem sq_take (b : List Int) (p m k : Nat) : (b.drop p).take (m + k) = (b.drop p).take m ++ (b.drop (p + m)).take k := by
  rw [List.take_add, List.drop_drop]
set_option maxRecDepth 100000 in
/-- what is read, written again, is what was read -/
theorem sqF_back {Bt : List Int → Prop} {ok : α → Prop} (hdrop : ∀ b n, Bt b → Bt (b.drop n)) (h1 : ∀ b x m, Bt b → one b = (x, m, 0) → wr x = b.take m ∧ m ≤ b.length ∧ ok x) {b : List Int} (hb : Bt b) : ∀ (n p : Nat) (l : List α) (q : Nat), sqF one b n p = (l, q, 0) → p ≤ b.length → l.length = n ∧ p ≤ q ∧ q ≤ b.length ∧ sqW wr l = (b.drop p).take (q - p) ∧ ∀ x ∈ l, ok x
  | 0, p, l, q, h, hp => by
    unfold sqF at h
    cases h
    exact ⟨rfl, Nat.le_refl _, hp, by rw [Nat.sub_self, List.take_zero]; rfl, fun x hx => by cases hx⟩
  | n + 1, p, l, q, h, hp => by
    unfold sqF at h
    rcases hr : one (b.drop p) with ⟨x, m, e⟩
    rw [hr] at h
    simp only at h
    by_cases he : e ≠ 0
    · rw [if_pos he] at h
      exact absurd (congrArg (fun z : List α × Nat × Int => z.2.2) h) he
    rw [if_neg he] at h
    have he0 : e = 0 := Classical.byContradiction he
    subst he0
    obtain ⟨h2, h3, h4⟩ := h1 _ _ _ (hdrop b p hb) hr
    rw [List.length_drop] at h3
    rcases hf : sqF one b n (p + m) with ⟨l2, q2, e2⟩
    rw [hf] at h
    simp only at h
    by_cases he2 : e2 ≠ 0
    · rw [if_pos he2] at h
      exact absurd (congrArg (fun z : List α × Nat × Int => z.2.2) h) he2
    rw [if_neg he2] at h
    have he0 : e2 = 0 := Classical.byContradiction he2
    subst he0
    cases h
    obtain ⟨i1, i2, i3, i4, i5⟩ := sqF_back hdrop h1 hb n (p + m) l2 q hf (by omega)
    refine ⟨by rw [List.length_cons, i1], by omega, i3, ?_, fun y hy => ?_⟩
    · show wr x ++ sqW wr l2 = _
      rw [h2, i4, show q - p = m + (q - (p + m)) by omega, sq_take]
    · rcases List.mem_cons.1 hy with e | hy
      · rw [e]; exact h4
      · exact i5 y hy
end
end Go.Proofs.Ytcghebgdieilgaa
