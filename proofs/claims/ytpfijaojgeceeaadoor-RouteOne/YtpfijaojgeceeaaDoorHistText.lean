/- A history's text, written and read. No walk. -/
import Derived.Test.YtpfijaojgeceeaaDoorHistMath
import Derived.Test.YtpfijaojgeceeaaDoorAuam
namespace Go.Proofs.YtpfijaojgeceeaaDoor
open Go.RowKit
set_option linter.unusedVariables false

/-- an event's client and kind in one byte -/
def hdE (x : Ev) : Int := 2 * x.c + (if x.k = true then 1 else 0)
/-- an event's bytes -/
def evL (x : Ev) : List Int := hdE x :: ((if x.k = true then [x.o] else []) ++ varL (zigV x.v))
def evsL : List Ev → List Int
  | [] => []
  | x :: t => evL x ++ evsL t
def txtL (l : List Ev) : List Int := varL (l.length : Int) ++ evsL l
set_option maxRecDepth 100000 in
theorem evsL_append : ∀ (a b : List Ev), evsL (a ++ b) = evsL a ++ evsL b
  | [], _ => rfl
  | x :: t, b => by show evL x ++ evsL (t ++ b) = _; rw [evsL_append t b, ← List.append_assoc]; rfl
/-- a number that an int64 is -/
def V64 (v : Int) : Prop := -9223372036854775808 ≤ v ∧ v ≤ 9223372036854775807
/-- the number behind a head, and what stands behind: number, bytes, error -/
def rdV (b : List Int) : Int × Nat × Int := ((zagV (rd b 0 0).1), (rd b 0 0).2.1.toNat, (rd b 0 0).2.2)
/-- one event: the event, how many bytes, the error -/
def rdEH (b : List Int) : Ev × Nat × Int :=
  if b.length = 0 then (ev0, 0, 3) else
  if 31 < b.getD 0 0 then (ev0, 0, 4) else
  if b.getD 0 0 % 2 = 1 then
    (if b.length ≤ 1 then (ev0, 0, 3) else if 15 < b.getD 1 0 then (ev0, 0, 4) else
     if (rd (b.drop 2) 0 0).2.2 ≠ 0 then (ev0, 0, (rd (b.drop 2) 0 0).2.2) else (⟨b.getD 0 0 / 2, true, b.getD 1 0, zagV (rd (b.drop 2) 0 0).1⟩, 2 + (rd (b.drop 2) 0 0).2.1.toNat, 0))
  else if (rd (b.drop 1) 0 0).2.2 ≠ 0 then (ev0, 0, (rd (b.drop 1) 0 0).2.2) else (⟨b.getD 0 0 / 2, false, 0, zagV (rd (b.drop 1) 0 0).1⟩, 1 + (rd (b.drop 1) 0 0).2.1.toNat, 0)
/-- so many events from a place on: the events, the place behind them, the error -/
def rdF (b : List Int) : Nat → Nat → List Ev × Nat × Int
  | 0, p => ([], p, 0)
  | n + 1, p => if (rdEH (b.drop p)).2.2 ≠ 0 then ([], 0, (rdEH (b.drop p)).2.2) else
    if (rdF b n (p + (rdEH (b.drop p)).2.1)).2.2 ≠ 0 then ([], 0, (rdF b n (p + (rdEH (b.drop p)).2.1)).2.2) else
    ((rdEH (b.drop p)).1 :: (rdF b n (p + (rdEH (b.drop p)).2.1)).1, (rdF b n (p + (rdEH (b.drop p)).2.1)).2.1, 0)
/-- what bytes say: the events, the error -/
def rdH (b : List Int) : List Ev × Int :=
  if (rd b 0 0).2.2 ≠ 0 then ([], (rd b 0 0).2.2) else
  if 128 < (rd b 0 0).1 then ([], 5) else
  if (rdF b (rd b 0 0).1.toNat (rd b 0 0).2.1.toNat).2.2 ≠ 0 then ([], (rdF b (rd b 0 0).1.toNat (rd b 0 0).2.1.toNat).2.2) else
  if (rdF b (rd b 0 0).1.toNat (rd b 0 0).2.1.toNat).2.1 < b.length then ([], 6) else
  if (chk (rdF b (rd b 0 0).1.toNat (rd b 0 0).2.1.toNat).1).2 ≠ 0 then ([], (chk (rdF b (rd b 0 0).1.toNat (rd b 0 0).2.1.toNat).1).2) else
  ((rdF b (rd b 0 0).1.toNat (rd b 0 0).2.1.toNat).1, 0)
set_option maxRecDepth 100000 in
theorem rd_var (x : Int) (h0 : 0 ≤ x) (h1 : x ≤ 18446744073709551615) (t : List Int) : rd (varL x ++ t) 0 0 = (x, ((varL x).length : Int), 0) := by
  have := rd_varF 9 x 0 0 t h0 (by rw [show (128 : Int) ^ (9 + 1) = 1180591620717411303424 from rfl]; omega) (by omega) (fun h => absurd h (Nat.lt_irrefl _)) (by simpa using h1)
  unfold varL
  rw [this]
  simp
set_option maxRecDepth 100000 in
theorem rd_backH {l : List Int} {x n : Int} (hb : Byt l) (h : rd l 0 0 = (x, n, 0)) : ∃ m : Nat, 1 ≤ m ∧ m ≤ l.length ∧ n = (m : Int) ∧ 0 ≤ x ∧ varL x = l.take m := by
  obtain ⟨m, y, h1, h2, h3, h4, h5, h6, _⟩ := rd_inv l 0 0 x n hb (by omega) h
  have e : x = y := by rw [h5]; simp
  exact ⟨m, h1, h2, by rw [h3]; simp, by rw [e]; exact h4, by rw [e]; exact h6⟩
set_option maxRecDepth 100000 in
theorem hdE_bd {x : Ev} (h : canE x = true) : 0 ≤ hdE x ∧ hdE x ≤ 31 ∧ (hdE x % 2 = 1 ↔ x.k = true) ∧ hdE x / 2 = x.c := by
  have := ((canE_iff x).1 h).1
  unfold hdE
  cases x.k <;> simp <;> omega
set_option maxRecDepth 100000 in
theorem evL_byt {x : Ev} (h : canE x = true) (hv : V64 x.v) : Byt (evL x) := by
  have h1 := hdE_bd h
  have h2 := ((canE_iff x).1 h).2
  have hz := zig_bd x.v hv.1 hv.2
  refine Byt.cons ⟨h1.1, by omega⟩ (Byt.append ?_ (varL_byt _ hz.1 hz.2))
  cases hk : x.k with
  | false => exact Byt.nil
  | true =>
    rw [hk] at h2
    simp only [if_true] at h2 ⊢
    exact Byt.cons (by omega) Byt.nil
set_option maxRecDepth 100000 in
theorem evL_len (x : Ev) : 2 ≤ (evL x).length ∧ (evL x).length ≤ 12 := by
  unfold evL
  rw [List.length_cons, List.length_append]
  have := varL_length (zigV x.v)
  cases x.k <;> simp <;> omega
set_option maxRecDepth 100000 in
/-- an event is read as it was written, whatever stands behind -/
theorem rdE_evL {x : Ev} (h : canE x = true) (hv : V64 x.v) (t : List Int) : rdEH (evL x ++ t) = (x, (evL x).length, 0) := by
  have h1 := hdE_bd h
  have h2 := ((canE_iff x).1 h).2
  have hz := zig_bd x.v hv.1 hv.2
  have hr := rd_var (zigV x.v) hz.1 hz.2 t
  have hl : (evL x ++ t).length ≠ 0 := by rw [List.length_append]; have := evL_len x; omega
  have hg : (evL x ++ t).getD 0 0 = hdE x := rfl
  unfold rdEH
  rw [if_neg hl, hg, if_neg (by omega)]
  cases hk : x.k with
  | true =>
    rw [hk] at h2
    simp only [if_true] at h2
    rw [if_pos (h1.2.2.1.2 hk)]
    have e : evL x ++ t = hdE x :: x.o :: (varL (zigV x.v) ++ t) := by unfold evL; rw [hk]; simp
    have e2 : (evL x ++ t).drop 2 = varL (zigV x.v) ++ t := by rw [e]; rfl
    have e3 : (evL x ++ t).getD 1 0 = x.o := by rw [e]; rfl
    have e4 : ¬ (evL x ++ t).length ≤ 1 := by rw [List.length_append]; have := evL_len x; omega
    have e5 : (evL x).length = 2 + (varL (zigV x.v)).length := by unfold evL; rw [hk]; simp; omega
    rw [if_neg e4, e3, if_neg (by omega), e2, hr]
    simp only
    rw [if_neg (fun h => h rfl), zag_zig, h1.2.2.2, e5]
    congr 1
    · cases x; simp only at hk ⊢; rw [hk]
  | false =>
    rw [hk] at h2
    simp only [Bool.false_eq_true, if_false] at h2
    rw [if_neg (fun h => by have := h1.2.2.1.1 h; rw [hk] at this; cases this)]
    have e : evL x ++ t = hdE x :: (varL (zigV x.v) ++ t) := by unfold evL; rw [hk]; simp
    have e2 : (evL x ++ t).drop 1 = varL (zigV x.v) ++ t := by rw [e]; rfl
    have e5 : (evL x).length = 1 + (varL (zigV x.v)).length := by unfold evL; rw [hk]; simp; omega
    rw [e2, hr]
    simp only
    rw [if_neg (fun h => h rfl), zag_zig, h1.2.2.2, e5]
    congr 1
    · cases x; simp only at hk h2 ⊢; rw [hk, h2]
set_option maxRecDepth 100000 in
/-- events are read as they were written -/
theorem rdF_evs : ∀ (l : List Ev) (a t : List Int), (∀ x ∈ l, canE x = true ∧ V64 x.v) → rdF (a ++ (evsL l ++ t)) l.length a.length = (l, a.length + (evsL l).length, 0)
  | [], a, t, _ => by show ([], a.length, 0) = _; simp [evsL]
  | x :: l, a, t, h => by
    have hx := h x (by simp)
    have e1 : (a ++ (evsL (x :: l) ++ t)).drop a.length = evL x ++ (evsL l ++ t) := by rw [List.drop_left]; show (evL x ++ evsL l) ++ t = _; rw [List.append_assoc]
    have e2 : a ++ (evsL (x :: l) ++ t) = (a ++ evL x) ++ (evsL l ++ t) := by show a ++ ((evL x ++ evsL l) ++ t) = _; simp [List.append_assoc]
    have ih := rdF_evs l (a ++ evL x) t (fun y hy => h y (by simp [hy]))
    rw [← e2, List.length_append] at ih
    show rdF _ (l.length + 1) _ = _
    unfold rdF
    rw [e1, rdE_evL hx.1 hx.2]
    simp only
    rw [if_neg (fun h => h rfl), ih]
    simp only
    rw [if_neg (fun h => h rfl)]
    show (x :: l, _, _) = (x :: l, a.length + (evL x ++ evsL l).length, _)
    rw [List.length_append, Nat.add_assoc]
end Go.Proofs.YtpfijaojgeceeaaDoor
