/- Events, histories, operations. No walk. -/
import Derived.Test.YtpfijaojgeceeaaDoorBase
namespace Go.Proofs.YtpfijaojgeceeaaDoor
open Go.RowKit
set_option linter.unusedVariables false

/-- an event: its client, whether it is a call, which operation, with what -/
structure Ev where
  c : Int
  k : Bool
  o : Int
  v : Int
def ev0 : Ev := ⟨0, false, 0, 0⟩
/-- an event can be -/
def canE (x : Ev) : Bool := decide (0 ≤ x.c) && decide (x.c ≤ 15) && (if x.k = true then decide (0 ≤ x.o) && decide (x.o ≤ 15) else decide (x.o = 0))
/-- why an event is none: W says who waits, n how many calls stand ahead -/
def stpE (W : Int → Bool) (n : Nat) (x : Ev) : Int := if canE x = false then 2 else if x.k = true ∧ n = 64 then 5 else if x.k = W x.c then 20 else 0
def updW (W : Int → Bool) (x : Ev) : Int → Bool := fun c => if c = x.c then x.k else W c
def cntK (n : Nat) (x : Ev) : Nat := if x.k = true then n + 1 else n
/-- where and why events are no history -/
def chkF : (Int → Bool) → Nat → Nat → List Ev → Nat × Int
  | _, _, _, [] => (0, 0)
  | W, n, i, x :: t => if stpE W n x ≠ 0 then (i, stpE W n x) else chkF (updW W x) (cntK n x) (i + 1) t
def nobW : Int → Bool := fun _ => false
def chk (l : List Ev) : Nat × Int := chkF nobW 0 0 l
/-- who waits behind events; how many calls there are -/
def wOf (l : List Ev) : Int → Bool := l.foldl updW nobW
def cOf (l : List Ev) : Nat := l.foldl cntK 0
set_option maxRecDepth 100000 in
theorem wOf_snoc (l : List Ev) (x : Ev) : wOf (l ++ [x]) = updW (wOf l) x := by unfold wOf; rw [List.foldl_append]; rfl
set_option maxRecDepth 100000 in
theorem cOf_snoc (l : List Ev) (x : Ev) : cOf (l ++ [x]) = cntK (cOf l) x := by unfold cOf; rw [List.foldl_append]; rfl
set_option maxRecDepth 100000 in
theorem take_snoc (l : List Ev) (i : Nat) (h : i < l.length) : l.take (i + 1) = l.take i ++ [l.getD i ev0] := by
  rw [List.take_add_one, List.getD_eq_getElem?_getD, List.getElem?_eq_getElem h]; rfl
set_option maxRecDepth 100000 in
theorem drop_cons (l : List Ev) (i : Nat) (h : i < l.length) : l.drop i = l.getD i ev0 :: l.drop (i + 1) := by
  rw [List.drop_eq_getElem_cons h, List.getD_eq_getElem?_getD, List.getElem?_eq_getElem h]; rfl
/-- what is still to be looked at -/
def chkR (l : List Ev) (i : Nat) : Nat × Int := chkF (wOf (l.take i)) (cOf (l.take i)) i (l.drop i)
set_option maxRecDepth 100000 in
theorem chkR_zero (l : List Ev) : chkR l 0 = chk l := rfl
set_option maxRecDepth 100000 in
theorem chkR_end (l : List Ev) (i : Nat) (h : l.length ≤ i) : chkR l i = (0, 0) := by unfold chkR; rw [List.drop_of_length_le h]; rfl
/-- why the event at a place is none -/
def errE (l : List Ev) (i : Nat) : Int := stpE (wOf (l.take i)) (cOf (l.take i)) (l.getD i ev0)
set_option maxRecDepth 100000 in
theorem chkR_bad (l : List Ev) (i : Nat) (h : i < l.length) (he : errE l i ≠ 0) : chkR l i = (i, errE l i) := by
  unfold chkR
  rw [drop_cons l i h]
  show (if stpE _ _ _ ≠ 0 then _ else _) = _
  unfold errE at he ⊢
  rw [if_pos he]
set_option maxRecDepth 100000 in
theorem chkR_next (l : List Ev) (i : Nat) (h : i < l.length) (he : errE l i = 0) : chkR l i = chkR l (i + 1) := by
  unfold chkR
  rw [drop_cons l i h]
  show (if stpE _ _ _ ≠ 0 then _ else _) = _
  rw [if_neg (fun h => h he), take_snoc l i h, wOf_snoc, cOf_snoc]
set_option maxRecDepth 100000 in
theorem stpE_can {W : Int → Bool} {n : Nat} {x : Ev} (h : canE x = false) : stpE W n x = 2 := by unfold stpE; rw [if_pos h]
set_option maxRecDepth 100000 in
theorem stpE_big {W : Int → Bool} {n : Nat} {x : Ev} (h : canE x = true) (hk : x.k = true) (hn : n = 64) : stpE W n x = 5 := by unfold stpE; rw [if_neg (by rw [h]; decide), if_pos ⟨hk, hn⟩]
set_option maxRecDepth 100000 in
theorem stpE_state {W : Int → Bool} {n : Nat} {x : Ev} (h : canE x = true) (hb : ¬ (x.k = true ∧ n = 64)) (hw : x.k = W x.c) : stpE W n x = 20 := by unfold stpE; rw [if_neg (by rw [h]; decide), if_neg hb, if_pos hw]
set_option maxRecDepth 100000 in
theorem stpE_ok {W : Int → Bool} {n : Nat} {x : Ev} (h : canE x = true) (hb : ¬ (x.k = true ∧ n = 64)) (hw : x.k ≠ W x.c) : stpE W n x = 0 := by unfold stpE; rw [if_neg (by rw [h]; decide), if_neg hb, if_neg hw]
set_option maxRecDepth 100000 in
theorem stpE_zero {W : Int → Bool} {n : Nat} {x : Ev} (h : stpE W n x = 0) : canE x = true ∧ ¬ (x.k = true ∧ n = 64) ∧ x.k ≠ W x.c := by
  unfold stpE at h
  cases hc : canE x with
  | false => rw [hc, if_pos rfl] at h; cases h
  | true =>
    rw [hc, if_neg (by decide)] at h
    split at h
    · cases h
    · rename_i hb
      split at h
      · cases h
      · rename_i hw; exact ⟨rfl, hb, hw⟩
set_option maxRecDepth 100000 in
theorem stpE_cases (W : Int → Bool) (n : Nat) (x : Ev) : stpE W n x = 0 ∨ stpE W n x = 2 ∨ stpE W n x = 5 ∨ stpE W n x = 20 := by
  unfold stpE; split
  · exact .inr (.inl rfl)
  · split
    · exact .inr (.inr (.inl rfl))
    · split
      · exact .inr (.inr (.inr rfl))
      · exact .inl rfl
set_option maxRecDepth 100000 in
theorem canE_iff (x : Ev) : canE x = true ↔ (0 ≤ x.c ∧ x.c ≤ 15) ∧ (if x.k = true then 0 ≤ x.o ∧ x.o ≤ 15 else x.o = 0) := by
  unfold canE
  cases x.k <;> simp
/-- a history -/
def His (l : List Ev) : Prop := (chk l).2 = 0
set_option maxRecDepth 100000 in
/-- all that it is to be a history, up to a place -/
theorem chkF_zero : ∀ (l : List Ev) (W : Int → Bool) (n i : Nat), (chkF W n i l).2 = 0 → ∀ j, j < l.length → stpE ((l.take j).foldl updW W) ((l.take j).foldl cntK n) (l.getD j ev0) = 0
  | [], _, _, _, _, j, hj => absurd hj (Nat.not_lt_zero j)
  | x :: t, W, n, i, h, j, hj => by
    unfold chkF at h
    by_cases he : stpE W n x ≠ 0
    · rw [if_pos he] at h; exact absurd h he
    · rw [if_neg he] at h
      match j with
      | 0 => exact Classical.byContradiction he
      | j + 1 => exact chkF_zero t (updW W x) (cntK n x) (i + 1) h j (by simpa using hj)
set_option maxRecDepth 100000 in
theorem chkF_of : ∀ (l : List Ev) (W : Int → Bool) (n i : Nat), (∀ j, j < l.length → stpE ((l.take j).foldl updW W) ((l.take j).foldl cntK n) (l.getD j ev0) = 0) → chkF W n i l = (0, 0)
  | [], _, _, _, _ => rfl
  | x :: t, W, n, i, h => by
    unfold chkF
    have h0 : stpE W n x = 0 := h 0 (by simp)
    rw [if_neg (fun k => k h0)]
    exact chkF_of t (updW W x) (cntK n x) (i + 1) (fun j hj => h (j + 1) (by simpa using hj))
set_option maxRecDepth 100000 in
theorem His.err {l : List Ev} (h : His l) (j : Nat) (hj : j < l.length) : errE l j = 0 := chkF_zero l nobW 0 0 h j hj
set_option maxRecDepth 100000 in
theorem his_of {l : List Ev} (h : ∀ j, j < l.length → errE l j = 0) : chk l = (0, 0) := chkF_of l nobW 0 0 h
set_option maxRecDepth 100000 in
theorem His.chk {l : List Ev} (h : His l) : chk l = (0, 0) := his_of h.err
set_option maxRecDepth 100000 in
theorem take_take_le (l : List Ev) {j n : Nat} (h : j ≤ n) : (l.take n).take j = l.take j := by rw [List.take_take, Nat.min_eq_left h]
set_option maxRecDepth 100000 in
theorem errE_take {l : List Ev} {j n : Nat} (hj : j < n) : errE (l.take n) j = errE l j := by
  unfold errE
  rw [take_take_le l (Nat.le_of_lt hj)]
  congr 1
  rw [List.getD_eq_getElem?_getD, List.getD_eq_getElem?_getD, List.getElem?_take, if_pos hj]
set_option maxRecDepth 100000 in
theorem His.take {l : List Ev} (h : His l) (n : Nat) : His (l.take n) := by
  have := his_of (l := l.take n) fun j hj => by
    rw [List.length_take] at hj
    rw [errE_take (by omega)]
    exact h.err j (by omega)
  unfold His; rw [this]
set_option maxRecDepth 100000 in
/-- the place of the first bad event -/
theorem chkF_place : ∀ (l : List Ev) (W : Int → Bool) (n i : Nat), (chkF W n i l).2 ≠ 0 → ∃ j, j < l.length ∧ (chkF W n i l) = (i + j, stpE ((l.take j).foldl updW W) ((l.take j).foldl cntK n) (l.getD j ev0)) ∧ ∀ m, m < j → stpE ((l.take m).foldl updW W) ((l.take m).foldl cntK n) (l.getD m ev0) = 0
  | [], _, _, _, h => absurd rfl h
  | x :: t, W, n, i, h => by
    unfold chkF at h ⊢
    by_cases he : stpE W n x ≠ 0
    · rw [if_pos he] at h ⊢
      exact ⟨0, by simp, by simp, fun m hm => absurd hm (Nat.not_lt_zero m)⟩
    · rw [if_neg he] at h ⊢
      obtain ⟨j, hj, e, hm⟩ := chkF_place t (updW W x) (cntK n x) (i + 1) h
      refine ⟨j + 1, by simpa using hj, ?_, fun m hmj => ?_⟩
      · rw [e]; congr 1; omega
      · match m with
        | 0 => exact Classical.byContradiction he
        | m + 1 => exact hm m (by omega)
set_option maxRecDepth 100000 in
theorem chk_place {l : List Ev} (h : (chk l).2 ≠ 0) : (chk l).1 < l.length ∧ errE l (chk l).1 = (chk l).2 ∧ ∀ m, m < (chk l).1 → errE l m = 0 := by
  obtain ⟨j, hj, e, hm⟩ := chkF_place l nobW 0 0 h
  have e1 : (chk l).1 = j := by show (chkF nobW 0 0 l).1 = j; rw [e]; simp
  have e2 : (chk l).2 = errE l j := by show (chkF nobW 0 0 l).2 = _; rw [e]; rfl
  rw [e1, e2]
  exact ⟨hj, rfl, hm⟩
set_option maxRecDepth 100000 in
/-- whether a beginning is a history: just if the first bad event stands behind it -/
theorem chk_begin {l : List Ev} (h : (chk l).2 ≠ 0) (n : Nat) (hn : n ≤ l.length) : (chk l).1 < n ↔ (chk (l.take n)).2 ≠ 0 := by
  obtain ⟨h1, h2, h3⟩ := chk_place h
  constructor
  · intro hlt hz
    have := His.err (l := l.take n) hz (chk l).1 (by rw [List.length_take]; omega)
    rw [errE_take hlt, h2] at this
    exact h this
  · intro hz
    refine Classical.byContradiction fun hge => hz ?_
    have := his_of (l := l.take n) fun j hj => by
      rw [List.length_take] at hj
      rw [errE_take (by omega)]
      exact h3 j (by omega)
    rw [this]
set_option maxRecDepth 100000 in
/-- no client's number but 0 to 15 waits -/
theorem wOf_in {l : List Ev} (h : His l) : ∀ n, n ≤ l.length → ∀ c, wOf (l.take n) c = true → 0 ≤ c ∧ c ≤ 15
  | 0, _, c, hc => by rw [List.take_zero] at hc; cases hc
  | n + 1, hn, c, hc => by
    rw [take_snoc l n (by omega), wOf_snoc] at hc
    unfold updW at hc
    have hz := stpE_zero (h.err n (by omega))
    by_cases e : c = (l.getD n ev0).c
    · rw [e]; exact ((canE_iff _).1 hz.1).1
    · rw [if_neg e] at hc
      exact wOf_in h n (by omega) c hc
end Go.Proofs.YtpfijaojgeceeaaDoor
