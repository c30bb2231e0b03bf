/- Events, histories, operations. No walk. A short number's bytes. No walk. Numbers folded and unfolded. No walk. A history's text, written and read. No walk. Which operations a history has. No walk. -/
import Derived.Test.YtbjeeefkbmdmfaaBase
import Derived.Test.YtbjeeefkbmdmfaaVarMath
namespace Go.Proofs.Ytbjeeefkbmdmfaa
open Go.RowKit
set_option linter.unusedVariables false

/-- an event: its client, whether it is a call, which operation, with what -/
structure Ev where
  c : Int
  k : Bool
  o : Int
  v : Int
def ev0 : Ev := ⟨0, false, 0, 0⟩
/-- an event can be -/
def canE (x : Ev) : Bool := decide (0 ≤ x.c) && decide (x.c ≤ 15) && (if x.k = true then decide (0 ≤ x.o) && decide (x.o ≤ 15) else decide (x.o = 0))
/-- why an event is none: W says who waits, n how many calls stand ahead -/
def stpE (W : Int → Bool) (n : Nat) (x : Ev) : Int := if canE x = false then 2 else if x.k = true ∧ n = 64 then 5 else if x.k = W x.c then 20 else 0
def updW (W : Int → Bool) (x : Ev) : Int → Bool := fun c => if c = x.c then x.k else W c
def cntK (n : Nat) (x : Ev) : Nat := if x.k = true then n + 1 else n
/-- where and why events are no history -/
def chkF : (Int → Bool) → Nat → Nat → List Ev → Nat × Int
  | _, _, _, [] => (0, 0)
  | W, n, i, x :: t => if stpE W n x ≠ 0 then (i, stpE W n x) else chkF (updW W x) (cntK n x) (i + 1) t
def nobW : Int → Bool := fun _ => false
def chk (l : List Ev) : Nat × Int := chkF nobW 0 0 l
/-- who waits behind events; how many calls there are -/
def wOf (l : List Ev) : Int → Bool := l.foldl updW nobW
def cOf (l : List Ev) : Nat := l.foldl cntK 0
set_option maxRecDepth 100000 in
theorem wOf_snoc (l : List Ev) (x : Ev) : wOf (l ++ [x]) = updW (wOf l) x := by unfold wOf; rw [List.foldl_append]; rfl
set_option maxRecDepth 100000 in
theorem cOf_snoc (l : List Ev) (x : Ev) : cOf (l ++ [x]) = cntK (cOf l) x := by unfold cOf; rw [List.foldl_append]; rfl
set_option maxRecDepth 100000 in
theorem take_snoc (l : List Ev) (i : Nat) (h : i < l.length) : l.take (i + 1) = l.take i ++ [l.getD i ev0] := by
  rw [List.take_add_one, List.getD_eq_getElem?_getD, List.getElem?_eq_getElem h]; rfl
set_option maxRecDepth 100000 in
theorem drop_cons (l : List Ev) (i : Nat) (h : i < l.length) : l.drop i = l.getD i ev0 :: l.drop (i + 1) := by
  rw [List.drop_eq_getElem_cons h, List.getD_eq_getElem?_getD, List.getElem?_eq_getElem h]; rfl
/-- what is still to be looked at -/
def chkR (l : List Ev) (i : Nat) : Nat × Int := chkF (wOf (l.take i)) (cOf (l.take i)) i (l.drop i)
set_option maxRecDepth 100000 in
theorem chkR_zero (l : List Ev) : chkR l 0 = chk l := rfl
set_option maxRecDepth 100000 in
theorem chkR_end (l : List Ev) (i : Nat) (h : l.length ≤ i) : chkR l i = (0, 0) := by unfold chkR; rw [List.drop_of_length_le h]; rfl
/-- why the event at a place is none -/
def errE (l : List Ev) (i : Nat) : Int := stpE (wOf (l.take i)) (cOf (l.take i)) (l.getD i ev0)
set_option maxRecDepth 100000 in
theorem chkR_bad (l : List Ev) (i : Nat) (h : i < l.length) (he : errE l i ≠ 0) : chkR l i = (i, errE l i) := by
  unfold chkR
  rw [drop_cons l i h]
  show (if stpE _ _ _ ≠ 0 then _ else _) = _
  unfold errE at he ⊢
  rw [if_pos he]
set_option maxRecDepth 100000 in
theorem chkR_next (l : List Ev) (i : Nat) (h : i < l.length) (he : errE l i = 0) : chkR l i = chkR l (i + 1) := by
  unfold chkR
  rw [drop_cons l i h]
  show (if stpE _ _ _ ≠ 0 then _ else _) = _
  rw [if_neg (fun h => h he), take_snoc l i h, wOf_snoc, cOf_snoc]
set_option maxRecDepth 100000 in
theorem stpE_can {W : Int → Bool} {n : Nat} {x : Ev} (h : canE x = false) : stpE W n x = 2 := by unfold stpE; rw [if_pos h]
set_option maxRecDepth 100000 in
theorem stpE_big {W : Int → Bool} {n : Nat} {x : Ev} (h : canE x = true) (hk : x.k = true) (hn : n = 64) : stpE W n x = 5 := by unfold stpE; rw [if_neg (by rw [h]; decide), if_pos ⟨hk, hn⟩]
set_option maxRecDepth 100000 in
theorem stpE_state {W : Int → Bool} {n : Nat} {x : Ev} (h : canE x = true) (hb : ¬ (x.k = true ∧ n = 64)) (hw : x.k = W x.c) : stpE W n x = 20 := by unfold stpE; rw [if_neg (by rw [h]; decide), if_neg hb, if_pos hw]
set_option maxRecDepth 100000 in
theorem stpE_ok {W : Int → Bool} {n : Nat} {x : Ev} (h : canE x = true) (hb : ¬ (x.k = true ∧ n = 64)) (hw : x.k ≠ W x.c) : stpE W n x = 0 := by unfold stpE; rw [if_neg (by rw [h]; decide), if_neg hb, if_neg hw]
set_option maxRecDepth 100000 in
theorem stpE_zero {W : Int → Bool} {n : Nat} {x : Ev} (h : stpE W n x = 0) : canE x = true ∧ ¬ (x.k = true ∧ n = 64) ∧ x.k ≠ W x.c := by
  unfold stpE at h
  cases hc : canE x with
  | false => rw [hc, if_pos rfl] at h; cases h
  | true =>
    rw [hc, if_neg (by decide)] at h
    split at h
    · cases h
    · rename_i hb
      split at h
      · cases h
      · rename_i hw; exact ⟨rfl, hb, hw⟩
set_option maxRecDepth 100000 in
theorem stpE_cases (W : Int → Bool) (n : Nat) (x : Ev) : stpE W n x = 0 ∨ stpE W n x = 2 ∨ stpE W n x = 5 ∨ stpE W n x = 20 := by
  unfold stpE; split
  · exact .inr (.inl rfl)
  · split
    · exact .inr (.inr (.inl rfl))
    · split
      · exact .inr (.inr (.inr rfl))
      · exact .inl rfl
set_option maxRecDepth 100000 in
theorem canE_iff (x : Ev) : canE x = true ↔ (0 ≤ x.c ∧ x.c ≤ 15) ∧ (if x.k = true then 0 ≤ x.o ∧ x.o ≤ 15 else x.o = 0) := by
  unfold canE
  cases x.k <;> simp
/-- a history -/
def His (l : List Ev) : Prop := (chk l).2 = 0
set_option maxRecDepth 100000 in
/-- all that it is to be a history, up to a place -/
theorem chkF_zero : ∀ (l : List Ev) (W : Int → Bool) (n i : Nat), (chkF W n i l).2 = 0 → ∀ j, j < l.length → stpE ((l.take j).foldl updW W) ((l.take j).foldl cntK n) (l.getD j ev0) = 0
  | [], _, _, _, _, j, hj => absurd hj (Nat.not_lt_zero j)
  | x :: t, W, n, i, h, j, hj => by
    unfold chkF at h
    by_cases he : stpE W n x ≠ 0
    · rw [if_pos he] at h; exact absurd h he
    · rw [if_neg he] at h
      match j with
      | 0 => exact Classical.byContradiction he
      | j + 1 => exact chkF_zero t (updW W x) (cntK n x) (i + 1) h j (by simpa using hj)
set_option maxRecDepth 100000 in
theorem chkF_of : ∀ (l : List Ev) (W : Int → Bool) (n i : Nat), (∀ j, j < l.length → stpE ((l.take j).foldl updW W) ((l.take j).foldl cntK n) (l.getD j ev0) = 0) → chkF W n i l = (0, 0)
  | [], _, _, _, _ => rfl
  | x :: t, W, n, i, h => by
    unfold chkF
    have h0 : stpE W n x = 0 := h 0 (by simp)
    rw [if_neg (fun k => k h0)]
    exact chkF_of t (updW W x) (cntK n x) (i + 1) (fun j hj => h (j + 1) (by simpa using hj))
set_option maxRecDepth 100000 in
theorem His.err {l : List Ev} (h : His l) (j : Nat) (hj : j < l.length) : errE l j = 0 := chkF_zero l nobW 0 0 h j hj
set_option maxRecDepth 100000 in
theorem his_of {l : List Ev} (h : ∀ j, j < l.length → errE l j = 0) : chk l = (0, 0) := chkF_of l nobW 0 0 h
set_option maxRecDepth 100000 in
theorem His.chk {l : List Ev} (h : His l) : chk l = (0, 0) := his_of h.err
set_option maxRecDepth 100000 in
theorem take_take_le (l : List Ev) {j n : Nat} (h : j ≤ n) : (l.take n).take j = l.take j := by rw [List.take_take, Nat.min_eq_left h]
set_option maxRecDepth 100000 in
theorem errE_take {l : List Ev} {j n : Nat} (hj : j < n) : errE (l.take n) j = errE l j := by
  unfold errE
  rw [take_take_le l (Nat.le_of_lt hj)]
  congr 1
  rw [List.getD_eq_getElem?_getD, List.getD_eq_getElem?_getD, List.getElem?_take, if_pos hj]
set_option maxRecDepth 100000 in
theorem His.take {l : List Ev} (h : His l) (n : Nat) : His (l.take n) := by
  have := his_of (l := l.take n) fun j hj => by
    rw [List.length_take] at hj
    rw [errE_take (by omega)]
    exact h.err j (by omega)
  unfold His; rw [this]
set_option maxRecDepth 100000 in
/-- the place of the first bad event -/
theorem chkF_place : ∀ (l : List Ev) (W : Int → Bool) (n i : Nat), (chkF W n i l).2 ≠ 0 → ∃ j, j < l.length ∧ (chkF W n i l) = (i + j, stpE ((l.take j).foldl updW W) ((l.take j).foldl cntK n) (l.getD j ev0)) ∧ ∀ m, m < j → stpE ((l.take m).foldl updW W) ((l.take m).foldl cntK n) (l.getD m ev0) = 0
  | [], _, _, _, h => absurd rfl h
  | x :: t, W, n, i, h => by
    unfold chkF at h ⊢
    by_cases he : stpE W n x ≠ 0
    · rw [if_pos he] at h ⊢
      exact ⟨0, by simp, by simp, fun m hm => absurd hm (Nat.not_lt_zero m)⟩
    · rw [if_neg he] at h ⊢
      obtain ⟨j, hj, e, hm⟩ := chkF_place t (updW W x) (cntK n x) (i + 1) h
      refine ⟨j + 1, by simpa using hj, ?_, fun m hmj => ?_⟩
      · rw [e]; congr 1; omega
      · match m with
        | 0 => exact Classical.byContradiction he
        | m + 1 => exact hm m (by omega)
set_option maxRecDepth 100000 in
theorem chk_place {l : List Ev} (h : (chk l).2 ≠ 0) : (chk l).1 < l.length ∧ errE l (chk l).1 = (chk l).2 ∧ ∀ m, m < (chk l).1 → errE l m = 0 := by
  obtain ⟨j, hj, e, hm⟩ := chkF_place l nobW 0 0 h
  have e1 : (chk l).1 = j := by show (chkF nobW 0 0 l).1 = j; rw [e]; simp
  have e2 : (chk l).2 = errE l j := by show (chkF nobW 0 0 l).2 = _; rw [e]; rfl
  rw [e1, e2]
  exact ⟨hj, rfl, hm⟩
set_option maxRecDepth 100000 in
/-- whether a beginning is a history: just if the first bad event stands behind it -/
theorem chk_begin {l : List Ev} (h : (chk l).2 ≠ 0) (n : Nat) (hn : n ≤ l.length) : (chk l).1 < n ↔ (chk (l.take n)).2 ≠ 0 := by
  obtain ⟨h1, h2, h3⟩ := chk_place h
  constructor
  · intro hlt hz
    have := His.err (l := l.take n) hz (chk l).1 (by rw [List.length_take]; omega)
    rw [errE_take hlt, h2] at this
    exact h this
  · intro hz
    refine Classical.byContradiction fun hge => hz ?_
    have := his_of (l := l.take n) fun j hj => by
      rw [List.length_take] at hj
      rw [errE_take (by omega)]
      exact h3 j (by omega)
    rw [this]
set_option maxRecDepth 100000 in
/-- no client's number but 0 to 15 waits -/
theorem wOf_in {l : List Ev} (h : His l) : ∀ n, n ≤ l.length → ∀ c, wOf (l.take n) c = true → 0 ≤ c ∧ c ≤ 15
  | 0, _, c, hc => by rw [List.take_zero] at hc; cases hc
  | n + 1, hn, c, hc => by
    rw [take_snoc l n (by omega), wOf_snoc] at hc
    unfold updW at hc
    have hz := stpE_zero (h.err n (by omega))
    by_cases e : c = (l.getD n ev0).c
    · rw [e]; exact ((canE_iff _).1 hz.1).1
    · rw [if_neg e] at hc
      exact wOf_in h n (by omega) c hc
end Go.Proofs.Ytbjeeefkbmdmfaa
namespace Go.Proofs.Ytbjeeefkbmdmfaa
open Go.RowKit
set_option linter.unusedVariables false

def varL (x : Int) : List Int := varF 9 x
set_option maxRecDepth 100000 in
theorem varL_byt (x : Int) (h0 : 0 ≤ x) (h1 : x ≤ 18446744073709551615) : Byt (varL x) :=
  varF_byt 9 x h0 (by rw [show (128 : Int) ^ (9 + 1) = 1180591620717411303424 from rfl]; omega)
set_option maxRecDepth 100000 in
theorem varL_length (x : Int) : 1 ≤ (varL x).length ∧ (varL x).length ≤ 10 := varF_length 9 x
end Go.Proofs.Ytbjeeefkbmdmfaa
namespace Go.Proofs.Ytbjeeefkbmdmfaa
open Go.RowKit
set_option linter.unusedVariables false

def zigV (x : Int) : Int := if 0 ≤ x then 2 * x else -2 * x - 1
def zagV (u : Int) : Int := if u % 2 = 0 then u / 2 else - (u / 2) - 1

set_option maxRecDepth 100000 in
theorem zig_bd (x : Int) (h1 : -9223372036854775808 ≤ x) (h2 : x ≤ 9223372036854775807) : 0 ≤ zigV x ∧ zigV x ≤ 18446744073709551615 := by
  unfold zigV; split <;> omega
set_option maxRecDepth 100000 in
theorem zag_bd (u : Int) (h1 : 0 ≤ u) (h2 : u ≤ 18446744073709551615) : -9223372036854775808 ≤ zagV u ∧ zagV u ≤ 9223372036854775807 := by
  unfold zagV; split <;> omega
set_option maxRecDepth 100000 in
theorem zag_zig (x : Int) : zagV (zigV x) = x := by
  unfold zigV zagV; split <;> split <;> omega
set_option maxRecDepth 100000 in
theorem zig_zag (u : Int) (h : 0 ≤ u) : zigV (zagV u) = u := by
  unfold zigV zagV; split <;> split <;> omega
end Go.Proofs.Ytbjeeefkbmdmfaa
namespace Go.Proofs.Ytbjeeefkbmdmfaa
open Go.RowKit
set_option linter.unusedVariables false

/-- an event's client and kind in one byte -/
def hdE (x : Ev) : Int := 2 * x.c + (if x.k = true then 1 else 0)
/-- an event's bytes -/
def evL (x : Ev) : List Int := hdE x :: ((if x.k = true then [x.o] else []) ++ varL (zigV x.v))
def evsL : List Ev → List Int
  | [] => []
  | x :: t => evL x ++ evsL t
def txtL (l : List Ev) : List Int := varL (l.length : Int) ++ evsL l
set_option maxRecDepth 100000 in
theorem evsL_append : ∀ (a b : List Ev), evsL (a ++ b) = evsL a ++ evsL b
  | [], _ => rfl
  | x :: t, b => by show evL x ++ evsL (t ++ b) = _; rw [evsL_append t b, ← List.append_assoc]; rfl
/-- a number that an int64 is -/
def V64 (v : Int) : Prop := -9223372036854775808 ≤ v ∧ v ≤ 9223372036854775807
/-- the number behind a head, and what stands behind: number, bytes, error -/
def rdV (b : List Int) : Int × Nat × Int := ((zagV (rd b 0 0).1), (rd b 0 0).2.1.toNat, (rd b 0 0).2.2)
/-- one event: the event, how many bytes, the error -/
def rdE (b : List Int) : Ev × Nat × Int :=
  if b.length = 0 then (ev0, 0, 3) else
  if 31 < b.getD 0 0 then (ev0, 0, 4) else
  if b.getD 0 0 % 2 = 1 then
    (if b.length ≤ 1 then (ev0, 0, 3) else if 15 < b.getD 1 0 then (ev0, 0, 4) else
     if (rd (b.drop 2) 0 0).2.2 ≠ 0 then (ev0, 0, (rd (b.drop 2) 0 0).2.2) else (⟨b.getD 0 0 / 2, true, b.getD 1 0, zagV (rd (b.drop 2) 0 0).1⟩, 2 + (rd (b.drop 2) 0 0).2.1.toNat, 0))
  else if (rd (b.drop 1) 0 0).2.2 ≠ 0 then (ev0, 0, (rd (b.drop 1) 0 0).2.2) else (⟨b.getD 0 0 / 2, false, 0, zagV (rd (b.drop 1) 0 0).1⟩, 1 + (rd (b.drop 1) 0 0).2.1.toNat, 0)
/-- so many events from a place on: the events, the place behind them, the error -/
def rdF (b : List Int) : Nat → Nat → List Ev × Nat × Int
  | 0, p => ([], p, 0)
  | n + 1, p => if (rdE (b.drop p)).2.2 ≠ 0 then ([], 0, (rdE (b.drop p)).2.2) else
    if (rdF b n (p + (rdE (b.drop p)).2.1)).2.2 ≠ 0 then ([], 0, (rdF b n (p + (rdE (b.drop p)).2.1)).2.2) else
    ((rdE (b.drop p)).1 :: (rdF b n (p + (rdE (b.drop p)).2.1)).1, (rdF b n (p + (rdE (b.drop p)).2.1)).2.1, 0)
/-- what bytes say: the events, the error -/
def rdH (b : List Int) : List Ev × Int :=
  if (rd b 0 0).2.2 ≠ 0 then ([], (rd b 0 0).2.2) else
  if 128 < (rd b 0 0).1 then ([], 5) else
  if (rdF b (rd b 0 0).1.toNat (rd b 0 0).2.1.toNat).2.2 ≠ 0 then ([], (rdF b (rd b 0 0).1.toNat (rd b 0 0).2.1.toNat).2.2) else
  if (rdF b (rd b 0 0).1.toNat (rd b 0 0).2.1.toNat).2.1 < b.length then ([], 6) else
  if (chk (rdF b (rd b 0 0).1.toNat (rd b 0 0).2.1.toNat).1).2 ≠ 0 then ([], (chk (rdF b (rd b 0 0).1.toNat (rd b 0 0).2.1.toNat).1).2) else
  ((rdF b (rd b 0 0).1.toNat (rd b 0 0).2.1.toNat).1, 0)
set_option maxRecDepth 100000 in
theorem rd_var (x : Int) (h0 : 0 ≤ x) (h1 : x ≤ 18446744073709551615) (t : List Int) : rd (varL x ++ t) 0 0 = (x, ((varL x).length : Int), 0) := by
  have := rd_varF 9 x 0 0 t h0 (by rw [show (128 : Int) ^ (9 + 1) = 1180591620717411303424 from rfl]; omega) (by omega) (fun h => absurd h (Nat.lt_irrefl _)) (by simpa using h1)
  unfold varL
  rw [this]
  simp
set_option maxRecDepth 100000 in
theorem rd_back {l : List Int} {x n : Int} (hb : Byt l) (h : rd l 0 0 = (x, n, 0)) : ∃ m : Nat, 1 ≤ m ∧ m ≤ l.length ∧ n = (m : Int) ∧ 0 ≤ x ∧ varL x = l.take m := by
  obtain ⟨m, y, h1, h2, h3, h4, h5, h6, _⟩ := rd_inv l 0 0 x n hb (by omega) h
  have e : x = y := by rw [h5]; simp
  exact ⟨m, h1, h2, by rw [h3]; simp, by rw [e]; exact h4, by rw [e]; exact h6⟩
set_option maxRecDepth 100000 in
theorem hdE_bd {x : Ev} (h : canE x = true) : 0 ≤ hdE x ∧ hdE x ≤ 31 ∧ (hdE x % 2 = 1 ↔ x.k = true) ∧ hdE x / 2 = x.c := by
  have := ((canE_iff x).1 h).1
  unfold hdE
  cases x.k <;> simp <;> omega
set_option maxRecDepth 100000 in
theorem evL_byt {x : Ev} (h : canE x = true) (hv : V64 x.v) : Byt (evL x) := by
  have h1 := hdE_bd h
  have h2 := ((canE_iff x).1 h).2
  have hz := zig_bd x.v hv.1 hv.2
  refine Byt.cons ⟨h1.1, by omega⟩ (Byt.append ?_ (varL_byt _ hz.1 hz.2))
  cases hk : x.k with
  | false => exact Byt.nil
  | true =>
    rw [hk] at h2
    simp only [if_true] at h2 ⊢
    exact Byt.cons (by omega) Byt.nil
set_option maxRecDepth 100000 in
theorem evL_len (x : Ev) : 2 ≤ (evL x).length ∧ (evL x).length ≤ 12 := by
  unfold evL
  rw [List.length_cons, List.length_append]
  have := varL_length (zigV x.v)
  cases x.k <;> simp <;> omega
set_option maxRecDepth 100000 in
/-- an event is read as it was written, whatever stands behind -/
theorem rdE_evL {x : Ev} (h : canE x = true) (hv : V64 x.v) (t : List Int) : rdE (evL x ++ t) = (x, (evL x).length, 0) := by
  have h1 := hdE_bd h
  have h2 := ((canE_iff x).1 h).2
  have hz := zig_bd x.v hv.1 hv.2
  have hr := rd_var (zigV x.v) hz.1 hz.2 t
  have hl : (evL x ++ t).length ≠ 0 := by rw [List.length_append]; have := evL_len x; omega
  have hg : (evL x ++ t).getD 0 0 = hdE x := rfl
  unfold rdE
  rw [if_neg hl, hg, if_neg (by omega)]
  cases hk : x.k with
  | true =>
    rw [hk] at h2
    simp only [if_true] at h2
    rw [if_pos (h1.2.2.1.2 hk)]
    have e : evL x ++ t = hdE x :: x.o :: (varL (zigV x.v) ++ t) := by unfold evL; rw [hk]; simp
    have e2 : (evL x ++ t).drop 2 = varL (zigV x.v) ++ t := by rw [e]; rfl
    have e3 : (evL x ++ t).getD 1 0 = x.o := by rw [e]; rfl
    have e4 : ¬ (evL x ++ t).length ≤ 1 := by rw [List.length_append]; have := evL_len x; omega
    have e5 : (evL x).length = 2 + (varL (zigV x.v)).length := by unfold evL; rw [hk]; simp; omega
    rw [if_neg e4, e3, if_neg (by omega), e2, hr]
    simp only
    rw [if_neg (fun h => h rfl), zag_zig, h1.2.2.2, e5]
    congr 1
    · cases x; simp only at hk ⊢; rw [hk]
  | false =>
    rw [hk] at h2
    simp only [Bool.false_eq_true, if_false] at h2
    rw [if_neg (fun h => by have := h1.2.2.1.1 h; rw [hk] at this; cases this)]
    have e : evL x ++ t = hdE x :: (varL (zigV x.v) ++ t) := by unfold evL; rw [hk]; simp
    have e2 : (evL x ++ t).drop 1 = varL (zigV x.v) ++ t := by rw [e]; rfl
    have e5 : (evL x).length = 1 + (varL (zigV x.v)).length := by unfold evL; rw [hk]; simp; omega
    rw [e2, hr]
    simp only
    rw [if_neg (fun h => h rfl), zag_zig, h1.2.2.2, e5]
    congr 1
    · cases x; simp only at hk h2 ⊢; rw [hk, h2]
set_option maxRecDepth 100000 in
/-- events are read as they were written -/
theorem rdF_evs : ∀ (l : List Ev) (a t : List Int), (∀ x ∈ l, canE x = true ∧ V64 x.v) → rdF (a ++ (evsL l ++ t)) l.length a.length = (l, a.length + (evsL l).length, 0)
  | [], a, t, _ => by show ([], a.length, 0) = _; simp [evsL]
  | x :: l, a, t, h => by
    have hx := h x (by simp)
    have e1 : (a ++ (evsL (x :: l) ++ t)).drop a.length = evL x ++ (evsL l ++ t) := by rw [List.drop_left]; show (evL x ++ evsL l) ++ t = _; rw [List.append_assoc]
    have e2 : a ++ (evsL (x :: l) ++ t) = (a ++ evL x) ++ (evsL l ++ t) := by show a ++ ((evL x ++ evsL l) ++ t) = _; simp [List.append_assoc]
    have ih := rdF_evs l (a ++ evL x) t (fun y hy => h y (by simp [hy]))
    rw [← e2, List.length_append] at ih
    show rdF _ (l.length + 1) _ = _
    unfold rdF
    rw [e1, rdE_evL hx.1 hx.2]
    simp only
    rw [if_neg (fun h => h rfl), ih]
    simp only
    rw [if_neg (fun h => h rfl)]
    show (x :: l, _, _) = (x :: l, a.length + (evL x ++ evsL l).length, _)
    rw [List.length_append, Nat.add_assoc]
end Go.Proofs.Ytbjeeefkbmdmfaa
namespace Go.Proofs.Ytbjeeefkbmdmfaa
open Go.RowKit
set_option linter.unusedVariables false

/-- an operation -/
structure Opr where
  c : Int
  o : Int
  a : Int
  d : Bool
  r : Int
  f : Int
  t : Int
def op0 : Opr := ⟨0, 0, 0, false, 0, 0, 0⟩
def newO (x : Ev) (i : Nat) : Opr := ⟨x.c, x.o, x.v, false, 0, i, -1⟩
def endO (o : Opr) (v : Int) (i : Nat) : Opr := ⟨o.c, o.o, o.a, true, v, o.f, i⟩
def set1 (x : Ev) (i : Nat) (o : Opr) : Opr := if o.c = x.c ∧ o.d = false then endO o x.v i else o
def setO (O : List Opr) (x : Ev) (i : Nat) : List Opr := O.map (set1 x i)
def stpO (O : List Opr) (i : Nat) (x : Ev) : List Opr := if x.k = true then O ++ [newO x i] else setO O x i
/-- event by event -/
def opsF : List Opr → Nat → List Ev → List Opr
  | O, _, [] => O
  | O, i, x :: t => opsF (stpO O i x) (i + 1) t
def opsL (l : List Ev) : List Opr := opsF [] 0 l
set_option maxRecDepth 100000 in
theorem opsF_append : ∀ (a b : List Ev) (O : List Opr) (i : Nat), opsF O i (a ++ b) = opsF (opsF O i a) (i + a.length) b
  | [], b, O, i => by simp [opsF]
  | x :: t, b, O, i => by
    show opsF (stpO O i x) (i + 1) (t ++ b) = opsF (opsF (stpO O i x) (i + 1) t) _ b
    rw [opsF_append t b (stpO O i x) (i + 1), List.length_cons]
    congr 1
    omega
set_option maxRecDepth 100000 in
theorem opsL_snoc (l : List Ev) (i : Nat) (h : i < l.length) : opsL (l.take (i + 1)) = stpO (opsL (l.take i)) i (l.getD i ev0) := by
  unfold opsL
  rw [take_snoc l i h, opsF_append, List.length_take, Nat.zero_add, Nat.min_eq_left (by omega)]
  rfl
/-- a client's next event -/
def nxtA : List Ev → Nat → Int → Option (Nat × Int)
  | [], _, _ => none
  | x :: t, i, c => if x.c = c then some (i, x.v) else nxtA t (i + 1) c
def finP (o : Opr) : Option (Nat × Int) → Opr
  | none => o
  | some p => endO o p.2 p.1
def finO (t : List Ev) (i : Nat) (o : Opr) : Opr := if o.d = true then o else finP o (nxtA t i o.c)
/-- of each call its client's next event -/
def refO : List Ev → Nat → List Opr
  | [], _ => []
  | x :: t, i => if x.k = true then finO t (i + 1) (newO x i) :: refO t (i + 1) else refO t (i + 1)
set_option maxRecDepth 100000 in
theorem finO_done {t : List Ev} {i : Nat} {o : Opr} (h : o.d = true) : finO t i o = o := by unfold finO; rw [if_pos h]
set_option maxRecDepth 100000 in
theorem finO_open {t : List Ev} {i : Nat} {o : Opr} (h : o.d = false) : finO t i o = finP o (nxtA t i o.c) := by unfold finO; rw [if_neg (by rw [h]; decide)]
set_option maxRecDepth 100000 in
theorem finO_nil (i : Nat) (o : Opr) : finO [] i o = o := by
  unfold finO; split <;> rfl
set_option maxRecDepth 100000 in
theorem finO_other {x : Ev} {t : List Ev} {i : Nat} {o : Opr} (h : o.d = false → x.c ≠ o.c) : finO (x :: t) i o = finO t (i + 1) o := by
  cases hd : o.d with
  | true => rw [finO_done hd, finO_done hd]
  | false =>
    rw [finO_open hd, finO_open hd]
    show finP o (if x.c = o.c then _ else _) = _
    rw [if_neg (h hd)]
set_option maxRecDepth 100000 in
theorem ops_ref : ∀ (t : List Ev) (O : List Opr) (W : Int → Bool) (n i : Nat), (chkF W n i t).2 = 0 → (∀ o ∈ O, o.d = false → W o.c = true) → opsF O i t = O.map (finO t i) ++ refO t i
  | [], O, W, n, i, _, _ => by
    show O = _
    have : O.map (finO [] i) = O := by
      conv => rhs; rw [← List.map_id O]
      exact List.map_congr_left fun o _ => finO_nil i o
    rw [this]; simp [refO]
  | x :: t, O, W, n, i, h, hO => by
    unfold chkF at h
    by_cases he : stpE W n x ≠ 0
    · rw [if_pos he] at h; exact absurd h he
    · rw [if_neg he] at h
      obtain ⟨hcan, _, hw⟩ := stpE_zero (Classical.byContradiction he)
      show opsF (stpO O i x) (i + 1) t = _ ++ (if x.k = true then _ else _)
      unfold stpO
      by_cases hk : x.k = true
      · rw [if_pos hk, if_pos hk]
        have hW : W x.c = false := by
          cases hwx : W x.c with
          | false => rfl
          | true => rw [hwx, hk] at hw; exact absurd rfl hw
        have hne : ∀ o ∈ O, o.d = false → x.c ≠ o.c := fun o ho hd e => by have := hO o ho hd; rw [← e, hW] at this; cases this
        rw [ops_ref t (O ++ [newO x i]) (updW W x) (cntK n x) (i + 1) h ?_]
        · rw [List.map_append, List.append_assoc]
          congr 1
          exact List.map_congr_left fun o ho => (finO_other (hne o ho)).symm
        · intro o ho hd
          unfold updW
          rcases List.mem_append.1 ho with h1 | h1
          · rw [if_neg (fun e => hne o h1 hd e.symm)]; exact hO o h1 hd
          · simp only [List.mem_cons, List.not_mem_nil, or_false] at h1
            subst h1
            show (if x.c = x.c then x.k else _) = true
            rw [if_pos rfl, hk]
      · rw [if_neg hk, if_neg hk]
        rw [ops_ref t (setO O x i) (updW W x) (cntK n x) (i + 1) h ?_]
        · unfold setO
          rw [List.map_map]
          congr 1
          refine List.map_congr_left fun o ho => ?_
          show finO t (i + 1) (set1 x i o) = _
          unfold set1
          by_cases hc : o.c = x.c ∧ o.d = false
          · rw [if_pos hc, finO_done rfl, finO_open hc.2]
            show _ = finP o (if x.c = o.c then _ else _)
            rw [if_pos hc.1.symm]; rfl
          · rw [if_neg hc]
            exact (finO_other (fun hd e => hc ⟨e.symm, hd⟩)).symm
        · intro o ho hd
          unfold setO at ho
          obtain ⟨p, hp, rfl⟩ := List.mem_map.1 ho
          unfold set1 at hd ⊢
          by_cases hc : p.c = x.c ∧ p.d = false
          · rw [if_pos hc] at hd; cases hd
          · rw [if_neg hc] at hd ⊢
            unfold updW
            rw [if_neg (fun e => hc ⟨e, hd⟩)]
            exact hO p hp hd
set_option maxRecDepth 100000 in
/-- a history's operations: the same by both ways -/
theorem ops_eq {l : List Ev} (h : His l) : opsL l = refO l 0 := by
  unfold opsL
  rw [ops_ref l [] nobW 0 0 h (fun o ho => by cases ho)]
  rfl
/-- how often a place is named -/
def sn : List Opr → Int → Nat
  | [], _ => 0
  | o :: O, j => (if o.f = j then 1 else 0) + (if o.d = true ∧ o.t = j then 1 else 0) + sn O j
/-- how many operations of a client are open -/
def opC : List Opr → Int → Nat
  | [], _ => 0
  | o :: O, c => (if o.d = false ∧ o.c = c then 1 else 0) + opC O c
set_option maxRecDepth 100000 in
theorem sn_append : ∀ (A B : List Opr) (j : Int), sn (A ++ B) j = sn A j + sn B j
  | [], B, j => by simp [sn]
  | o :: A, B, j => by
    rw [List.cons_append]
    show _ + sn (A ++ B) j = _ + sn A j + sn B j
    rw [sn_append A B j]; omega
set_option maxRecDepth 100000 in
theorem opC_append : ∀ (A B : List Opr) (c : Int), opC (A ++ B) c = opC A c + opC B c
  | [], B, c => by simp [opC]
  | o :: A, B, c => by
    rw [List.cons_append]
    show _ + opC (A ++ B) c = _ + opC A c + opC B c
    rw [opC_append A B c]; omega
set_option maxRecDepth 100000 in
theorem sn_zero {j : Int} : ∀ {O : List Opr}, (∀ o ∈ O, o.f ≠ j ∧ (o.d = true → o.t ≠ j)) → sn O j = 0
  | [], _ => rfl
  | o :: O, h => by
    have h1 := h o (by simp)
    show _ + _ + sn O j = 0
    rw [sn_zero (fun p hp => h p (by simp [hp])), if_neg h1.1, if_neg (fun k => h1.2 k.1 k.2)]
set_option maxRecDepth 100000 in
theorem opC_zero {c : Int} : ∀ {O : List Opr}, opC O c = 0 → ∀ o ∈ O, o.c = c → o.d = true
  | [], _, o, ho, _ => by cases ho
  | p :: O, h, o, ho, hc => by
    have h1 : (if p.d = false ∧ p.c = c then 1 else 0) + opC O c = 0 := h
    rcases List.mem_cons.1 ho with e | ho
    · subst e
      cases hd : o.d with
      | true => rfl
      | false => rw [if_pos ⟨hd, hc⟩] at h1; omega
    · exact opC_zero (by omega) o ho hc
set_option maxRecDepth 100000 in
theorem sn_set {x : Ev} {i : Nat} {j : Int} (hj : j ≠ (i : Int)) : ∀ {O : List Opr}, sn (setO O x i) j = sn O j
  | [] => rfl
  | o :: O => by
    have ih := sn_set (x := x) (i := i) hj (O := O)
    show sn (set1 x i o :: setO O x i) j = _
    show _ + _ + sn (setO O x i) j = _ + _ + sn O j
    rw [ih]
    unfold set1
    by_cases hc : o.c = x.c ∧ o.d = false
    · rw [if_pos hc]
      rw [if_neg (show ¬ ((endO o x.v i).d = true ∧ (endO o x.v i).t = j) from fun h => hj h.2.symm), if_neg (show ¬ (o.d = true ∧ o.t = j) from fun h => by rw [hc.2] at h; cases h.1)]
      rfl
    · rw [if_neg hc]
set_option maxRecDepth 100000 in
/-- the place of an answer is named once by each open operation of its client -/
theorem sn_now {x : Ev} {i : Nat} : ∀ {O : List Opr}, (∀ o ∈ O, o.f ≠ (i : Int) ∧ (o.d = true → o.t ≠ (i : Int))) → sn (setO O x i) i = opC O x.c
  | [], _ => rfl
  | o :: O, h => by
    have ih := sn_now (x := x) (O := O) (fun p hp => h p (by simp [hp]))
    have h1 := h o (by simp)
    show _ + _ + sn (setO O x i) i = _ + opC O x.c
    rw [ih]
    unfold set1
    by_cases hc : o.c = x.c ∧ o.d = false
    · rw [if_pos hc, if_pos (show o.d = false ∧ o.c = x.c from ⟨hc.2, hc.1⟩), if_neg (show ¬ (endO o x.v i).f = (i : Int) from h1.1), if_pos (show (endO o x.v i).d = true ∧ (endO o x.v i).t = (i : Int) from ⟨rfl, rfl⟩)]
    · rw [if_neg hc, if_neg (show ¬ (o.d = false ∧ o.c = x.c) from fun k => hc ⟨k.2, k.1⟩), if_neg h1.1, if_neg (fun k => h1.2 k.1 k.2)]
set_option maxRecDepth 100000 in
theorem opC_set {x : Ev} {i : Nat} (c : Int) : ∀ {O : List Opr}, opC (setO O x i) c = if c = x.c then 0 else opC O c
  | [] => by show 0 = _; split <;> rfl
  | o :: O => by
    have ih := opC_set (x := x) (i := i) c (O := O)
    show _ + opC (setO O x i) c = _
    rw [ih]
    unfold set1
    by_cases hcx : c = x.c
    · rw [if_pos hcx, if_pos hcx]
      by_cases hc : o.c = x.c ∧ o.d = false
      · rw [if_pos hc, if_neg (by rintro ⟨h, _⟩; cases h)]
      · rw [if_neg hc, if_neg (fun k => hc ⟨k.2.trans hcx, k.1⟩)]
    · rw [if_neg hcx, if_neg hcx]
      show _ = (if o.d = false ∧ o.c = c then 1 else 0) + opC O c
      by_cases hc : o.c = x.c ∧ o.d = false
      · rw [if_pos hc, if_neg (by rintro ⟨h, _⟩; cases h), if_neg (fun k => hcx (k.2.symm.trans hc.1))]
      · rw [if_neg hc]
/-- what holds of the operations of a beginning -/
structure OInv (l : List Ev) (n : Nat) (O : List Opr) : Prop where
  frm : ∀ o ∈ O, ∃ j : Nat, o.f = (j : Int) ∧ j < n ∧ l.getD j ev0 = ⟨o.c, true, o.o, o.a⟩
  inc : O.Pairwise fun a b => a.f < b.f
  don : ∀ o ∈ O, o.d = true → o.f < o.t ∧ ∃ j : Nat, o.t = (j : Int) ∧ j < n ∧ l.getD j ev0 = ⟨o.c, false, 0, o.r⟩
  opn : ∀ o ∈ O, o.d = false → o.t = -1 ∧ o.r = 0
  one : ∀ j : Nat, j < n → sn O (j : Int) = 1
  bef : O.Pairwise fun a b => a.c = b.c → a.d = true ∧ a.t < b.f
  wai : ∀ c, opC O c = if wOf (l.take n) c = true then 1 else 0
set_option maxRecDepth 100000 in
theorem OInv.far {l : List Ev} {n : Nat} {O : List Opr} (h : OInv l n O) : ∀ o ∈ O, o.f ≠ (n : Int) ∧ (o.d = true → o.t ≠ (n : Int)) := fun o ho => by
  obtain ⟨j, e, hj, _⟩ := h.frm o ho
  refine ⟨by omega, fun hd => ?_⟩
  obtain ⟨_, j2, e2, hj2, _⟩ := h.don o ho hd
  omega
set_option maxRecDepth 100000 in
theorem set1_c (x : Ev) (i : Nat) (o : Opr) : (set1 x i o).c = o.c := by unfold set1; split <;> rfl
set_option maxRecDepth 100000 in
theorem set1_f (x : Ev) (i : Nat) (o : Opr) : (set1 x i o).f = o.f := by unfold set1; split <;> rfl
set_option maxRecDepth 100000 in
theorem OInv.step {l : List Ev} (hl : His l) {n : Nat} (hn : n < l.length) {O : List Opr} (h : OInv l n O) : OInv l (n + 1) (stpO O n (l.getD n ev0)) := by
  obtain ⟨hcan, _, hw⟩ := stpE_zero (hl.err n hn)
  have hcan2 := (canE_iff _).1 hcan
  have hW : wOf (l.take (n + 1)) = updW (wOf (l.take n)) (l.getD n ev0) := by rw [take_snoc l n hn, wOf_snoc]
  have hX : ∀ j, l.getD n ev0 = l.getD j ev0 → True := fun _ _ => trivial
  generalize hx : l.getD n ev0 = x at *
  unfold stpO
  by_cases hk : x.k = true
  · rw [if_pos hk]
    have hwf : wOf (l.take n) x.c = false := by
      cases hwx : wOf (l.take n) x.c with
      | false => rfl
      | true => rw [hwx, hk] at hw; exact absurd rfl hw
    have hnone : ∀ o ∈ O, o.c = x.c → o.d = true := opC_zero (by rw [h.wai, if_neg (by rw [hwf]; decide)])
    refine ⟨?_, ?_, ?_, ?_, ?_, ?_, ?_⟩
    · intro o ho
      rcases List.mem_append.1 ho with h1 | h1
      · obtain ⟨j, e, hj, hg⟩ := h.frm o h1; exact ⟨j, e, by omega, hg⟩
      · simp only [List.mem_cons, List.not_mem_nil, or_false] at h1
        subst h1
        exact ⟨n, rfl, by omega, by rw [hx]; show x = ⟨x.c, true, x.o, x.v⟩; rw [← hk]⟩
    · rw [List.pairwise_append]
      refine ⟨h.inc, by simp, fun a ha b hb => ?_⟩
      simp only [List.mem_cons, List.not_mem_nil, or_false] at hb
      subst hb
      obtain ⟨j, e, hj, _⟩ := h.frm a ha
      show a.f < (n : Int)
      omega
    · intro o ho hd
      rcases List.mem_append.1 ho with h1 | h1
      · obtain ⟨e0, j, e, hj, hg⟩ := h.don o h1 hd; exact ⟨e0, j, e, by omega, hg⟩
      · simp only [List.mem_cons, List.not_mem_nil, or_false] at h1
        subst h1
        cases hd
    · intro o ho hd
      rcases List.mem_append.1 ho with h1 | h1
      · exact h.opn o h1 hd
      · simp only [List.mem_cons, List.not_mem_nil, or_false] at h1
        subst h1
        exact ⟨rfl, rfl⟩
    · intro j hj
      rw [sn_append]
      have e1 : sn [newO x n] (j : Int) = if (n : Int) = (j : Int) then 1 else 0 := by
        show (if (n : Int) = (j : Int) then 1 else 0) + (if (newO x n).d = true ∧ (newO x n).t = (j : Int) then 1 else 0) + 0 = _
        rw [if_neg (show ¬ ((newO x n).d = true ∧ (newO x n).t = (j : Int)) from fun h => by cases h.1)]; simp
      rw [e1]
      by_cases e : j = n
      · subst e
        rw [sn_zero h.far, if_pos rfl]
      · rw [h.one j (by omega), if_neg (by omega)]
    · rw [List.pairwise_append]
      refine ⟨h.bef, by simp, fun a ha b hb hc => ?_⟩
      simp only [List.mem_cons, List.not_mem_nil, or_false] at hb
      subst hb
      have hd := hnone a ha hc
      obtain ⟨_, j, e, hj, _⟩ := h.don a ha hd
      refine ⟨hd, ?_⟩
      show a.t < (n : Int)
      omega
    · intro c
      rw [opC_append, hW, h.wai c]
      have e1 : opC [newO x n] c = if x.c = c then 1 else 0 := by
        show (if false = false ∧ x.c = c then 1 else 0) + 0 = _
        simp
      rw [e1]
      unfold updW
      by_cases e : c = x.c
      · subst e; rw [hwf, if_neg (by decide), if_pos rfl, if_pos rfl, if_pos hk]
      · rw [if_neg (show ¬ x.c = c from fun k => e k.symm), if_neg (show ¬ c = x.c from e)]; simp
  · rw [if_neg hk]
    have hkf : x.k = false := by cases hkx : x.k with
      | false => rfl
      | true => exact absurd hkx hk
    have hwt : wOf (l.take n) x.c = true := by
      cases hwx : wOf (l.take n) x.c with
      | true => rfl
      | false => rw [hwx, hkf] at hw; exact absurd rfl hw
    have ho0 : x.o = 0 := by have := hcan2.2; rw [if_neg hk] at this; exact this
    refine ⟨?_, ?_, ?_, ?_, ?_, ?_, ?_⟩
    · intro o ho
      obtain ⟨p, hp, rfl⟩ := List.mem_map.1 ho
      obtain ⟨j, e, hj, hg⟩ := h.frm p hp
      refine ⟨j, by rw [set1_f]; exact e, by omega, ?_⟩
      rw [hg]; unfold set1; split <;> rfl
    · refine List.pairwise_map.2 (h.inc.imp fun hab => ?_)
      rw [set1_f, set1_f]; exact hab
    · intro o ho hd
      obtain ⟨p, hp, rfl⟩ := List.mem_map.1 ho
      unfold set1 at hd ⊢
      by_cases hc : p.c = x.c ∧ p.d = false
      · rw [if_pos hc]
        obtain ⟨j, e, hj, _⟩ := h.frm p hp
        refine ⟨show p.f < (n : Int) by omega, n, rfl, by omega, ?_⟩
        rw [hx]
        show x = ⟨p.c, false, 0, x.v⟩
        rw [hc.1, ← hkf, ← ho0]
      · rw [if_neg hc] at hd ⊢
        obtain ⟨e0, j, e, hj, hg⟩ := h.don p hp hd
        exact ⟨e0, j, e, by omega, hg⟩
    · intro o ho hd
      obtain ⟨p, hp, rfl⟩ := List.mem_map.1 ho
      unfold set1 at hd ⊢
      by_cases hc : p.c = x.c ∧ p.d = false
      · rw [if_pos hc] at hd; cases hd
      · rw [if_neg hc] at hd ⊢; exact h.opn p hp hd
    · intro j hj
      by_cases e : j = n
      · subst e
        rw [sn_now h.far, h.wai, if_pos hwt]
      · rw [sn_set (by omega), h.one j (by omega)]
    · refine List.pairwise_map.2 (h.bef.imp fun hab hc => ?_)
      rw [set1_c, set1_c] at hc
      have h1 := hab hc
      have e1 : ∀ q : Opr, q.d = true → set1 x n q = q := fun q hq => by unfold set1; rw [if_neg (fun k => by rw [hq] at k; cases k.2)]
      rw [e1 _ h1.1, set1_f]
      exact h1
    · intro c
      rw [opC_set, hW, h.wai c]
      unfold updW
      by_cases e : c = x.c
      · rw [if_pos e, if_pos e, if_neg hk]
      · rw [if_neg e, if_neg e]
set_option maxRecDepth 100000 in
theorem ops_inv {l : List Ev} (hl : His l) : ∀ n, n ≤ l.length → OInv l n (opsL (l.take n))
  | 0, _ => ⟨fun o ho => (by cases ho), List.Pairwise.nil, fun o ho => (by cases ho), fun o ho => (by cases ho), fun j hj => absurd hj (Nat.not_lt_zero j), List.Pairwise.nil, fun c => rfl⟩
  | n + 1, hn => by rw [opsL_snoc l n hn]; exact (ops_inv hl n (by omega)).step hl hn
set_option maxRecDepth 100000 in
theorem ops_all {l : List Ev} (hl : His l) : OInv l l.length (opsL l) := by
  have := ops_inv hl l.length (Nat.le_refl _)
  rwa [List.take_length] at this
set_option maxRecDepth 100000 in
/-- operations that go on behind a beginning -/
theorem ops_on {l : List Ev} (hl : His l) (n : Nat) (hn : n ≤ l.length) : opsL l = (opsL (l.take n)).map (finO (l.drop n) n) ++ refO (l.drop n) n := by
  have hi := ops_inv hl n hn
  have e : opsL l = opsF (opsL (l.take n)) n (l.drop n) := by
    conv => lhs; rw [← List.take_append_drop n l]
    unfold opsL
    rw [opsF_append, List.length_take, Nat.zero_add, Nat.min_eq_left hn]
  rw [e]
  refine ops_ref (l.drop n) _ (wOf (l.take n)) (cOf (l.take n)) n ?_ ?_
  · have h1 : ∀ m, m ≤ l.length → chkR l m = (0, 0) := by
      intro m
      induction m with
      | zero => intro _; exact hl.chk
      | succ m ih => intro hm; rw [← chkR_next l m (by omega) (hl.err m (by omega))]; exact ih (by omega)
    have := h1 n hn
    unfold chkR at this
    rw [this]
  · intro o ho hd
    refine Classical.byContradiction fun hw => ?_
    have := opC_zero (c := o.c) (by rw [hi.wai, if_neg hw]) o ho rfl
    rw [hd] at this
    cases this
set_option maxRecDepth 100000 in
theorem nxtA_ge : ∀ (t : List Ev) (i : Nat) (c : Int) (p : Nat × Int), nxtA t i c = some p → i ≤ p.1
  | [], _, _, _, h => by cases h
  | x :: t, i, c, p, h => by
    unfold nxtA at h
    split at h
    · cases h; exact Nat.le_refl _
    · have := nxtA_ge t (i + 1) c p h; omega
set_option maxRecDepth 100000 in
theorem finO_f (t : List Ev) (i : Nat) (o : Opr) : (finO t i o).f = o.f := by
  unfold finO; split
  · rfl
  · cases nxtA t i o.c <;> rfl
set_option maxRecDepth 100000 in
theorem refO_from : ∀ (t : List Ev) (i : Nat), ∀ o ∈ refO t i, (i : Int) ≤ o.f
  | [], _, o, h => by cases h
  | x :: t, i, o, h => by
    unfold refO at h
    split at h
    · rcases List.mem_cons.1 h with e | h
      · rw [e, finO_f]; exact Int.le_refl _
      · have := refO_from t (i + 1) o h; omega
    · have := refO_from t (i + 1) o h; omega
/-- an operation without an answer that comes from a place on -/
def cutO (n : Nat) (o : Opr) : Opr := if (n : Int) ≤ o.t then ⟨o.c, o.o, o.a, false, 0, o.f, -1⟩ else o
set_option maxRecDepth 100000 in
theorem cut_fin {l : List Ev} {n : Nat} {O : List Opr} (h : OInv l n O) (t : List Ev) : ∀ o ∈ O, cutO n (finO t n o) = o := fun o ho => by
  cases hd : o.d with
  | true =>
    obtain ⟨_, j, e, hj, _⟩ := h.don o ho hd
    rw [finO_done hd]
    unfold cutO
    rw [if_neg (by omega)]
  | false =>
    obtain ⟨e1, e2⟩ := h.opn o ho hd
    rw [finO_open hd]
    cases hx : nxtA t n o.c with
    | none =>
      show cutO n o = o
      unfold cutO
      rw [if_neg (by omega)]
    | some p =>
      have hp := nxtA_ge _ _ _ _ hx
      show cutO n (endO o p.2 p.1) = o
      unfold cutO
      rw [if_pos (show (n : Int) ≤ (endO o p.2 p.1).t from (by show (n : Int) ≤ (p.1 : Int); omega))]
      show (⟨o.c, o.o, o.a, false, 0, o.f, -1⟩ : Opr) = o
      cases o
      simp only at hd e1 e2
      rw [hd, e1, e2]
/-- an operation is before another one -/
def befO (a b : Opr) : Bool := a.d && decide (a.t < b.f)
set_option maxRecDepth 100000 in
theorem bef_irr {a : Opr} (h : a.d = true → a.f < a.t) : befO a a = false := by
  unfold befO
  cases hd : a.d with
  | false => rfl
  | true => have := h hd; simp; omega
set_option maxRecDepth 100000 in
theorem bef_asym {a b : Opr} (ha : a.d = true → a.f < a.t) (hb : b.d = true → b.f < b.t) (h : befO a b = true) : befO b a = false := by
  unfold befO at h ⊢
  simp at h
  cases hd : b.d with
  | false => rfl
  | true => have := hb hd; have := ha h.1; simp; omega
set_option maxRecDepth 100000 in
theorem bef_trans {a b c : Opr} (hb : b.d = true → b.f < b.t) (h1 : befO a b = true) (h2 : befO b c = true) : befO a c = true := by
  unfold befO at h1 h2 ⊢
  simp at h1 h2 ⊢
  have := hb h2.1
  exact ⟨h1.1, by omega⟩
set_option maxRecDepth 100000 in
theorem opsF_len : ∀ (t : List Ev) (O : List Opr) (i : Nat), (opsF O i t).length = O.length + t.foldl cntK 0
  | [], O, _ => by simp [opsF]
  | x :: t, O, i => by
    have hc : ∀ (t : List Ev) (n : Nat), t.foldl cntK n = n + t.foldl cntK 0 := by
      intro t
      induction t with
      | nil => intro n; simp
      | cons y t ih => intro n; rw [List.foldl_cons, ih, List.foldl_cons, ih (cntK 0 y)]; unfold cntK; split <;> omega
    show (opsF (stpO O i x) (i + 1) t).length = _
    rw [opsF_len t, List.foldl_cons, hc t (cntK 0 x)]
    unfold stpO cntK
    split
    · rw [List.length_append]; simp; omega
    · unfold setO; rw [List.length_map]; omega
set_option maxRecDepth 100000 in
theorem ops_len (l : List Ev) : (opsL l).length = cOf l := by unfold opsL; rw [opsF_len]; simp [cOf]
set_option maxRecDepth 100000 in
theorem cOf_le (l : List Ev) (h : His l) : ∀ n, n ≤ l.length → cOf (l.take n) ≤ 64
  | 0, _ => by simp [cOf]
  | n + 1, hn => by
    have ih := cOf_le l h n (by omega)
    have hz := (stpE_zero (h.err n (by omega))).2.1
    rw [take_snoc l n (by omega), cOf_snoc]
    unfold cntK
    split
    · rename_i hk
      have : cOf (l.take n) ≠ 64 := fun e => hz ⟨hk, e⟩
      omega
    · exact ih
end Go.Proofs.Ytbjeeefkbmdmfaa
