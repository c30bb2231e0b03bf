/- What is asked of a tenant. No walk. Two new variables. No walk. A new variable of whatever type: so many cells. A short number's bytes. No walk. Numbers folded and unfolded. No walk. Events, histories, operations. No walk. A history's text, written and read. No walk. -/
import Derived.Test.YtpfijaojgeceeaaGreatDoorBase
import Derived.Test.YtpfijaojgeceeaaGreatDoorVarMath
namespace Go.Proofs.YtpfijaojgeceeaaGreatDoor
open Go.RowKit
set_option linter.unusedVariables false

/-- what is asked -/
structure As where
  k : Int
  nm : ByteArray
  sp : ByteArray
  b : List Int
  A : Int
  B : Int
def as0 : As := ⟨0, ⟨#[]⟩, ⟨#[]⟩, [], 0, 0⟩
end Go.Proofs.YtpfijaojgeceeaaGreatDoor
namespace Go.Proofs.YtpfijaojgeceeaaGreatDoor
open Go.RowKit
set_option linter.unusedVariables false

set_option maxRecDepth 100000 in
theorem two_new18 (w : World) (A B : Obj) : ((w.alloc A).alloc B).heap[w.heap.size]? = some A ∧ ((w.alloc A).alloc B).heap[w.heap.size + 1]? = some B ∧ Below w.heap.size w ((w.alloc A).alloc B) := by
  have hb1 : Below w.heap.size w (w.alloc A) := (Below.refl _ _).alloc (Nat.le_refl _) _
  have hs : (w.alloc A).heap.size = w.heap.size + 1 := by simp
  have hb2 : Below (w.alloc A).heap.size (w.alloc A) ((w.alloc A).alloc B) := (Below.refl _ _).alloc (Nat.le_refl _) _
  have h2 := heap_alloc_new (w.alloc A) B
  rw [hs] at h2
  exact ⟨(hb2.block _ (by rw [hs]; omega)).trans (heap_alloc_new w A), h2, bstep hb1 hb2⟩
end Go.Proofs.YtpfijaojgeceeaaGreatDoor
namespace Go.Proofs.YtpfijaojgeceeaaGreatDoor
open Go.RowKit
set_option linter.unusedVariables false

set_option maxRecDepth 100000 in
theorem wp_alloc_of {o : Oper} {a : Act} {w : World} {K : Act → World → Prop} {Q : Exit → Act → World → Prop} (T : TypeId) (sz : Nat) (ho : o.op = .alloc T) (hz : (Tryz.prog.info? T).map (fun i => i.zero.map (·.cells.size)) = some (some sz))
    (h : ∀ cs : Array Value, cs.size = sz → K (a.put o.dst (.pointer (some ⟨w.heap.size, 0, none⟩))) (w.alloc (.cells cs T))) : o.wp Tryz.prog a w K Q := by
  obtain ⟨it, hit, hz0⟩ := Option.map_eq_some_iff.1 hz
  obtain ⟨z, hzz, hzs⟩ := Option.map_eq_some_iff.1 hz0
  unfold Oper.wp execOp
  simp [ho, Instr.alloc, zeroValue, typeInfo, hit, hzz, newVar, newRow, go_sem]
  exact h _ hzs
set_option maxRecDepth 100000 in
theorem wpList_alloc_of {ops : Array Oper} {rest : List Oper} {o : Oper} {a : Act} {w : World} {Q : Exit → Act → World → Prop} (hgd : o.guard = none) (T : TypeId) (sz : Nat) (ho : o.op = .alloc T) (hz : (Tryz.prog.info? T).map (fun i => i.zero.map (·.cells.size)) = some (some sz))
    (h : ∀ cs : Array Value, cs.size = sz → wpList Tryz.prog ops Q rest (a.put o.dst (.pointer (some ⟨w.heap.size, 0, none⟩))) (w.alloc (.cells cs T))) : wpList Tryz.prog ops Q (o :: rest) a w :=
  wpList_plain hgd fun _ hK => wp_alloc_of T sz ho hz (fun cs hs => hK _ _ (h cs hs))
end Go.Proofs.YtpfijaojgeceeaaGreatDoor
namespace Go.Proofs.YtpfijaojgeceeaaGreatDoor
open Go.RowKit
set_option linter.unusedVariables false

def varL (x : Int) : List Int := varF 9 x
set_option maxRecDepth 100000 in
theorem varL_byt (x : Int) (h0 : 0 ≤ x) (h1 : x ≤ 18446744073709551615) : Byt (varL x) :=
  varF_byt 9 x h0 (by rw [show (128 : Int) ^ (9 + 1) = 1180591620717411303424 from rfl]; omega)
set_option maxRecDepth 100000 in
theorem varL_length (x : Int) : 1 ≤ (varL x).length ∧ (varL x).length ≤ 10 := varF_length 9 x
end Go.Proofs.YtpfijaojgeceeaaGreatDoor
namespace Go.Proofs.YtpfijaojgeceeaaGreatDoor
open Go.RowKit
set_option linter.unusedVariables false

def zigV (x : Int) : Int := if 0 ≤ x then 2 * x else -2 * x - 1
def zagV (u : Int) : Int := if u % 2 = 0 then u / 2 else - (u / 2) - 1

set_option maxRecDepth 100000 in
theorem zig_bd (x : Int) (h1 : -9223372036854775808 ≤ x) (h2 : x ≤ 9223372036854775807) : 0 ≤ zigV x ∧ zigV x ≤ 18446744073709551615 := by
  unfold zigV; split <;> omega
set_option maxRecDepth 100000 in
theorem zag_bd (u : Int) (h1 : 0 ≤ u) (h2 : u ≤ 18446744073709551615) : -9223372036854775808 ≤ zagV u ∧ zagV u ≤ 9223372036854775807 := by
  unfold zagV; split <;> omega
set_option maxRecDepth 100000 in
theorem zag_zig (x : Int) : zagV (zigV x) = x := by
  unfold zigV zagV; split <;> split <;> omega
set_option maxRecDepth 100000 in
theorem zig_zag (u : Int) (h : 0 ≤ u) : zigV (zagV u) = u := by
  unfold zigV zagV; split <;> split <;> omega
end Go.Proofs.YtpfijaojgeceeaaGreatDoor
namespace Go.Proofs.YtpfijaojgeceeaaGreatDoor
open Go.RowKit
set_option linter.unusedVariables false

/-- an event: its client, whether it is a call, which operation, with what -/
structure Ev where
  c : Int
  k : Bool
  o : Int
  v : Int
def ev0 : Ev := ⟨0, false, 0, 0⟩
/-- an event can be -/
def canE (x : Ev) : Bool := decide (0 ≤ x.c) && decide (x.c ≤ 15) && (if x.k = true then decide (0 ≤ x.o) && decide (x.o ≤ 15) else decide (x.o = 0))
/-- why an event is none: W says who waits, n how many calls stand ahead -/
def stpE (W : Int → Bool) (n : Nat) (x : Ev) : Int := if canE x = false then 2 else if x.k = true ∧ n = 64 then 5 else if x.k = W x.c then 20 else 0
def updW (W : Int → Bool) (x : Ev) : Int → Bool := fun c => if c = x.c then x.k else W c
def cntK (n : Nat) (x : Ev) : Nat := if x.k = true then n + 1 else n
/-- where and why events are no history -/
def chkF : (Int → Bool) → Nat → Nat → List Ev → Nat × Int
  | _, _, _, [] => (0, 0)
  | W, n, i, x :: t => if stpE W n x ≠ 0 then (i, stpE W n x) else chkF (updW W x) (cntK n x) (i + 1) t
def nobW : Int → Bool := fun _ => false
def chk (l : List Ev) : Nat × Int := chkF nobW 0 0 l
/-- who waits behind events; how many calls there are -/
def wOf (l : List Ev) : Int → Bool := l.foldl updW nobW
def cOf (l : List Ev) : Nat := l.foldl cntK 0
set_option maxRecDepth 100000 in
theorem wOf_snoc (l : List Ev) (x : Ev) : wOf (l ++ [x]) = updW (wOf l) x := by unfold wOf; rw [List.foldl_append]; rfl
set_option maxRecDepth 100000 in
theorem cOf_snoc (l : List Ev) (x : Ev) : cOf (l ++ [x]) = cntK (cOf l) x := by unfold cOf; rw [List.foldl_append]; rfl
set_option maxRecDepth 100000 in
theorem take_snoc (l : List Ev) (i : Nat) (h : i < l.length) : l.take (i + 1) = l.take i ++ [l.getD i ev0] := by
  rw [List.take_add_one, List.getD_eq_getElem?_getD, List.getElem?_eq_getElem h]; rfl
set_option maxRecDepth 100000 in
theorem drop_cons (l : List Ev) (i : Nat) (h : i < l.length) : l.drop i = l.getD i ev0 :: l.drop (i + 1) := by
  rw [List.drop_eq_getElem_cons h, List.getD_eq_getElem?_getD, List.getElem?_eq_getElem h]; rfl
/-- what is still to be looked at -/
def chkR (l : List Ev) (i : Nat) : Nat × Int := chkF (wOf (l.take i)) (cOf (l.take i)) i (l.drop i)
set_option maxRecDepth 100000 in
theorem chkR_zero (l : List Ev) : chkR l 0 = chk l := rfl
set_option maxRecDepth 100000 in
theorem chkR_end (l : List Ev) (i : Nat) (h : l.length ≤ i) : chkR l i = (0, 0) := by unfold chkR; rw [List.drop_of_length_le h]; rfl
/-- why the event at a place is none -/
def errE (l : List Ev) (i : Nat) : Int := stpE (wOf (l.take i)) (cOf (l.take i)) (l.getD i ev0)
set_option maxRecDepth 100000 in
theorem chkR_bad (l : List Ev) (i : Nat) (h : i < l.length) (he : errE l i ≠ 0) : chkR l i = (i, errE l i) := by
  unfold chkR
  rw [drop_cons l i h]
  show (if stpE _ _ _ ≠ 0 then _ else _) = _
  unfold errE at he ⊢
  rw [if_pos he]
set_option maxRecDepth 100000 in
theorem chkR_next (l : List Ev) (i : Nat) (h : i < l.length) (he : errE l i = 0) : chkR l i = chkR l (i + 1) := by
  unfold chkR
  rw [drop_cons l i h]
  show (if stpE _ _ _ ≠ 0 then _ else _) = _
  rw [if_neg (fun h => h he), take_snoc l i h, wOf_snoc, cOf_snoc]
set_option maxRecDepth 100000 in
theorem stpE_can {W : Int → Bool} {n : Nat} {x : Ev} (h : canE x = false) : stpE W n x = 2 := by unfold stpE; rw [if_pos h]
set_option maxRecDepth 100000 in
theorem stpE_big {W : Int → Bool} {n : Nat} {x : Ev} (h : canE x = true) (hk : x.k = true) (hn : n = 64) : stpE W n x = 5 := by unfold stpE; rw [if_neg (by rw [h]; decide), if_pos ⟨hk, hn⟩]
set_option maxRecDepth 100000 in
theorem stpE_state {W : Int → Bool} {n : Nat} {x : Ev} (h : canE x = true) (hb : ¬ (x.k = true ∧ n = 64)) (hw : x.k = W x.c) : stpE W n x = 20 := by unfold stpE; rw [if_neg (by rw [h]; decide), if_neg hb, if_pos hw]
set_option maxRecDepth 100000 in
theorem stpE_ok {W : Int → Bool} {n : Nat} {x : Ev} (h : canE x = true) (hb : ¬ (x.k = true ∧ n = 64)) (hw : x.k ≠ W x.c) : stpE W n x = 0 := by unfold stpE; rw [if_neg (by rw [h]; decide), if_neg hb, if_neg hw]
set_option maxRecDepth 100000 in
theorem stpE_zero {W : Int → Bool} {n : Nat} {x : Ev} (h : stpE W n x = 0) : canE x = true ∧ ¬ (x.k = true ∧ n = 64) ∧ x.k ≠ W x.c := by
  unfold stpE at h
  cases hc : canE x with
  | false => rw [hc, if_pos rfl] at h; cases h
  | true =>
    rw [hc, if_neg (by decide)] at h
    split at h
    · cases h
    · rename_i hb
      split at h
      · cases h
      · rename_i hw; exact ⟨rfl, hb, hw⟩
set_option maxRecDepth 100000 in
theorem stpE_cases (W : Int → Bool) (n : Nat) (x : Ev) : stpE W n x = 0 ∨ stpE W n x = 2 ∨ stpE W n x = 5 ∨ stpE W n x = 20 := by
  unfold stpE; split
  · exact .inr (.inl rfl)
  · split
    · exact .inr (.inr (.inl rfl))
    · split
      · exact .inr (.inr (.inr rfl))
      · exact .inl rfl
set_option maxRecDepth 100000 in
theorem canE_iff (x : Ev) : canE x = true ↔ (0 ≤ x.c ∧ x.c ≤ 15) ∧ (if x.k = true then 0 ≤ x.o ∧ x.o ≤ 15 else x.o = 0) := by
  unfold canE
  cases x.k <;> simp
/-- a history -/
def His (l : List Ev) : Prop := (chk l).2 = 0
set_option maxRecDepth 100000 in
/-- all that it is to be a history, up to a place -/
theorem chkF_zero : ∀ (l : List Ev) (W : Int → Bool) (n i : Nat), (chkF W n i l).2 = 0 → ∀ j, j < l.length → stpE ((l.take j).foldl updW W) ((l.take j).foldl cntK n) (l.getD j ev0) = 0
  | [], _, _, _, _, j, hj => absurd hj (Nat.not_lt_zero j)
  | x :: t, W, n, i, h, j, hj => by
    unfold chkF at h
    by_cases he : stpE W n x ≠ 0
    · rw [if_pos he] at h; exact absurd h he
    · rw [if_neg he] at h
      match j with
      | 0 => exact Classical.byContradiction he
      | j + 1 => exact chkF_zero t (updW W x) (cntK n x) (i + 1) h j (by simpa using hj)
set_option maxRecDepth 100000 in
theorem chkF_of : ∀ (l : List Ev) (W : Int → Bool) (n i : Nat), (∀ j, j < l.length → stpE ((l.take j).foldl updW W) ((l.take j).foldl cntK n) (l.getD j ev0) = 0) → chkF W n i l = (0, 0)
  | [], _, _, _, _ => rfl
  | x :: t, W, n, i, h => by
    unfold chkF
    have h0 : stpE W n x = 0 := h 0 (by simp)
    rw [if_neg (fun k => k h0)]
    exact chkF_of t (updW W x) (cntK n x) (i + 1) (fun j hj => h (j + 1) (by simpa using hj))
set_option maxRecDepth 100000 in
theorem His.err {l : List Ev} (h : His l) (j : Nat) (hj : j < l.length) : errE l j = 0 := chkF_zero l nobW 0 0 h j hj
set_option maxRecDepth 100000 in
theorem his_of {l : List Ev} (h : ∀ j, j < l.length → errE l j = 0) : chk l = (0, 0) := chkF_of l nobW 0 0 h
set_option maxRecDepth 100000 in
theorem His.chk {l : List Ev} (h : His l) : chk l = (0, 0) := his_of h.err
set_option maxRecDepth 100000 in
theorem take_take_le (l : List Ev) {j n : Nat} (h : j ≤ n) : (l.take n).take j = l.take j := by rw [List.take_take, Nat.min_eq_left h]
set_option maxRecDepth 100000 in
theorem errE_take {l : List Ev} {j n : Nat} (hj : j < n) : errE (l.take n) j = errE l j := by
  unfold errE
  rw [take_take_le l (Nat.le_of_lt hj)]
  congr 1
  rw [List.getD_eq_getElem?_getD, List.getD_eq_getElem?_getD, List.getElem?_take, if_pos hj]
set_option maxRecDepth 100000 in
theorem His.take {l : List Ev} (h : His l) (n : Nat) : His (l.take n) := by
  have := his_of (l := l.take n) fun j hj => by
    rw [List.length_take] at hj
    rw [errE_take (by omega)]
    exact h.err j (by omega)
  unfold His; rw [this]
set_option maxRecDepth 100000 in
/-- the place of the first bad event -/
theorem chkF_place : ∀ (l : List Ev) (W : Int → Bool) (n i : Nat), (chkF W n i l).2 ≠ 0 → ∃ j, j < l.length ∧ (chkF W n i l) = (i + j, stpE ((l.take j).foldl updW W) ((l.take j).foldl cntK n) (l.getD j ev0)) ∧ ∀ m, m < j → stpE ((l.take m).foldl updW W) ((l.take m).foldl cntK n) (l.getD m ev0) = 0
  | [], _, _, _, h => absurd rfl h
  | x :: t, W, n, i, h => by
    unfold chkF at h ⊢
    by_cases he : stpE W n x ≠ 0
    · rw [if_pos he] at h ⊢
      exact ⟨0, by simp, by simp, fun m hm => absurd hm (Nat.not_lt_zero m)⟩
    · rw [if_neg he] at h ⊢
      obtain ⟨j, hj, e, hm⟩ := chkF_place t (updW W x) (cntK n x) (i + 1) h
      refine ⟨j + 1, by simpa using hj, ?_, fun m hmj => ?_⟩
      · rw [e]; congr 1; omega
      · match m with
        | 0 => exact Classical.byContradiction he
        | m + 1 => exact hm m (by omega)
set_option maxRecDepth 100000 in
theorem chk_place {l : List Ev} (h : (chk l).2 ≠ 0) : (chk l).1 < l.length ∧ errE l (chk l).1 = (chk l).2 ∧ ∀ m, m < (chk l).1 → errE l m = 0 := by
  obtain ⟨j, hj, e, hm⟩ := chkF_place l nobW 0 0 h
  have e1 : (chk l).1 = j := by show (chkF nobW 0 0 l).1 = j; rw [e]; simp
  have e2 : (chk l).2 = errE l j := by show (chkF nobW 0 0 l).2 = _; rw [e]; rfl
  rw [e1, e2]
  exact ⟨hj, rfl, hm⟩
set_option maxRecDepth 100000 in
/-- whether a beginning is a history: just if the first bad event stands behind it -/
theorem chk_begin {l : List Ev} (h : (chk l).2 ≠ 0) (n : Nat) (hn : n ≤ l.length) : (chk l).1 < n ↔ (chk (l.take n)).2 ≠ 0 := by
  obtain ⟨h1, h2, h3⟩ := chk_place h
  constructor
  · intro hlt hz
    have := His.err (l := l.take n) hz (chk l).1 (by rw [List.length_take]; omega)
    rw [errE_take hlt, h2] at this
    exact h this
  · intro hz
    refine Classical.byContradiction fun hge => hz ?_
    have := his_of (l := l.take n) fun j hj => by
      rw [List.length_take] at hj
      rw [errE_take (by omega)]
      exact h3 j (by omega)
    rw [this]
set_option maxRecDepth 100000 in
/-- no client's number but 0 to 15 waits -/
theorem wOf_in {l : List Ev} (h : His l) : ∀ n, n ≤ l.length → ∀ c, wOf (l.take n) c = true → 0 ≤ c ∧ c ≤ 15
  | 0, _, c, hc => by rw [List.take_zero] at hc; cases hc
  | n + 1, hn, c, hc => by
    rw [take_snoc l n (by omega), wOf_snoc] at hc
    unfold updW at hc
    have hz := stpE_zero (h.err n (by omega))
    by_cases e : c = (l.getD n ev0).c
    · rw [e]; exact ((canE_iff _).1 hz.1).1
    · rw [if_neg e] at hc
      exact wOf_in h n (by omega) c hc
end Go.Proofs.YtpfijaojgeceeaaGreatDoor
namespace Go.Proofs.YtpfijaojgeceeaaGreatDoor
open Go.RowKit
set_option linter.unusedVariables false

/-- an event's client and kind in one byte -/
def hdE (x : Ev) : Int := 2 * x.c + (if x.k = true then 1 else 0)
/-- an event's bytes -/
def evL (x : Ev) : List Int := hdE x :: ((if x.k = true then [x.o] else []) ++ varL (zigV x.v))
def evsL : List Ev → List Int
  | [] => []
  | x :: t => evL x ++ evsL t
def txtL (l : List Ev) : List Int := varL (l.length : Int) ++ evsL l
set_option maxRecDepth 100000 in
theorem evsL_append : ∀ (a b : List Ev), evsL (a ++ b) = evsL a ++ evsL b
  | [], _ => rfl
  | x :: t, b => by show evL x ++ evsL (t ++ b) = _; rw [evsL_append t b, ← List.append_assoc]; rfl
/-- a number that an int64 is -/
def V64 (v : Int) : Prop := -9223372036854775808 ≤ v ∧ v ≤ 9223372036854775807
/-- the number behind a head, and what stands behind: number, bytes, error -/
def rdV (b : List Int) : Int × Nat × Int := ((zagV (rd b 0 0).1), (rd b 0 0).2.1.toNat, (rd b 0 0).2.2)
/-- one event: the event, how many bytes, the error -/
def rdEH (b : List Int) : Ev × Nat × Int :=
  if b.length = 0 then (ev0, 0, 3) else
  if 31 < b.getD 0 0 then (ev0, 0, 4) else
  if b.getD 0 0 % 2 = 1 then
    (if b.length ≤ 1 then (ev0, 0, 3) else if 15 < b.getD 1 0 then (ev0, 0, 4) else
     if (rd (b.drop 2) 0 0).2.2 ≠ 0 then (ev0, 0, (rd (b.drop 2) 0 0).2.2) else (⟨b.getD 0 0 / 2, true, b.getD 1 0, zagV (rd (b.drop 2) 0 0).1⟩, 2 + (rd (b.drop 2) 0 0).2.1.toNat, 0))
  else if (rd (b.drop 1) 0 0).2.2 ≠ 0 then (ev0, 0, (rd (b.drop 1) 0 0).2.2) else (⟨b.getD 0 0 / 2, false, 0, zagV (rd (b.drop 1) 0 0).1⟩, 1 + (rd (b.drop 1) 0 0).2.1.toNat, 0)
/-- so many events from a place on: the events, the place behind them, the error -/
def rdF (b : List Int) : Nat → Nat → List Ev × Nat × Int
  | 0, p => ([], p, 0)
  | n + 1, p => if (rdEH (b.drop p)).2.2 ≠ 0 then ([], 0, (rdEH (b.drop p)).2.2) else
    if (rdF b n (p + (rdEH (b.drop p)).2.1)).2.2 ≠ 0 then ([], 0, (rdF b n (p + (rdEH (b.drop p)).2.1)).2.2) else
    ((rdEH (b.drop p)).1 :: (rdF b n (p + (rdEH (b.drop p)).2.1)).1, (rdF b n (p + (rdEH (b.drop p)).2.1)).2.1, 0)
/-- what bytes say: the events, the error -/
def rdH (b : List Int) : List Ev × Int :=
  if (rd b 0 0).2.2 ≠ 0 then ([], (rd b 0 0).2.2) else
  if 128 < (rd b 0 0).1 then ([], 5) else
  if (rdF b (rd b 0 0).1.toNat (rd b 0 0).2.1.toNat).2.2 ≠ 0 then ([], (rdF b (rd b 0 0).1.toNat (rd b 0 0).2.1.toNat).2.2) else
  if (rdF b (rd b 0 0).1.toNat (rd b 0 0).2.1.toNat).2.1 < b.length then ([], 6) else
  if (chk (rdF b (rd b 0 0).1.toNat (rd b 0 0).2.1.toNat).1).2 ≠ 0 then ([], (chk (rdF b (rd b 0 0).1.toNat (rd b 0 0).2.1.toNat).1).2) else
  ((rdF b (rd b 0 0).1.toNat (rd b 0 0).2.1.toNat).1, 0)
set_option maxRecDepth 100000 in
theorem rd_var (x : Int) (h0 : 0 ≤ x) (h1 : x ≤ 18446744073709551615) (t : List Int) : rd (varL x ++ t) 0 0 = (x, ((varL x).length : Int), 0) := by
  have := rd_varF 9 x 0 0 t h0 (by rw [show (128 : Int) ^ (9 + 1) = 1180591620717411303424 from rfl]; omega) (by omega) (fun h => absurd h (Nat.lt_irrefl _)) (by simpa using h1)
  unfold varL
  rw [this]
  simp
set_option maxRecDepth 100000 in
theorem rd_backH {l : List Int} {x n : Int} (hb : Byt l) (h : rd l 0 0 = (x, n, 0)) : ∃ m : Nat, 1 ≤ m ∧ m ≤ l.length ∧ n = (m : Int) ∧ 0 ≤ x ∧ varL x = l.take m := by
  obtain ⟨m, y, h1, h2, h3, h4, h5, h6, _⟩ := rd_inv l 0 0 x n hb (by omega) h
  have e : x = y := by rw [h5]; simp
  exact ⟨m, h1, h2, by rw [h3]; simp, by rw [e]; exact h4, by rw [e]; exact h6⟩
set_option maxRecDepth 100000 in
theorem hdE_bd {x : Ev} (h : canE x = true) : 0 ≤ hdE x ∧ hdE x ≤ 31 ∧ (hdE x % 2 = 1 ↔ x.k = true) ∧ hdE x / 2 = x.c := by
  have := ((canE_iff x).1 h).1
  unfold hdE
  cases x.k <;> simp <;> omega
set_option maxRecDepth 100000 in
theorem evL_byt {x : Ev} (h : canE x = true) (hv : V64 x.v) : Byt (evL x) := by
  have h1 := hdE_bd h
  have h2 := ((canE_iff x).1 h).2
  have hz := zig_bd x.v hv.1 hv.2
  refine Byt.cons ⟨h1.1, by omega⟩ (Byt.append ?_ (varL_byt _ hz.1 hz.2))
  cases hk : x.k with
  | false => exact Byt.nil
  | true =>
    rw [hk] at h2
    simp only [if_true] at h2 ⊢
    exact Byt.cons (by omega) Byt.nil
set_option maxRecDepth 100000 in
theorem evL_len (x : Ev) : 2 ≤ (evL x).length ∧ (evL x).length ≤ 12 := by
  unfold evL
  rw [List.length_cons, List.length_append]
  have := varL_length (zigV x.v)
  cases x.k <;> simp <;> omega
set_option maxRecDepth 100000 in
/-- an event is read as it was written, whatever stands behind -/
theorem rdE_evL {x : Ev} (h : canE x = true) (hv : V64 x.v) (t : List Int) : rdEH (evL x ++ t) = (x, (evL x).length, 0) := by
  have h1 := hdE_bd h
  have h2 := ((canE_iff x).1 h).2
  have hz := zig_bd x.v hv.1 hv.2
  have hr := rd_var (zigV x.v) hz.1 hz.2 t
  have hl : (evL x ++ t).length ≠ 0 := by rw [List.length_append]; have := evL_len x; omega
  have hg : (evL x ++ t).getD 0 0 = hdE x := rfl
  unfold rdEH
  rw [if_neg hl, hg, if_neg (by omega)]
  cases hk : x.k with
  | true =>
    rw [hk] at h2
    simp only [if_true] at h2
    rw [if_pos (h1.2.2.1.2 hk)]
    have e : evL x ++ t = hdE x :: x.o :: (varL (zigV x.v) ++ t) := by unfold evL; rw [hk]; simp
    have e2 : (evL x ++ t).drop 2 = varL (zigV x.v) ++ t := by rw [e]; rfl
    have e3 : (evL x ++ t).getD 1 0 = x.o := by rw [e]; rfl
    have e4 : ¬ (evL x ++ t).length ≤ 1 := by rw [List.length_append]; have := evL_len x; omega
    have e5 : (evL x).length = 2 + (varL (zigV x.v)).length := by unfold evL; rw [hk]; simp; omega
    rw [if_neg e4, e3, if_neg (by omega), e2, hr]
    simp only
    rw [if_neg (fun h => h rfl), zag_zig, h1.2.2.2, e5]
    congr 1
    · cases x; simp only at hk ⊢; rw [hk]
  | false =>
    rw [hk] at h2
    simp only [Bool.false_eq_true, if_false] at h2
    rw [if_neg (fun h => by have := h1.2.2.1.1 h; rw [hk] at this; cases this)]
    have e : evL x ++ t = hdE x :: (varL (zigV x.v) ++ t) := by unfold evL; rw [hk]; simp
    have e2 : (evL x ++ t).drop 1 = varL (zigV x.v) ++ t := by rw [e]; rfl
    have e5 : (evL x).length = 1 + (varL (zigV x.v)).length := by unfold evL; rw [hk]; simp; omega
    rw [e2, hr]
    simp only
    rw [if_neg (fun h => h rfl), zag_zig, h1.2.2.2, e5]
    congr 1
    · cases x; simp only at hk h2 ⊢; rw [hk, h2]
set_option maxRecDepth 100000 in
/-- events are read as they were written -/
theorem rdF_evs : ∀ (l : List Ev) (a t : List Int), (∀ x ∈ l, canE x = true ∧ V64 x.v) → rdF (a ++ (evsL l ++ t)) l.length a.length = (l, a.length + (evsL l).length, 0)
  | [], a, t, _ => by show ([], a.length, 0) = _; simp [evsL]
  | x :: l, a, t, h => by
    have hx := h x (by simp)
    have e1 : (a ++ (evsL (x :: l) ++ t)).drop a.length = evL x ++ (evsL l ++ t) := by rw [List.drop_left]; show (evL x ++ evsL l) ++ t = _; rw [List.append_assoc]
    have e2 : a ++ (evsL (x :: l) ++ t) = (a ++ evL x) ++ (evsL l ++ t) := by show a ++ ((evL x ++ evsL l) ++ t) = _; simp [List.append_assoc]
    have ih := rdF_evs l (a ++ evL x) t (fun y hy => h y (by simp [hy]))
    rw [← e2, List.length_append] at ih
    show rdF _ (l.length + 1) _ = _
    unfold rdF
    rw [e1, rdE_evL hx.1 hx.2]
    simp only
    rw [if_neg (fun h => h rfl), ih]
    simp only
    rw [if_neg (fun h => h rfl)]
    show (x :: l, _, _) = (x :: l, a.length + (evL x ++ evsL l).length, _)
    rw [List.length_append, Nat.add_assoc]
end Go.Proofs.YtpfijaojgeceeaaGreatDoor
