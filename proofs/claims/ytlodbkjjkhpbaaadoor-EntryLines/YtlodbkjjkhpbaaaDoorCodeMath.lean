/- Instructions, and how they are gone through. No walk. -/
import Derived.Test.YtlodbkjjkhpbaaaDoorBase
namespace Go.Proofs.YtlodbkjjkhpbaaaDoor
open Go.RowKit
set_option linter.unusedVariables false

/-- an instruction -/
structure Ic where
  o : Int
  n : Int
def ic0 : Ic := ⟨0, 0⟩
/-- there is such an instruction -/
def isO (o : Int) : Bool := decide (0 ≤ o) && decide (o ≤ 19)
/-- takes off, puts on, what N may be (0 nothing, 1 any, 2 a cell, 3 a place), how it goes on (0 behind, 1 at N, 2 both, 3 not) -/
def tkO (o : Int) : Int := ([0, 1, 1, 2, 0, 1, 0, 0, 2, 2, 2, 2, 2, 2, 2, 1, 0, 1, 1, 0] : List Int).getD o.toNat 0
def ptO (o : Int) : Int := ([1, 0, 2, 2, 1, 0, 1, 1, 1, 1, 1, 1, 1, 1, 1, 1, 0, 0, 0, 0] : List Int).getD o.toNat 0
def nkO (o : Int) : Int := ([1, 0, 0, 0, 2, 2, 0, 0, 0, 0, 0, 0, 0, 0, 0, 0, 3, 3, 0, 0] : List Int).getD o.toNat 0
def thO (o : Int) : Int := ([0, 0, 0, 0, 0, 0, 0, 0, 0, 0, 0, 0, 0, 0, 0, 0, 1, 2, 3, 3] : List Int).getD o.toNat 0
def tkA (o : Int) : Int := if isO o = true then tkO o else -1
def ptA (o : Int) : Int := if isO o = true then ptO o else -1
set_option maxRecDepth 100000 in
theorem isO_iff (o : Int) : isO o = true ↔ 0 ≤ o ∧ o ≤ 19 := by unfold isO; simp
set_option maxRecDepth 100000 in
/-- each instruction, one by one -/
theorem op_cases {o : Int} (h : isO o = true) : o = 0 ∨ o = 1 ∨ o = 2 ∨ o = 3 ∨ o = 4 ∨ o = 5 ∨ o = 6 ∨ o = 7 ∨ o = 8 ∨ o = 9 ∨ o = 10 ∨ o = 11 ∨ o = 12 ∨ o = 13 ∨ o = 14 ∨ o = 15 ∨ o = 16 ∨ o = 17 ∨ o = 18 ∨ o = 19 := by
  have := (isO_iff o).1 h; omega
set_option maxRecDepth 100000 in
theorem tbl_bd {o : Int} (h : isO o = true) : 0 ≤ tkO o ∧ tkO o ≤ 2 ∧ 0 ≤ ptO o ∧ ptO o ≤ 2 ∧ 0 ≤ nkO o ∧ nkO o ≤ 3 ∧ 0 ≤ thO o ∧ thO o ≤ 3 := by
  rcases op_cases h with h | h | h | h | h | h | h | h | h | h | h | h | h | h | h | h | h | h | h | h <;> subst h <;> decide
/-- N may be what it is -/
def numB (x : Ic) (m : Nat) : Bool := if nkO x.o = 1 then true else if nkO x.o = 2 then decide (0 ≤ x.n) && decide (x.n ≤ 3) else if nkO x.o = 3 then decide (0 ≤ x.n) && decide (x.n < (m : Int)) else decide (x.n = 0)
def canI (m : Nat) (x : Ic) : Bool := isO x.o && numB x m
set_option maxRecDepth 100000 in
theorem canI_place {m : Nat} {x : Ic} (h : canI m x = true) (hk : nkO x.o = 3) : 0 ≤ x.n ∧ x.n < (m : Int) := by
  unfold canI numB at h
  rw [hk] at h
  simp at h
  exact h.2
set_option maxRecDepth 100000 in
theorem canI_is {m : Nat} {x : Ic} (h : canI m x = true) : isO x.o = true := by
  unfold canI at h; simp at h; exact h.1
set_option maxRecDepth 100000 in
theorem th_place {o : Int} (h : isO o = true) : (thO o = 1 ∨ thO o = 2) ↔ nkO o = 3 := by
  rcases op_cases h with h | h | h | h | h | h | h | h | h | h | h | h | h | h | h | h | h | h | h | h <;> subst h <;> decide
/-- the first place at which Op is none or N can't be, from a place on -/
def badF (m : Nat) : Nat → List Ic → Option Nat
  | _, [] => none
  | i, x :: t => if canI m x = false then some i else badF m (i + 1) t
def badI (l : List Ic) : Option Nat := badF l.length 0 l
set_option maxRecDepth 100000 in
theorem drop_ic (l : List Ic) (i : Nat) (h : i < l.length) : l.drop i = l.getD i ic0 :: l.drop (i + 1) := by
  rw [List.drop_eq_getElem_cons h, List.getD_eq_getElem?_getD, List.getElem?_eq_getElem h]; rfl
def badR (l : List Ic) (i : Nat) : Option Nat := badF l.length i (l.drop i)
set_option maxRecDepth 100000 in
theorem badR_zero (l : List Ic) : badR l 0 = badI l := rfl
set_option maxRecDepth 100000 in
theorem badR_end (l : List Ic) (i : Nat) (h : l.length ≤ i) : badR l i = none := by unfold badR; rw [List.drop_of_length_le h]; rfl
set_option maxRecDepth 100000 in
theorem badR_bad (l : List Ic) (i : Nat) (h : i < l.length) (hc : canI l.length (l.getD i ic0) = false) : badR l i = some i := by
  unfold badR; rw [drop_ic l i h]; show (if _ then _ else _) = _; rw [if_pos hc]
set_option maxRecDepth 100000 in
theorem badR_next (l : List Ic) (i : Nat) (h : i < l.length) (hc : canI l.length (l.getD i ic0) = true) : badR l i = badR l (i + 1) := by
  unfold badR; rw [drop_ic l i h]; show (if _ then _ else _) = _; rw [if_neg (by rw [hc]; decide)]
set_option maxRecDepth 100000 in
theorem badF_none {m : Nat} : ∀ (l : List Ic) (i : Nat), badF m i l = none → ∀ x ∈ l, canI m x = true
  | [], _, _, x, hx => by cases hx
  | y :: t, i, h, x, hx => by
    unfold badF at h
    by_cases hc : canI m y = false
    · rw [if_pos hc] at h; cases h
    · rw [if_neg hc] at h
      rcases List.mem_cons.1 hx with e | hx
      · rw [e]; cases hv : canI m y with
        | true => rfl
        | false => exact absurd hv hc
      · exact badF_none t (i + 1) h x hx
set_option maxRecDepth 100000 in
theorem badF_of {m : Nat} : ∀ (l : List Ic) (i : Nat), (∀ x ∈ l, canI m x = true) → badF m i l = none
  | [], _, _ => rfl
  | y :: t, i, h => by
    unfold badF
    rw [if_neg (by rw [h y (by simp)]; decide)]
    exact badF_of t (i + 1) (fun x hx => h x (by simp [hx]))
/-- a place gets a depth: the depths, the error -/
def lead (D : List Int) (t : Nat) (d : Int) : List Int × Int := if D.length ≤ t then (D, 6) else if D.getD t (-1) = -1 then (D.set t d, 0) else if D.getD t (-1) ≠ d then (D, 16) else (D, 0)
/-- one place is gone through -/
def goS (x : Ic) (D : List Int) (at' : Nat) : List Int × Int :=
  if D.getD at' (-1) < tkO x.o then (D, 3) else
  if 8 < D.getD at' (-1) - tkO x.o + ptO x.o then (D, 11) else
  if thO x.o = 0 then lead D (at' + 1) (D.getD at' (-1) - tkO x.o + ptO x.o) else
  if thO x.o = 1 then lead D x.n.toNat (D.getD at' (-1) - tkO x.o + ptO x.o) else
  if thO x.o = 2 then
    (if (lead D (at' + 1) (D.getD at' (-1) - tkO x.o + ptO x.o)).2 ≠ 0 then lead D (at' + 1) (D.getD at' (-1) - tkO x.o + ptO x.o)
     else lead (lead D (at' + 1) (D.getD at' (-1) - tkO x.o + ptO x.o)).1 x.n.toNat (D.getD at' (-1) - tkO x.o + ptO x.o))
  else (D, 0)
/-- the least place that has a depth and was not gone through, from a place on -/
def nxtF : Nat → List Int → List Bool → Option Nat
  | i, d :: D, g :: G => if g = false ∧ d ≠ -1 then some i else nxtF (i + 1) D G
  | _, _, _ => none
def nxt (D : List Int) (G : List Bool) : Option Nat := nxtF 0 D G
/-- how many were not gone through -/
def unG : List Bool → Nat
  | [] => 0
  | g :: G => (if g = false then 1 else 0) + unG G
/-- again and again: the depths, the place, the error -/
def thrF (l : List Ic) : Nat → List Int → List Bool → List Int × Nat × Int
  | 0, _, _ => ([], 0, 0)
  | f + 1, D, G => match nxt D G with
    | none => (D, 0, 0)
    | some p => if (goS (l.getD p ic0) D p).2 ≠ 0 then ([], p, (goS (l.getD p ic0) D p).2) else thrF l f (goS (l.getD p ic0) D p).1 (G.set p true)
set_option maxRecDepth 100000 in
theorem nxtF_some : ∀ (D : List Int) (G : List Bool) (i p : Nat), nxtF i D G = some p → i ≤ p ∧ p - i < D.length ∧ p - i < G.length ∧ G.getD (p - i) true = false ∧ D.getD (p - i) (-1) ≠ -1
  | [], _, _, _, h => by unfold nxtF at h; cases h
  | _ :: _, [], _, _, h => by unfold nxtF at h; cases h
  | d :: D, g :: G, i, p, h => by
    unfold nxtF at h
    by_cases hc : g = false ∧ d ≠ -1
    · rw [if_pos hc] at h
      cases h
      rw [Nat.sub_self]
      exact ⟨Nat.le_refl _, by simp, by simp, hc.1, hc.2⟩
    · rw [if_neg hc] at h
      obtain ⟨h1, h2, h3, h4, h5⟩ := nxtF_some D G (i + 1) p h
      have e : p - i = p - (i + 1) + 1 := by omega
      rw [e]
      exact ⟨by omega, by simpa using h2, by simpa using h3, h4, h5⟩
set_option maxRecDepth 100000 in
theorem nxt_some {D : List Int} {G : List Bool} {p : Nat} (h : nxt D G = some p) : p < D.length ∧ p < G.length ∧ G.getD p true = false ∧ D.getD p (-1) ≠ -1 := by
  have := nxtF_some D G 0 p h
  simpa using this
set_option maxRecDepth 100000 in
theorem nxtF_none : ∀ (D : List Int) (G : List Bool) (i : Nat), nxtF i D G = none → D.length = G.length → ∀ q, q < D.length → G.getD q true = false → D.getD q (-1) = -1
  | [], _, _, _, _, q, hq, _ => absurd hq (Nat.not_lt_zero q)
  | _ :: _, [], _, _, hl, _, _, _ => by simp at hl
  | d :: D, g :: G, i, h, hl, q, hq, hg => by
    unfold nxtF at h
    by_cases hc : g = false ∧ d ≠ -1
    · rw [if_pos hc] at h; cases h
    · rw [if_neg hc] at h
      match q with
      | 0 => exact Classical.byContradiction fun hd => hc ⟨hg, hd⟩
      | q + 1 => exact nxtF_none D G (i + 1) h (by simpa using hl) q (by simpa using hq) hg
set_option maxRecDepth 100000 in
theorem nxt_none {D : List Int} {G : List Bool} (h : nxt D G = none) (hl : D.length = G.length) : ∀ q, q < D.length → G.getD q true = false → D.getD q (-1) = -1 := nxtF_none D G 0 h hl
set_option maxRecDepth 100000 in
theorem unG_set : ∀ (G : List Bool) (p : Nat), p < G.length → G.getD p true = false → unG (G.set p true) + 1 = unG G
  | [], p, h, _ => absurd h (Nat.not_lt_zero p)
  | g :: G, 0, _, hg => by
    have hg' : g = false := hg
    subst hg'
    show (if true = false then 1 else 0) + unG G + 1 = (if false = false then 1 else 0) + unG G
    simp; omega
  | g :: G, p + 1, h, hg => by
    have ih := unG_set G p (by simpa using h) hg
    show (if g = false then 1 else 0) + unG (G.set p true) + 1 = (if g = false then 1 else 0) + unG G
    omega
set_option maxRecDepth 100000 in
theorem thrF_more (l : List Ic) : ∀ (f : Nat) (D : List Int) (G : List Bool), unG G < f → thrF l f D G = thrF l (f + 1) D G
  | 0, _, _, h => absurd h (Nat.not_lt_zero _)
  | f + 1, D, G, h => by
    show (match nxt D G with | none => _ | some p => _) = (match nxt D G with | none => _ | some p => _)
    cases hn : nxt D G with
    | none => rfl
    | some p =>
      obtain ⟨_, h2, h3, _⟩ := nxt_some hn
      have hu := unG_set G p h2 h3
      simp only
      split
      · rfl
      · exact thrF_more l f _ _ (by omega)
set_option maxRecDepth 100000 in
theorem thrF_big (l : List Ic) (f g : Nat) (D : List Int) (G : List Bool) (h : unG G < f) (hg : f ≤ g) : thrF l f D G = thrF l g D G := by
  induction g with
  | zero => omega
  | succ g ih =>
    by_cases e : f = g + 1
    · rw [e]
    · rw [ih (by omega)]; exact thrF_more l g D G (by omega)
/-- all that is still to be gone through -/
def thrR (l : List Ic) (D : List Int) (G : List Bool) : List Int × Nat × Int := thrF l (unG G + 1) D G
set_option maxRecDepth 100000 in
theorem thrR_none {l : List Ic} {D : List Int} {G : List Bool} (h : nxt D G = none) : thrR l D G = (D, 0, 0) := by
  unfold thrR thrF; rw [h]
set_option maxRecDepth 100000 in
theorem thrR_bad {l : List Ic} {D : List Int} {G : List Bool} {p : Nat} (h : nxt D G = some p) (he : (goS (l.getD p ic0) D p).2 ≠ 0) : thrR l D G = ([], p, (goS (l.getD p ic0) D p).2) := by
  unfold thrR thrF; rw [h]; simp only; rw [if_pos he]
set_option maxRecDepth 100000 in
theorem thrR_next {l : List Ic} {D : List Int} {G : List Bool} {p : Nat} (h : nxt D G = some p) (he : (goS (l.getD p ic0) D p).2 = 0) : thrR l D G = thrR l (goS (l.getD p ic0) D p).1 (G.set p true) := by
  have h1 := nxt_some h
  have hu := unG_set G p h1.2.1 h1.2.2.1
  conv => lhs; unfold thrR thrF
  rw [h]; simp only
  rw [if_neg (fun k => k he)]
  unfold thrR
  rw [← hu]
/-- at first: place 0 has the depth 0 -/
def D0 (n : Nat) : List Int := (List.replicate n (-1)).set 0 0
def G0 (n : Nat) : List Bool := List.replicate n false
/-- code: the depths, the place, the error -/
def thr (l : List Ic) : List Int × Nat × Int :=
  if l.length < 1 ∨ 200 < l.length then ([], 0, 5) else
  match badI l with
  | some i => ([], i, 15)
  | none => thrR l (D0 l.length) (G0 l.length)
set_option maxRecDepth 100000 in
theorem thr_big {l : List Ic} (h : l.length < 1 ∨ 200 < l.length) : thr l = ([], 0, 5) := by unfold thr; rw [if_pos h]
set_option maxRecDepth 100000 in
theorem thr_code {l : List Ic} (h : ¬ (l.length < 1 ∨ 200 < l.length)) {i : Nat} (hb : badI l = some i) : thr l = ([], i, 15) := by unfold thr; rw [if_neg h, hb]
set_option maxRecDepth 100000 in
theorem thr_go {l : List Ic} (h : ¬ (l.length < 1 ∨ 200 < l.length)) (hb : badI l = none) : thr l = thrR l (D0 l.length) (G0 l.length) := by unfold thr; rw [if_neg h, hb]
end Go.Proofs.YtlodbkjjkhpbaaaDoor
