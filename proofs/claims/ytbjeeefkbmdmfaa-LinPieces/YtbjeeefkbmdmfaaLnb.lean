/- Instructions, and how they are gone through. No walk. What holds where code was gone through; code with more behind it. No walk. Code with instructions behind it to which nothing leads. No walk. One operation done by code. No walk. What follows of operations done by code. No walk. The cells that a step leaves are int64s. No walk. Whether an order of operations is one. No walk. -/
import Derived.Test.YtbjeeefkbmdmfaaBase
import Derived.Test.YtbjeeefkbmdmfaaLna
namespace Go.Proofs.Ytbjeeefkbmdmfaa
open Go.RowKit
set_option linter.unusedVariables false

/-- an instruction -/
structure Ic where
  o : Int
  n : Int
def ic0 : Ic := ⟨0, 0⟩
/-- there is such an instruction -/
def isO (o : Int) : Bool := decide (0 ≤ o) && decide (o ≤ 19)
/-- takes off, puts on, what N may be (0 nothing, 1 any, 2 a cell, 3 a place), how it goes on (0 behind, 1 at N, 2 both, 3 not) -/
def tkO (o : Int) : Int := ([0, 1, 1, 2, 0, 1, 0, 0, 2, 2, 2, 2, 2, 2, 2, 1, 0, 1, 1, 0] : List Int).getD o.toNat 0
def ptO (o : Int) : Int := ([1, 0, 2, 2, 1, 0, 1, 1, 1, 1, 1, 1, 1, 1, 1, 1, 0, 0, 0, 0] : List Int).getD o.toNat 0
def nkO (o : Int) : Int := ([1, 0, 0, 0, 2, 2, 0, 0, 0, 0, 0, 0, 0, 0, 0, 0, 3, 3, 0, 0] : List Int).getD o.toNat 0
def thO (o : Int) : Int := ([0, 0, 0, 0, 0, 0, 0, 0, 0, 0, 0, 0, 0, 0, 0, 0, 1, 2, 3, 3] : List Int).getD o.toNat 0
def tkA (o : Int) : Int := if isO o = true then tkO o else -1
def ptA (o : Int) : Int := if isO o = true then ptO o else -1
set_option maxRecDepth 100000 in
theorem isO_iff (o : Int) : isO o = true ↔ 0 ≤ o ∧ o ≤ 19 := by unfold isO; simp
set_option maxRecDepth 100000 in
/-- each instruction, one by one -/
theorem op_cases {o : Int} (h : isO o = true) : o = 0 ∨ o = 1 ∨ o = 2 ∨ o = 3 ∨ o = 4 ∨ o = 5 ∨ o = 6 ∨ o = 7 ∨ o = 8 ∨ o = 9 ∨ o = 10 ∨ o = 11 ∨ o = 12 ∨ o = 13 ∨ o = 14 ∨ o = 15 ∨ o = 16 ∨ o = 17 ∨ o = 18 ∨ o = 19 := by
  have := (isO_iff o).1 h; omega
set_option maxRecDepth 100000 in
theorem tbl_bd {o : Int} (h : isO o = true) : 0 ≤ tkO o ∧ tkO o ≤ 2 ∧ 0 ≤ ptO o ∧ ptO o ≤ 2 ∧ 0 ≤ nkO o ∧ nkO o ≤ 3 ∧ 0 ≤ thO o ∧ thO o ≤ 3 := by
  rcases op_cases h with h | h | h | h | h | h | h | h | h | h | h | h | h | h | h | h | h | h | h | h <;> subst h <;> decide
/-- N may be what it is -/
def numB (x : Ic) (m : Nat) : Bool := if nkO x.o = 1 then true else if nkO x.o = 2 then decide (0 ≤ x.n) && decide (x.n ≤ 3) else if nkO x.o = 3 then decide (0 ≤ x.n) && decide (x.n < (m : Int)) else decide (x.n = 0)
def canI (m : Nat) (x : Ic) : Bool := isO x.o && numB x m
set_option maxRecDepth 100000 in
theorem canI_place {m : Nat} {x : Ic} (h : canI m x = true) (hk : nkO x.o = 3) : 0 ≤ x.n ∧ x.n < (m : Int) := by
  unfold canI numB at h
  rw [hk] at h
  simp at h
  exact h.2
set_option maxRecDepth 100000 in
theorem canI_is {m : Nat} {x : Ic} (h : canI m x = true) : isO x.o = true := by
  unfold canI at h; simp at h; exact h.1
set_option maxRecDepth 100000 in
theorem th_place {o : Int} (h : isO o = true) : (thO o = 1 ∨ thO o = 2) ↔ nkO o = 3 := by
  rcases op_cases h with h | h | h | h | h | h | h | h | h | h | h | h | h | h | h | h | h | h | h | h <;> subst h <;> decide
/-- the first place at which Op is none or N can't be, from a place on -/
def badF (m : Nat) : Nat → List Ic → Option Nat
  | _, [] => none
  | i, x :: t => if canI m x = false then some i else badF m (i + 1) t
def badI (l : List Ic) : Option Nat := badF l.length 0 l
set_option maxRecDepth 100000 in
theorem drop_ic (l : List Ic) (i : Nat) (h : i < l.length) : l.drop i = l.getD i ic0 :: l.drop (i + 1) := by
  rw [List.drop_eq_getElem_cons h, List.getD_eq_getElem?_getD, List.getElem?_eq_getElem h]; rfl
def badR (l : List Ic) (i : Nat) : Option Nat := badF l.length i (l.drop i)
set_option maxRecDepth 100000 in
theorem badR_zero (l : List Ic) : badR l 0 = badI l := rfl
set_option maxRecDepth 100000 in
theorem badR_end (l : List Ic) (i : Nat) (h : l.length ≤ i) : badR l i = none := by unfold badR; rw [List.drop_of_length_le h]; rfl
set_option maxRecDepth 100000 in
theorem badR_bad (l : List Ic) (i : Nat) (h : i < l.length) (hc : canI l.length (l.getD i ic0) = false) : badR l i = some i := by
  unfold badR; rw [drop_ic l i h]; show (if _ then _ else _) = _; rw [if_pos hc]
set_option maxRecDepth 100000 in
theorem badR_next (l : List Ic) (i : Nat) (h : i < l.length) (hc : canI l.length (l.getD i ic0) = true) : badR l i = badR l (i + 1) := by
  unfold badR; rw [drop_ic l i h]; show (if _ then _ else _) = _; rw [if_neg (by rw [hc]; decide)]
set_option maxRecDepth 100000 in
theorem badF_none {m : Nat} : ∀ (l : List Ic) (i : Nat), badF m i l = none → ∀ x ∈ l, canI m x = true
  | [], _, _, x, hx => by cases hx
  | y :: t, i, h, x, hx => by
    unfold badF at h
    by_cases hc : canI m y = false
    · rw [if_pos hc] at h; cases h
    · rw [if_neg hc] at h
      rcases List.mem_cons.1 hx with e | hx
      · rw [e]; cases hv : canI m y with
        | true => rfl
        | false => exact absurd hv hc
      · exact badF_none t (i + 1) h x hx
set_option maxRecDepth 100000 in
theorem badF_of {m : Nat} : ∀ (l : List Ic) (i : Nat), (∀ x ∈ l, canI m x = true) → badF m i l = none
  | [], _, _ => rfl
  | y :: t, i, h => by
    unfold badF
    rw [if_neg (by rw [h y (by simp)]; decide)]
    exact badF_of t (i + 1) (fun x hx => h x (by simp [hx]))
/-- a place gets a depth: the depths, the error -/
def lead (D : List Int) (t : Nat) (d : Int) : List Int × Int := if D.length ≤ t then (D, 6) else if D.getD t (-1) = -1 then (D.set t d, 0) else if D.getD t (-1) ≠ d then (D, 16) else (D, 0)
/-- one place is gone through -/
def goS (x : Ic) (D : List Int) (at' : Nat) : List Int × Int :=
  if D.getD at' (-1) < tkO x.o then (D, 3) else
  if 8 < D.getD at' (-1) - tkO x.o + ptO x.o then (D, 11) else
  if thO x.o = 0 then lead D (at' + 1) (D.getD at' (-1) - tkO x.o + ptO x.o) else
  if thO x.o = 1 then lead D x.n.toNat (D.getD at' (-1) - tkO x.o + ptO x.o) else
  if thO x.o = 2 then
    (if (lead D (at' + 1) (D.getD at' (-1) - tkO x.o + ptO x.o)).2 ≠ 0 then lead D (at' + 1) (D.getD at' (-1) - tkO x.o + ptO x.o)
     else lead (lead D (at' + 1) (D.getD at' (-1) - tkO x.o + ptO x.o)).1 x.n.toNat (D.getD at' (-1) - tkO x.o + ptO x.o))
  else (D, 0)
/-- the least place that has a depth and was not gone through, from a place on -/
def nxtF : Nat → List Int → List Bool → Option Nat
  | i, d :: D, g :: G => if g = false ∧ d ≠ -1 then some i else nxtF (i + 1) D G
  | _, _, _ => none
def nxt (D : List Int) (G : List Bool) : Option Nat := nxtF 0 D G
/-- how many were not gone through -/
def unG : List Bool → Nat
  | [] => 0
  | g :: G => (if g = false then 1 else 0) + unG G
/-- again and again: the depths, the place, the error -/
def thrF (l : List Ic) : Nat → List Int → List Bool → List Int × Nat × Int
  | 0, _, _ => ([], 0, 0)
  | f + 1, D, G => match nxt D G with
    | none => (D, 0, 0)
    | some p => if (goS (l.getD p ic0) D p).2 ≠ 0 then ([], p, (goS (l.getD p ic0) D p).2) else thrF l f (goS (l.getD p ic0) D p).1 (G.set p true)
set_option maxRecDepth 100000 in
theorem nxtF_some : ∀ (D : List Int) (G : List Bool) (i p : Nat), nxtF i D G = some p → i ≤ p ∧ p - i < D.length ∧ p - i < G.length ∧ G.getD (p - i) true = false ∧ D.getD (p - i) (-1) ≠ -1
  | [], _, _, _, h => by unfold nxtF at h; cases h
  | _ :: _, [], _, _, h => by unfold nxtF at h; cases h
  | d :: D, g :: G, i, p, h => by
    unfold nxtF at h
    by_cases hc : g = false ∧ d ≠ -1
    · rw [if_pos hc] at h
      cases h
      rw [Nat.sub_self]
      exact ⟨Nat.le_refl _, by simp, by simp, hc.1, hc.2⟩
    · rw [if_neg hc] at h
      obtain ⟨h1, h2, h3, h4, h5⟩ := nxtF_some D G (i + 1) p h
      have e : p - i = p - (i + 1) + 1 := by omega
      rw [e]
      exact ⟨by omega, by simpa using h2, by simpa using h3, h4, h5⟩
set_option maxRecDepth 100000 in
theorem nxt_some {D : List Int} {G : List Bool} {p : Nat} (h : nxt D G = some p) : p < D.length ∧ p < G.length ∧ G.getD p true = false ∧ D.getD p (-1) ≠ -1 := by
  have := nxtF_some D G 0 p h
  simpa using this
set_option maxRecDepth 100000 in
theorem nxtF_none : ∀ (D : List Int) (G : List Bool) (i : Nat), nxtF i D G = none → D.length = G.length → ∀ q, q < D.length → G.getD q true = false → D.getD q (-1) = -1
  | [], _, _, _, _, q, hq, _ => absurd hq (Nat.not_lt_zero q)
  | _ :: _, [], _, _, hl, _, _, _ => by simp at hl
  | d :: D, g :: G, i, h, hl, q, hq, hg => by
    unfold nxtF at h
    by_cases hc : g = false ∧ d ≠ -1
    · rw [if_pos hc] at h; cases h
    · rw [if_neg hc] at h
      match q with
      | 0 => exact Classical.byContradiction fun hd => hc ⟨hg, hd⟩
      | q + 1 => exact nxtF_none D G (i + 1) h (by simpa using hl) q (by simpa using hq) hg
set_option maxRecDepth 100000 in
theorem nxt_none {D : List Int} {G : List Bool} (h : nxt D G = none) (hl : D.length = G.length) : ∀ q, q < D.length → G.getD q true = false → D.getD q (-1) = -1 := nxtF_none D G 0 h hl
set_option maxRecDepth 100000 in
theorem unG_set : ∀ (G : List Bool) (p : Nat), p < G.length → G.getD p true = false → unG (G.set p true) + 1 = unG G
  | [], p, h, _ => absurd h (Nat.not_lt_zero p)
  | g :: G, 0, _, hg => by
    have hg' : g = false := hg
    subst hg'
    show (if true = false then 1 else 0) + unG G + 1 = (if false = false then 1 else 0) + unG G
    simp; omega
  | g :: G, p + 1, h, hg => by
    have ih := unG_set G p (by simpa using h) hg
    show (if g = false then 1 else 0) + unG (G.set p true) + 1 = (if g = false then 1 else 0) + unG G
    omega
set_option maxRecDepth 100000 in
theorem thrF_more (l : List Ic) : ∀ (f : Nat) (D : List Int) (G : List Bool), unG G < f → thrF l f D G = thrF l (f + 1) D G
  | 0, _, _, h => absurd h (Nat.not_lt_zero _)
  | f + 1, D, G, h => by
    show (match nxt D G with | none => _ | some p => _) = (match nxt D G with | none => _ | some p => _)
    cases hn : nxt D G with
    | none => rfl
    | some p =>
      obtain ⟨_, h2, h3, _⟩ := nxt_some hn
      have hu := unG_set G p h2 h3
      simp only
      split
      · rfl
      · exact thrF_more l f _ _ (by omega)
set_option maxRecDepth 100000 in
theorem thrF_big (l : List Ic) (f g : Nat) (D : List Int) (G : List Bool) (h : unG G < f) (hg : f ≤ g) : thrF l f D G = thrF l g D G := by
  induction g with
  | zero => omega
  | succ g ih =>
    by_cases e : f = g + 1
    · rw [e]
    · rw [ih (by omega)]; exact thrF_more l g D G (by omega)
/-- all that is still to be gone through -/
def thrR (l : List Ic) (D : List Int) (G : List Bool) : List Int × Nat × Int := thrF l (unG G + 1) D G
set_option maxRecDepth 100000 in
theorem thrR_none {l : List Ic} {D : List Int} {G : List Bool} (h : nxt D G = none) : thrR l D G = (D, 0, 0) := by
  unfold thrR thrF; rw [h]
set_option maxRecDepth 100000 in
theorem thrR_bad {l : List Ic} {D : List Int} {G : List Bool} {p : Nat} (h : nxt D G = some p) (he : (goS (l.getD p ic0) D p).2 ≠ 0) : thrR l D G = ([], p, (goS (l.getD p ic0) D p).2) := by
  unfold thrR thrF; rw [h]; simp only; rw [if_pos he]
set_option maxRecDepth 100000 in
theorem thrR_next {l : List Ic} {D : List Int} {G : List Bool} {p : Nat} (h : nxt D G = some p) (he : (goS (l.getD p ic0) D p).2 = 0) : thrR l D G = thrR l (goS (l.getD p ic0) D p).1 (G.set p true) := by
  have h1 := nxt_some h
  have hu := unG_set G p h1.2.1 h1.2.2.1
  conv => lhs; unfold thrR thrF
  rw [h]; simp only
  rw [if_neg (fun k => k he)]
  unfold thrR
  rw [← hu]
/-- at first: place 0 has the depth 0 -/
def D0 (n : Nat) : List Int := (List.replicate n (-1)).set 0 0
def G0 (n : Nat) : List Bool := List.replicate n false
/-- code: the depths, the place, the error -/
def thr (l : List Ic) : List Int × Nat × Int :=
  if l.length < 1 ∨ 200 < l.length then ([], 0, 5) else
  match badI l with
  | some i => ([], i, 15)
  | none => thrR l (D0 l.length) (G0 l.length)
set_option maxRecDepth 100000 in
theorem thr_big {l : List Ic} (h : l.length < 1 ∨ 200 < l.length) : thr l = ([], 0, 5) := by unfold thr; rw [if_pos h]
set_option maxRecDepth 100000 in
theorem thr_code {l : List Ic} (h : ¬ (l.length < 1 ∨ 200 < l.length)) {i : Nat} (hb : badI l = some i) : thr l = ([], i, 15) := by unfold thr; rw [if_neg h, hb]
set_option maxRecDepth 100000 in
theorem thr_go {l : List Ic} (h : ¬ (l.length < 1 ∨ 200 < l.length)) (hb : badI l = none) : thr l = thrR l (D0 l.length) (G0 l.length) := by unfold thr; rw [if_neg h, hb]
end Go.Proofs.Ytbjeeefkbmdmfaa
namespace Go.Proofs.Ytbjeeefkbmdmfaa
open Go.RowKit
set_option linter.unusedVariables false

/-- depths that stay: what has one keeps it -/
def Kps (D E : List Int) : Prop := E.length = D.length ∧ ∀ q, D.getD q (-1) ≠ -1 → E.getD q (-1) = D.getD q (-1)
set_option maxRecDepth 100000 in
theorem Kps.refl (D : List Int) : Kps D D := ⟨rfl, fun _ _ => rfl⟩
set_option maxRecDepth 100000 in
theorem Kps.trans {A B C : List Int} (h : Kps A B) (k : Kps B C) : Kps A C := ⟨k.1.trans h.1, fun q hq => by rw [k.2 q (by rw [h.2 q hq]; exact hq), h.2 q hq]⟩
set_option maxRecDepth 100000 in
theorem lead_ok {D E : List Int} {t : Nat} {d : Int} (h : lead D t d = (E, 0)) : t < D.length ∧ E.getD t (-1) = d ∧ Kps D E := by
  unfold lead at h
  by_cases h1 : D.length ≤ t
  · rw [if_pos h1] at h; cases h
  rw [if_neg h1] at h
  by_cases h2 : D.getD t (-1) = -1
  · rw [if_pos h2] at h
    cases h
    refine ⟨by omega, ?_, by rw [List.length_set], fun q hq => ?_⟩
    · rw [List.getD_eq_getElem?_getD, List.getElem?_set_self (by omega)]; rfl
    · have hne : t ≠ q := fun e => by subst e; exact hq h2
      rw [List.getD_eq_getElem?_getD, List.getElem?_set_ne hne, ← List.getD_eq_getElem?_getD]
  · rw [if_neg h2] at h
    by_cases h3 : D.getD t (-1) ≠ d
    · rw [if_pos h3] at h; cases h
    · rw [if_neg h3] at h
      cases h
      exact ⟨by omega, Classical.byContradiction h3, Kps.refl _⟩
set_option maxRecDepth 100000 in
theorem lead_two {D : List Int} {t : Nat} {d : Int} (h : (lead D t d).2 = 0) : lead D t d = ((lead D t d).1, 0) := by rw [← h]
/-- what holds of a place that was gone through -/
structure Fl (x : Ic) (D : List Int) (p : Nat) : Prop where
  tk : tkO x.o ≤ D.getD p (-1)
  mx : D.getD p (-1) - tkO x.o + ptO x.o ≤ 8
  beh : thO x.o = 0 ∨ thO x.o = 2 → p + 1 < D.length ∧ D.getD (p + 1) (-1) = D.getD p (-1) - tkO x.o + ptO x.o
  jmp : thO x.o = 1 ∨ thO x.o = 2 → x.n.toNat < D.length ∧ D.getD x.n.toNat (-1) = D.getD p (-1) - tkO x.o + ptO x.o
set_option maxRecDepth 100000 in
theorem Fl.keep {x : Ic} {D E : List Int} {p : Nat} (h : Fl x D p) (hp : D.getD p (-1) ≠ -1) (hx : isO x.o = true) (hd : 0 ≤ D.getD p (-1)) (k : Kps D E) : Fl x E p := by
  have ep := k.2 p hp
  have hb := tbl_bd hx
  have h0 : D.getD p (-1) - tkO x.o + ptO x.o ≠ -1 := by have := h.tk; omega
  refine ⟨by rw [ep]; exact h.tk, by rw [ep]; exact h.mx, fun ht => ?_, fun ht => ?_⟩
  · obtain ⟨h1, h2⟩ := h.beh ht
    exact ⟨by rw [k.1]; exact h1, by rw [ep, k.2 _ (by rw [h2]; exact h0)]; exact h2⟩
  · obtain ⟨h1, h2⟩ := h.jmp ht
    exact ⟨by rw [k.1]; exact h1, by rw [ep, k.2 _ (by rw [h2]; exact h0)]; exact h2⟩
set_option maxRecDepth 100000 in
theorem goS_ok {x : Ic} {D E : List Int} {p : Nat} (hx : isO x.o = true) (hp : D.getD p (-1) ≠ -1) (h : goS x D p = (E, 0)) : Kps D E ∧ Fl x E p := by
  unfold goS at h
  generalize hd : D.getD p (-1) - tkO x.o + ptO x.o = d at h
  by_cases h1 : D.getD p (-1) < tkO x.o
  · rw [if_pos h1] at h; cases h
  rw [if_neg h1] at h
  by_cases h2 : 8 < d
  · rw [if_pos h2] at h; cases h
  rw [if_neg h2] at h
  have ht := tbl_bd hx
  by_cases t0 : thO x.o = 0
  · rw [if_pos t0] at h
    obtain ⟨a1, a2, a3⟩ := lead_ok h
    have ep := a3.2 p hp
    refine ⟨a3, by rw [ep]; omega, by rw [ep, hd]; omega, fun _ => ⟨by rw [a3.1]; exact a1, by rw [ep, hd]; exact a2⟩, fun ht2 => by omega⟩
  rw [if_neg t0] at h
  by_cases t1 : thO x.o = 1
  · rw [if_pos t1] at h
    obtain ⟨a1, a2, a3⟩ := lead_ok h
    have ep := a3.2 p hp
    refine ⟨a3, by rw [ep]; omega, by rw [ep, hd]; omega, fun ht2 => by omega, fun _ => ⟨by rw [a3.1]; exact a1, by rw [ep, hd]; exact a2⟩⟩
  rw [if_neg t1] at h
  by_cases t2 : thO x.o = 2
  · rw [if_pos t2] at h
    by_cases he : (lead D (p + 1) d).2 ≠ 0
    · rw [if_pos he] at h
      rw [h] at he; exact absurd rfl he
    · rw [if_neg he] at h
      obtain ⟨a1, a2, a3⟩ := lead_ok (lead_two (Classical.byContradiction he))
      generalize (lead D (p + 1) d).1 = F at h a2 a3
      obtain ⟨b1, b2, b3⟩ := lead_ok h
      have k := a3.trans b3
      have ep := k.2 p hp
      have hd0 : d ≠ -1 := by omega
      refine ⟨k, by rw [ep]; omega, by rw [ep, hd]; omega, fun _ => ⟨by rw [k.1]; exact a1, by rw [ep, hd, b3.2 _ (by rw [a2]; exact hd0)]; exact a2⟩, fun _ => ⟨by rw [k.1, ← a3.1]; exact b1, by rw [ep, hd]; exact b2⟩⟩
  · rw [if_neg t2] at h
    cases h
    exact ⟨Kps.refl _, by omega, by rw [hd]; omega, fun ht2 => by omega, fun ht2 => by omega⟩
set_option maxRecDepth 100000 in
theorem goS_dep {x : Ic} {D E : List Int} {p : Nat} (hx : isO x.o = true) (h : goS x D p = (E, 0)) : E.length = D.length ∧ ∀ q, D.getD q (-1) = E.getD q (-1) ∨ 0 ≤ E.getD q (-1) := by
  have hl : ∀ {D E : List Int} {t : Nat} {d : Int}, 0 ≤ d → lead D t d = (E, 0) → E.length = D.length ∧ ∀ q, D.getD q (-1) = E.getD q (-1) ∨ 0 ≤ E.getD q (-1) := by
    intro D E t d hd h
    unfold lead at h
    by_cases h1 : D.length ≤ t
    · rw [if_pos h1] at h; cases h
    rw [if_neg h1] at h
    by_cases h2 : D.getD t (-1) = -1
    · rw [if_pos h2] at h
      cases h
      refine ⟨by rw [List.length_set], fun q => ?_⟩
      by_cases e : t = q
      · subst e; right; rw [List.getD_eq_getElem?_getD, List.getElem?_set_self (by omega)]; exact hd
      · left; rw [List.getD_eq_getElem?_getD, List.getD_eq_getElem?_getD, List.getElem?_set_ne e]
    · rw [if_neg h2] at h
      by_cases h3 : D.getD t (-1) ≠ d
      · rw [if_pos h3] at h; cases h
      · rw [if_neg h3] at h
        cases h
        exact ⟨rfl, fun q => .inl rfl⟩
  have ht := tbl_bd hx
  unfold goS at h
  generalize hd : D.getD p (-1) - tkO x.o + ptO x.o = d at h
  by_cases h1 : D.getD p (-1) < tkO x.o
  · rw [if_pos h1] at h; cases h
  rw [if_neg h1] at h
  by_cases h2 : 8 < d
  · rw [if_pos h2] at h; cases h
  rw [if_neg h2] at h
  have hd0 : 0 ≤ d := by omega
  by_cases t0 : thO x.o = 0
  · rw [if_pos t0] at h; exact hl hd0 h
  rw [if_neg t0] at h
  by_cases t1 : thO x.o = 1
  · rw [if_pos t1] at h; exact hl hd0 h
  rw [if_neg t1] at h
  by_cases t2 : thO x.o = 2
  · rw [if_pos t2] at h
    by_cases he : (lead D (p + 1) d).2 ≠ 0
    · rw [if_pos he] at h
      rw [h] at he; exact absurd rfl he
    · rw [if_neg he] at h
      obtain ⟨a1, a2⟩ := hl hd0 (lead_two (Classical.byContradiction he))
      obtain ⟨b1, b2⟩ := hl hd0 h
      refine ⟨b1.trans a1, fun q => ?_⟩
      rcases b2 q with e | e
      · rcases a2 q with e2 | e2
        · exact .inl (e2.trans e)
        · exact .inr (by rw [← e]; exact e2)
      · exact .inr e
  · rw [if_neg t2] at h
    cases h
    exact ⟨rfl, fun q => .inl rfl⟩
/-- what holds while code is gone through -/
structure FI (l : List Ic) (D : List Int) (G : List Bool) : Prop where
  dl : D.length = l.length
  gl : G.length = l.length
  d0 : D.getD 0 (-1) = 0
  nn : ∀ q, D.getD q (-1) = -1 ∨ 0 ≤ D.getD q (-1)
  gn : ∀ q, q < l.length → G.getD q true = true → D.getD q (-1) ≠ -1 ∧ Fl (l.getD q ic0) D q
/-- what holds behind it -/
structure Flow (l : List Ic) (D : List Int) : Prop where
  dl : D.length = l.length
  d0 : D.getD 0 (-1) = 0
  nn : ∀ q, D.getD q (-1) = -1 ∨ 0 ≤ D.getD q (-1)
  fl : ∀ q, q < l.length → D.getD q (-1) ≠ -1 → Fl (l.getD q ic0) D q
set_option maxRecDepth 100000 in
theorem FI.step {l : List Ic} {D : List Int} {G : List Bool} (h : FI l D G) (hl : ∀ q, q < l.length → isO (l.getD q ic0).o = true) {p : Nat} (hn : nxt D G = some p) (he : (goS (l.getD p ic0) D p).2 = 0) : FI l (goS (l.getD p ic0) D p).1 (G.set p true) := by
  obtain ⟨h1, h2, h3, h4⟩ := nxt_some hn
  have hp : p < l.length := by rw [← h.dl]; exact h1
  have hx := hl p hp
  have hg : goS (l.getD p ic0) D p = ((goS (l.getD p ic0) D p).1, 0) := by rw [← he]
  obtain ⟨k, f⟩ := goS_ok hx h4 hg
  obtain ⟨a1, a2⟩ := goS_dep hx hg
  generalize (goS (l.getD p ic0) D p).1 = E at k f a1 a2
  refine ⟨a1.trans h.dl, by rw [List.length_set]; exact h.gl, by rw [k.2 0 (by rw [h.d0]; decide)]; exact h.d0, fun q => ?_, fun q hq hg2 => ?_⟩
  · rcases a2 q with e | e
    · rw [← e]; exact h.nn q
    · exact .inr e
  · by_cases e : p = q
    · subst e
      exact ⟨by rw [k.2 p h4]; exact h4, f⟩
    · rw [List.getD_eq_getElem?_getD, List.getElem?_set_ne e, ← List.getD_eq_getElem?_getD] at hg2
      obtain ⟨b1, b2⟩ := h.gn q hq hg2
      refine ⟨by rw [k.2 q b1]; exact b1, b2.keep b1 (hl q hq) ?_ k⟩
      rcases h.nn q with e2 | e2
      · exact absurd e2 b1
      · exact e2
set_option maxRecDepth 100000 in
theorem thrF_flow {l : List Ic} (hl : ∀ q, q < l.length → isO (l.getD q ic0).o = true) : ∀ (f : Nat) (D : List Int) (G : List Bool), unG G < f → FI l D G → (thrF l f D G).2.2 = 0 → Flow l (thrF l f D G).1
  | 0, _, _, h, _, _ => absurd h (Nat.not_lt_zero _)
  | f + 1, D, G, hf, h, he => by
    unfold thrF at he ⊢
    cases hn : nxt D G with
    | none =>
      rw [hn] at he
      simp only
      refine ⟨h.dl, h.d0, h.nn, fun q hq hd => ?_⟩
      have hg : G.getD q true = true := by
        cases hg : G.getD q true with
        | true => rfl
        | false => exact absurd (nxt_none hn (h.dl.trans h.gl.symm) q (by rw [h.dl]; exact hq) hg) hd
      exact (h.gn q hq hg).2
    | some p =>
      rw [hn] at he
      simp only at he ⊢
      by_cases hb : (goS (l.getD p ic0) D p).2 ≠ 0
      · rw [if_pos hb] at he; exact absurd he hb
      · rw [if_neg hb] at he ⊢
        have h1 := nxt_some hn
        have hu := unG_set G p h1.2.1 h1.2.2.1
        exact thrF_flow hl f _ _ (by omega) (h.step hl hn (Classical.byContradiction hb)) he
set_option maxRecDepth 100000 in
theorem fi_zero (l : List Ic) (h : 1 ≤ l.length) : FI l (D0 l.length) (G0 l.length) := by
  have e : ∀ q, (D0 l.length).getD q (-1) = if q = 0 then 0 else -1 := fun q => by
    unfold D0
    by_cases e : q = 0
    · subst e; rw [List.getD_eq_getElem?_getD, List.getElem?_set_self (by rw [List.length_replicate]; omega)]; rfl
    · rw [if_neg e, List.getD_eq_getElem?_getD, List.getElem?_set_ne (fun k => e k.symm), List.getElem?_replicate]; split <;> rfl
  refine ⟨by unfold D0; rw [List.length_set, List.length_replicate], by unfold G0; rw [List.length_replicate], by rw [e]; rfl, fun q => ?_, fun q hq hg => ?_⟩
  · rw [e]; split
    · exact .inr (Int.le_refl _)
    · exact .inl rfl
  · unfold G0 at hg
    rw [List.getD_eq_getElem?_getD, List.getElem?_replicate, if_pos hq] at hg
    cases hg
set_option maxRecDepth 100000 in
theorem can_all {l : List Ic} (hb : badI l = none) : ∀ q, q < l.length → canI l.length (l.getD q ic0) = true := fun q hq => by
  have := badF_none l 0 hb (l.getD q ic0) (by rw [List.getD_eq_getElem?_getD, List.getElem?_eq_getElem hq]; exact List.getElem_mem hq)
  exact this
set_option maxRecDepth 100000 in
/-- code that fits together -/
theorem thr_flow {l : List Ic} (h : (thr l).2.2 = 0) : 1 ≤ l.length ∧ l.length ≤ 200 ∧ (∀ q, q < l.length → canI l.length (l.getD q ic0) = true) ∧ Flow l (thr l).1 := by
  by_cases h1 : l.length < 1 ∨ 200 < l.length
  · rw [thr_big h1] at h; cases h
  · cases hb : badI l with
    | some i => rw [thr_code h1 hb] at h; cases h
    | none =>
      rw [thr_go h1 hb] at h ⊢
      have hc := can_all hb
      exact ⟨by omega, by omega, hc, thrF_flow (fun q hq => canI_is (hc q hq)) _ _ _ (Nat.lt_succ_self _) (fi_zero l (by omega)) h⟩
set_option maxRecDepth 100000 in
theorem thr_err {l : List Ic} (h : (thr l).2.2 ≠ 0) : (thr l).1 = [] := by
  by_cases h1 : l.length < 1 ∨ 200 < l.length
  · rw [thr_big h1]
  · cases hb : badI l with
    | some i => rw [thr_code h1 hb]
    | none =>
      rw [thr_go h1 hb] at h ⊢
      have : ∀ (f : Nat) (D : List Int) (G : List Bool), (thrF l f D G).2.2 ≠ 0 → (thrF l f D G).1 = [] := by
        intro f
        induction f with
        | zero => intro D G h; exact absurd rfl h
        | succ f ih =>
          intro D G h
          unfold thrF at h ⊢
          cases hn : nxt D G with
          | none => rw [hn] at h; exact absurd rfl h
          | some p =>
            rw [hn] at h
            simp only at h ⊢
            by_cases hb : (goS (l.getD p ic0) D p).2 ≠ 0
            · rw [if_pos hb]
            · rw [if_neg hb] at h ⊢; exact ih _ _ h
      exact this _ _ _ h
set_option maxRecDepth 100000 in
/-- along a way: a place that is reached leads to one that is -/
theorem Flow.go {l : List Ic} {D : List Int} (h : Flow l D) {q : Nat} (hq : q < l.length) (hx : isO (l.getD q ic0).o = true) {d : Int} (hd : 0 ≤ d) (e : D.getD q (-1) = d) :
    tkO (l.getD q ic0).o ≤ d ∧ d - tkO (l.getD q ic0).o + ptO (l.getD q ic0).o ≤ 8 ∧ (thO (l.getD q ic0).o = 0 ∨ thO (l.getD q ic0).o = 2 → q + 1 < l.length ∧ D.getD (q + 1) (-1) = d - tkO (l.getD q ic0).o + ptO (l.getD q ic0).o) ∧ (thO (l.getD q ic0).o = 1 ∨ thO (l.getD q ic0).o = 2 → (l.getD q ic0).n.toNat < l.length ∧ D.getD (l.getD q ic0).n.toNat (-1) = d - tkO (l.getD q ic0).o + ptO (l.getD q ic0).o) := by
  have f := h.fl q hq (by rw [e]; omega)
  rw [← e, ← h.dl]
  exact ⟨f.tk, f.mx, f.beh, f.jmp⟩
end Go.Proofs.Ytbjeeefkbmdmfaa
namespace Go.Proofs.Ytbjeeefkbmdmfaa
open Go.RowKit
set_option linter.unusedVariables false

set_option maxRecDepth 100000 in
theorem nxtF_app : ∀ (D E : List Int) (G H : List Bool) (i : Nat), D.length = G.length → nxtF i (D ++ E) (G ++ H) = match nxtF i D G with | some p => some p | none => nxtF (i + D.length) E H
  | [], E, [], H, i, _ => by
    show nxtF i E H = nxtF (i + 0) E H
    rw [Nat.add_zero]
  | [], _, _ :: _, _, _, h => by simp at h
  | _ :: _, _, [], _, _, h => by simp at h
  | d :: D, E, g :: G, H, i, h => by
    show (if g = false ∧ d ≠ -1 then some i else nxtF (i + 1) (D ++ E) (G ++ H)) = match (if g = false ∧ d ≠ -1 then some i else nxtF (i + 1) D G) with | some p => some p | none => nxtF (i + (D.length + 1)) E H
    by_cases hc : g = false ∧ d ≠ -1
    · rw [if_pos hc, if_pos hc]
    · rw [if_neg hc, if_neg hc, nxtF_app D E G H (i + 1) (by simpa using h), show i + 1 + D.length = i + (D.length + 1) from by omega]
set_option maxRecDepth 100000 in
theorem nxtF_rep : ∀ (n i : Nat) (H : List Bool), nxtF i (List.replicate n (-1)) H = none
  | 0, i, H => by cases H <;> rfl
  | n + 1, i, [] => rfl
  | n + 1, i, h :: H => by
    show (if h = false ∧ (-1 : Int) ≠ -1 then some i else nxtF (i + 1) (List.replicate n (-1)) H) = none
    rw [if_neg (fun k => k.2 rfl)]
    exact nxtF_rep n (i + 1) H
set_option maxRecDepth 100000 in
theorem nxt_app {D : List Int} {G : List Bool} (h : D.length = G.length) (k : Nat) (H : List Bool) : nxt (D ++ List.replicate k (-1)) (G ++ H) = nxt D G := by
  unfold nxt
  rw [nxtF_app D _ G H 0 h, nxtF_rep]
  cases nxtF 0 D G <;> rfl
set_option maxRecDepth 100000 in
theorem getD_app {α : Type} (D E : List α) (q : Nat) (z : α) (h : q < D.length) : (D ++ E).getD q z = D.getD q z := by
  rw [List.getD_eq_getElem?_getD, List.getElem?_append_left h, ← List.getD_eq_getElem?_getD]
set_option maxRecDepth 100000 in
theorem lead_app {D E : List Int} {t : Nat} {d : Int} (ht : t < D.length) : lead (D ++ E) t d = ((lead D t d).1 ++ E, (lead D t d).2) := by
  unfold lead
  rw [if_neg (by rw [List.length_append]; omega), if_neg (show ¬ D.length ≤ t by omega), getD_app D E t _ ht]
  by_cases h2 : D.getD t (-1) = -1
  · rw [if_pos h2, if_pos h2, List.set_append_left _ _ ht]
  · rw [if_neg h2, if_neg h2]
    by_cases h3 : D.getD t (-1) ≠ d
    · rw [if_pos h3, if_pos h3]
    · rw [if_neg h3, if_neg h3]
set_option maxRecDepth 100000 in
theorem lead_in {D : List Int} {t : Nat} {d : Int} (h : (lead D t d).2 = 0) : t < D.length := (lead_ok (lead_two h)).1
set_option maxRecDepth 100000 in
theorem lead_len (D : List Int) (t : Nat) (d : Int) : (lead D t d).1.length = D.length := by
  unfold lead
  split
  · rfl
  · split
    · simp
    · split <;> rfl
set_option maxRecDepth 100000 in
theorem goS_app {x : Ic} {D E : List Int} {p : Nat} (hp : p < D.length) (h : (goS x D p).2 = 0) : goS x (D ++ E) p = ((goS x D p).1 ++ E, 0) := by
  unfold goS at h ⊢
  rw [getD_app D E p _ hp]
  generalize D.getD p (-1) - tkO x.o + ptO x.o = d at h ⊢
  by_cases h1 : D.getD p (-1) < tkO x.o
  · rw [if_pos h1] at h; cases h
  rw [if_neg h1] at h ⊢
  rw [if_neg h1]
  by_cases h2 : 8 < d
  · rw [if_pos h2] at h; cases h
  rw [if_neg h2] at h ⊢
  rw [if_neg h2]
  by_cases t0 : thO x.o = 0
  · rw [if_pos t0] at h ⊢
    rw [if_pos t0, lead_app (lead_in h), h]
  rw [if_neg t0] at h ⊢
  rw [if_neg t0]
  by_cases t1 : thO x.o = 1
  · rw [if_pos t1] at h ⊢
    rw [if_pos t1, lead_app (lead_in h), h]
  rw [if_neg t1] at h ⊢
  rw [if_neg t1]
  by_cases t2 : thO x.o = 2
  · rw [if_pos t2] at h ⊢
    rw [if_pos t2]
    by_cases he : (lead D (p + 1) d).2 ≠ 0
    · rw [if_pos he] at h; exact absurd h he
    · rw [if_neg he] at h ⊢
      have he0 : (lead D (p + 1) d).2 = 0 := Classical.byContradiction he
      rw [lead_app (lead_in he0), he0]
      simp only
      rw [if_neg (fun k => k rfl), lead_app (lead_in h), h]
  · rw [if_neg t2] at h ⊢
    rw [if_neg t2]
set_option maxRecDepth 100000 in
theorem goS_len (x : Ic) (D : List Int) (p : Nat) : (goS x D p).1.length = D.length := by
  unfold goS
  split
  · rfl
  · split
    · rfl
    · split
      · exact lead_len _ _ _
      · split
        · exact lead_len _ _ _
        · split
          · split
            · exact lead_len _ _ _
            · rw [lead_len, lead_len]
          · rfl
set_option maxRecDepth 100000 in
theorem thrF_app (l m : List Ic) : ∀ (f : Nat) (D : List Int) (G : List Bool), unG G < f → D.length = l.length → G.length = l.length → (thrF l f D G).2.2 = 0 →
    thrF (l ++ m) f (D ++ List.replicate m.length (-1)) (G ++ List.replicate m.length false) = ((thrF l f D G).1 ++ List.replicate m.length (-1), 0, 0)
  | 0, _, _, h, _, _, _ => absurd h (Nat.not_lt_zero _)
  | f + 1, D, G, hf, hd, hg, he => by
    unfold thrF at he ⊢
    rw [nxt_app (hd.trans hg.symm)]
    cases hn : nxt D G with
    | none => rfl
    | some p =>
      rw [hn] at he
      simp only at he ⊢
      obtain ⟨h1, h2, h3, _⟩ := nxt_some hn
      have hp : p < l.length := by rw [← hd]; exact h1
      rw [getD_app l m p _ hp]
      by_cases hb : (goS (l.getD p ic0) D p).2 ≠ 0
      · rw [if_pos hb] at he; exact absurd he hb
      · rw [if_neg hb] at he ⊢
        have hb0 : (goS (l.getD p ic0) D p).2 = 0 := Classical.byContradiction hb
        rw [goS_app h1 hb0]
        simp only
        rw [if_neg (fun k => k rfl), List.set_append_left _ _ h2]
        have hu := unG_set G p h2 h3
        exact thrF_app l m f _ _ (by omega) (by rw [goS_len]; exact hd) (by rw [List.length_set]; exact hg) he
set_option maxRecDepth 100000 in
theorem unG_app : ∀ (G H : List Bool), unG (G ++ H) = unG G + unG H
  | [], H => by simp [unG]
  | g :: G, H => by
    show (if g = false then 1 else 0) + unG (G ++ H) = (if g = false then 1 else 0) + unG G + unG H
    rw [unG_app G H]; omega
set_option maxRecDepth 100000 in
theorem numB_more {x : Ic} {m k : Nat} (h : canI m x = true) (hk : m ≤ k) : canI k x = true := by
  unfold canI at h ⊢
  simp at h ⊢
  refine ⟨h.1, ?_⟩
  have h2 := h.2
  unfold numB at h2 ⊢
  split
  · rfl
  · rename_i a
    rw [if_neg a] at h2
    split
    · rename_i b; rw [if_pos b] at h2; exact h2
    · rename_i b
      rw [if_neg b] at h2
      split
      · rename_i c
        rw [if_pos c] at h2
        simp at h2 ⊢
        exact ⟨h2.1, by omega⟩
      · rename_i c; rw [if_neg c] at h2; exact h2
set_option maxRecDepth 100000 in
theorem canI_nul {x : Ic} {m : Nat} (h : isO x.o = true) (hn : x.n = 0) (hm : 1 ≤ m) : canI m x = true := by
  unfold canI numB
  rw [h, hn]
  simp
  by_cases h1 : nkO x.o = 1
  · exact .inl h1
  · exact .inr (.inr (.inr (by omega)))
set_option maxRecDepth 100000 in
/-- what nothing leads to changes nothing -/
theorem thr_more {l m : List Ic} (h : (thr l).2.2 = 0) (hn : l.length + m.length ≤ 200) (hm : ∀ x ∈ m, isO x.o = true ∧ x.n = 0) : thr (l ++ m) = ((thr l).1 ++ List.replicate m.length (-1), 0, 0) := by
  have hl := thr_flow h
  have h1 : ¬ (l.length < 1 ∨ 200 < l.length) := by omega
  have h2 : ¬ ((l ++ m).length < 1 ∨ 200 < (l ++ m).length) := by rw [List.length_append]; omega
  have hb : badI l = none := by
    cases hb : badI l with
    | none => rfl
    | some i => rw [thr_code h1 hb] at h; cases h
  have hb2 : badI (l ++ m) = none := by
    unfold badI
    refine badF_of _ _ fun x hx => ?_
    rw [List.length_append]
    rcases List.mem_append.1 hx with hx | hx
    · exact numB_more (badF_none l 0 hb x hx) (Nat.le_add_right _ _)
    · exact canI_nul (hm x hx).1 (hm x hx).2 (by omega)
  rw [thr_go h1 hb] at h ⊢
  rw [thr_go h2 hb2]
  have e1 : D0 (l ++ m).length = D0 l.length ++ List.replicate m.length (-1) := by
    unfold D0
    rw [List.length_append, ← List.replicate_append_replicate, List.set_append_left _ _ (by rw [List.length_replicate]; omega)]
  have e2 : G0 (l ++ m).length = G0 l.length ++ List.replicate m.length false := by
    unfold G0
    rw [List.length_append, ← List.replicate_append_replicate]
  rw [e1, e2]
  have hd : (D0 l.length).length = l.length := by unfold D0; rw [List.length_set, List.length_replicate]
  have hg : (G0 l.length).length = l.length := by unfold G0; rw [List.length_replicate]
  unfold thrR at h ⊢
  rw [unG_app]
  have hbig := thrF_big l (unG (G0 l.length) + 1) (unG (G0 l.length) + unG (List.replicate m.length false) + 1) (D0 l.length) (G0 l.length) (Nat.lt_succ_self _) (by omega)
  rw [hbig] at h ⊢
  exact thrF_app l m _ _ _ (by omega) hd hg h
end Go.Proofs.Ytbjeeefkbmdmfaa
namespace Go.Proofs.Ytbjeeefkbmdmfaa
open Go.RowKit
set_option linter.unusedVariables false

/-- cells, a stack (the top last), a place -/
structure VS where
  c : List Int
  s : List Int
  p : Nat
/-- the top, the one below it -/
def tpB (v : VS) : Int := v.s.getD (v.s.length - 1) 0
def tpA (v : VS) : Int := v.s.getD (v.s.length - 2) 0
def off (v : VS) (k : Nat) : List Int := v.s.take (v.s.length - k)
/-- modulo 2^64, as an int64 -/
def w64 (x : Int) : Int := (x + 9223372036854775808) % 18446744073709551616 - 9223372036854775808
set_option maxRecDepth 100000 in
theorem w64_wrap (x : Int) : IntKind.i64.wrap x = w64 x := IntKind.wrap_i64 x
/-- what two numbers make; nothing: it refuses -/
def jnd (o a b : Int) : Option Int :=
  if o = 8 then some (w64 (a + b)) else if o = 9 then some (w64 (a - b)) else if o = 10 then some (w64 (a * b)) else
  if o = 13 then some (if a < b then 1 else 0) else if o = 14 then some (if a = b then 1 else 0) else
  if b = 0 then none else if b = -1 then (if o = 11 then some (w64 (-a)) else some 0) else
  if o = 11 then some (a.tdiv b) else some (a.tmod b)
/-- one instruction: what there is behind it, whether it ends (0 not, 1 answered, 2 refused), the answer -/
def do1 (x : Ic) (k g : Int) (v : VS) : VS × Int × Int :=
  if x.o = 0 then (⟨v.c, v.s ++ [x.n], v.p + 1⟩, 0, 0) else
  if x.o = 1 then (⟨v.c, off v 1, v.p + 1⟩, 0, 0) else
  if x.o = 2 then (⟨v.c, v.s ++ [tpB v], v.p + 1⟩, 0, 0) else
  if x.o = 3 then (⟨v.c, off v 2 ++ [tpB v, tpA v], v.p + 1⟩, 0, 0) else
  if x.o = 4 then (⟨v.c, v.s ++ [v.c.getD x.n.toNat 0], v.p + 1⟩, 0, 0) else
  if x.o = 5 then (⟨v.c.set x.n.toNat (tpB v), off v 1, v.p + 1⟩, 0, 0) else
  if x.o = 6 then (⟨v.c, v.s ++ [g], v.p + 1⟩, 0, 0) else
  if x.o = 7 then (⟨v.c, v.s ++ [k], v.p + 1⟩, 0, 0) else
  if x.o = 15 then (⟨v.c, off v 1 ++ [if tpB v = 0 then 1 else 0], v.p + 1⟩, 0, 0) else
  if x.o = 16 then (⟨v.c, v.s, x.n.toNat⟩, 0, 0) else
  if x.o = 17 then (⟨v.c, off v 1, if tpB v = 0 then x.n.toNat else v.p + 1⟩, 0, 0) else
  if x.o = 18 then (⟨v.c, off v 1, v.p + 1⟩, 1, tpB v) else
  if x.o = 19 then (⟨v.c, v.s, v.p + 1⟩, 2, 0) else
  match jnd x.o (tpA v) (tpB v) with
  | some y => (⟨v.c, off v 2 ++ [y], v.p + 1⟩, 0, 0)
  | none => (⟨v.c, off v 2, v.p + 1⟩, 2, 0)
/-- so many instructions at most: the kind, the cells, the answer, how many were done -/
def vmF (l : List Ic) (k g : Int) : Nat → VS → Nat → Int × List Int × Int × Nat
  | 0, v, u => (3, v.c, 0, u)
  | f + 1, v, u => if (do1 (l.getD v.p ic0) k g v).2.1 = 0 then vmF l k g f (do1 (l.getD v.p ic0) k g v).1 (u + 1)
    else if (do1 (l.getD v.p ic0) k g v).2.1 = 1 then (1, (do1 (l.getD v.p ic0) k g v).1.c, (do1 (l.getD v.p ic0) k g v).2.2, u + 1)
    else (2, v.c, 0, u + 1)
def vs0 (S : List Int) : VS := ⟨S, [], 0⟩
/-- a step: the kind, the state, the answer, how many were done -/
def stpV (l : List Ic) (S : List Int) (k g f : Int) : Int × List Int × Int × Int :=
  if (thr l).2.2 ≠ 0 then (4, [0, 0, 0, 0], 0, 0) else
  if (vmF l k g f.toNat (vs0 S) 0).1 = 1 then (1, (vmF l k g f.toNat (vs0 S) 0).2.1, (vmF l k g f.toNat (vs0 S) 0).2.2.1, ((vmF l k g f.toNat (vs0 S) 0).2.2.2 : Int)) else ((vmF l k g f.toNat (vs0 S) 0).1, S, 0, ((vmF l k g f.toNat (vs0 S) 0).2.2.2 : Int))
set_option maxRecDepth 100000 in
theorem do1_over (x : Ic) (k g : Int) (v : VS) : (do1 x k g v).2.1 = 0 ∨ (do1 x k g v).2.1 = 1 ∨ (do1 x k g v).2.1 = 2 := by
  unfold do1
  by_cases h0 : x.o = 0
  · rw [if_pos h0]; exact .inl rfl
  rw [if_neg h0]
  by_cases h1 : x.o = 1
  · rw [if_pos h1]; exact .inl rfl
  rw [if_neg h1]
  by_cases h2 : x.o = 2
  · rw [if_pos h2]; exact .inl rfl
  rw [if_neg h2]
  by_cases h3 : x.o = 3
  · rw [if_pos h3]; exact .inl rfl
  rw [if_neg h3]
  by_cases h4 : x.o = 4
  · rw [if_pos h4]; exact .inl rfl
  rw [if_neg h4]
  by_cases h5 : x.o = 5
  · rw [if_pos h5]; exact .inl rfl
  rw [if_neg h5]
  by_cases h6 : x.o = 6
  · rw [if_pos h6]; exact .inl rfl
  rw [if_neg h6]
  by_cases h7 : x.o = 7
  · rw [if_pos h7]; exact .inl rfl
  rw [if_neg h7]
  by_cases h15 : x.o = 15
  · rw [if_pos h15]; exact .inl rfl
  rw [if_neg h15]
  by_cases h16 : x.o = 16
  · rw [if_pos h16]; exact .inl rfl
  rw [if_neg h16]
  by_cases h17 : x.o = 17
  · rw [if_pos h17]; exact .inl rfl
  rw [if_neg h17]
  by_cases h18 : x.o = 18
  · rw [if_pos h18]; exact .inr (.inl rfl)
  rw [if_neg h18]
  by_cases h19 : x.o = 19
  · rw [if_pos h19]; exact .inr (.inr rfl)
  rw [if_neg h19]
  cases jnd x.o (tpA v) (tpB v) with
  | some y => exact .inl rfl
  | none => exact .inr (.inr rfl)
set_option maxRecDepth 100000 in
theorem vmF_zero (l : List Ic) (k g : Int) (v : VS) (u : Nat) : vmF l k g 0 v u = (3, v.c, 0, u) := rfl
set_option maxRecDepth 100000 in
theorem vmF_go {l : List Ic} {k g : Int} {f : Nat} {v : VS} {u : Nat} (h : (do1 (l.getD v.p ic0) k g v).2.1 = 0) : vmF l k g (f + 1) v u = vmF l k g f (do1 (l.getD v.p ic0) k g v).1 (u + 1) := by
  conv => lhs; unfold vmF
  rw [if_pos h]
set_option maxRecDepth 100000 in
theorem vmF_ans {l : List Ic} {k g : Int} {f : Nat} {v : VS} {u : Nat} (h : (do1 (l.getD v.p ic0) k g v).2.1 = 1) : vmF l k g (f + 1) v u = (1, (do1 (l.getD v.p ic0) k g v).1.c, (do1 (l.getD v.p ic0) k g v).2.2, u + 1) := by
  conv => lhs; unfold vmF
  rw [if_neg (by rw [h]; decide), if_pos h]
set_option maxRecDepth 100000 in
theorem vmF_ref {l : List Ic} {k g : Int} {f : Nat} {v : VS} {u : Nat} (h : (do1 (l.getD v.p ic0) k g v).2.1 = 2) : vmF l k g (f + 1) v u = (2, v.c, 0, u + 1) := by
  conv => lhs; unfold vmF
  rw [if_neg (by rw [h]; decide), if_neg (by rw [h]; decide)]
set_option maxRecDepth 100000 in
/-- how it ends -/
theorem vmF_ends (l : List Ic) (k g : Int) : ∀ (f : Nat) (v : VS) (u : Nat),
    ((vmF l k g f v u).1 = 3 ∧ (vmF l k g f v u).2.2.2 = u + f) ∨
    (((vmF l k g f v u).1 = 1 ∨ (vmF l k g f v u).1 = 2) ∧ ∃ n, 1 ≤ n ∧ n ≤ f ∧ (vmF l k g f v u).2.2.2 = u + n ∧ (∀ e, n ≤ e → vmF l k g e v u = vmF l k g f v u) ∧ (vmF l k g (n - 1) v u).1 = 3 ∧ (vmF l k g (n - 1) v u).2.2.2 = u + (n - 1))
  | 0, v, u => .inl ⟨rfl, rfl⟩
  | f + 1, v, u => by
    rcases do1_over (l.getD v.p ic0) k g v with h | h | h
    · rw [vmF_go h]
      rcases vmF_ends l k g f (do1 (l.getD v.p ic0) k g v).1 (u + 1) with ⟨h1, h2⟩ | ⟨h1, n, n1, n2, n3, n4, n5, n6⟩
      · exact .inl ⟨h1, by rw [h2]; omega⟩
      · refine .inr ⟨h1, n + 1, by omega, by omega, by rw [n3]; omega, fun e he => ?_, ?_, ?_⟩
        · obtain ⟨e', rfl⟩ : ∃ e', e = e' + 1 := ⟨e - 1, by omega⟩
          rw [vmF_go h]; exact n4 e' (by omega)
        · rw [show n + 1 - 1 = n - 1 + 1 from by omega, vmF_go h]; exact n5
        · rw [show n + 1 - 1 = n - 1 + 1 from by omega, vmF_go h, n6]; omega
    · rw [vmF_ans h]
      refine .inr ⟨.inl rfl, 1, Nat.le_refl _, by omega, rfl, fun e he => ?_, rfl, rfl⟩
      obtain ⟨e', rfl⟩ : ∃ e', e = e' + 1 := ⟨e - 1, by omega⟩
      exact vmF_ans h
    · rw [vmF_ref h]
      refine .inr ⟨.inr rfl, 1, Nat.le_refl _, by omega, rfl, fun e he => ?_, rfl, rfl⟩
      obtain ⟨e', rfl⟩ : ∃ e', e = e' + 1 := ⟨e - 1, by omega⟩
      exact vmF_ref h
/-- what holds while code is done -/
structure VI (l : List Ic) (D : List Int) (v : VS) : Prop where
  pl : v.p < l.length
  dp : D.getD v.p (-1) = (v.s.length : Int)
  cl : v.c.length = 4
  cv : ∀ y ∈ v.c, V64 y
  sv : ∀ y ∈ v.s, V64 y
  mx : v.s.length ≤ 8
set_option maxRecDepth 100000 in
theorem w64_in (x : Int) : V64 (w64 x) := by unfold w64 V64; omega
set_option maxRecDepth 100000 in
theorem w64_id {x : Int} (h : V64 x) : w64 x = x := by unfold V64 at h; unfold w64; omega
set_option maxRecDepth 100000 in
theorem tdiv_in {a b : Int} (ha : V64 a) (hb : b ≠ 0) (hb1 : b ≠ -1) : V64 (a.tdiv b) := by
  have h1 := Int.natAbs_tdiv_le_natAbs a b
  unfold V64 at ha ⊢
  by_cases h : a = -9223372036854775808
  · subst h
    have h3 : (Int.tdiv (-9223372036854775808) b).natAbs < 9223372036854775808 ∨ b = 1 := by
      by_cases hb2 : b = 1
      · exact .inr hb2
      · left
        rw [Int.natAbs_tdiv]
        have : 2 ≤ b.natAbs := by omega
        have h5 : (9223372036854775808 : Nat) / b.natAbs ≤ 9223372036854775808 / 2 := Nat.div_le_div_left this (by decide)
        show (9223372036854775808 : Nat) / b.natAbs < _
        omega
    rcases h3 with h3 | h3
    · omega
    · subst h3; rw [Int.tdiv_one]; omega
  · omega
set_option maxRecDepth 100000 in
theorem tmod_in {a b : Int} (ha : V64 a) : V64 (a.tmod b) := by
  have h1 : (a.tmod b).natAbs ≤ a.natAbs := by rw [Int.natAbs_tmod]; exact Nat.mod_le _ _
  unfold V64 at ha ⊢
  by_cases h : 0 ≤ a
  · have := Int.tmod_nonneg b h
    omega
  · have h2 := Int.tmod_nonneg (a := -a) b (by omega)
    rw [Int.neg_tmod] at h2
    omega
set_option maxRecDepth 100000 in
theorem jnd_in {o a b y : Int} (ha : V64 a) (h : jnd o a b = some y) : V64 y := by
  unfold jnd at h
  by_cases h8 : o = 8
  · rw [if_pos h8] at h; cases h; exact w64_in _
  rw [if_neg h8] at h
  by_cases h9 : o = 9
  · rw [if_pos h9] at h; cases h; exact w64_in _
  rw [if_neg h9] at h
  by_cases h10 : o = 10
  · rw [if_pos h10] at h; cases h; exact w64_in _
  rw [if_neg h10] at h
  by_cases h13 : o = 13
  · rw [if_pos h13] at h; cases h; split <;> exact ⟨by decide, by decide⟩
  rw [if_neg h13] at h
  by_cases h14 : o = 14
  · rw [if_pos h14] at h; cases h; split <;> exact ⟨by decide, by decide⟩
  rw [if_neg h14] at h
  by_cases hb : b = 0
  · rw [if_pos hb] at h; cases h
  rw [if_neg hb] at h
  by_cases hb1 : b = -1
  · rw [if_pos hb1] at h
    by_cases h11 : o = 11
    · rw [if_pos h11] at h; cases h; exact w64_in _
    · rw [if_neg h11] at h; cases h; exact ⟨by decide, by decide⟩
  rw [if_neg hb1] at h
  by_cases h11 : o = 11
  · rw [if_pos h11] at h; cases h; exact tdiv_in ha hb hb1
  · rw [if_neg h11] at h; cases h; exact tmod_in ha
set_option maxRecDepth 100000 in
theorem off_len (v : VS) (k : Nat) : (off v k).length = v.s.length - k := by unfold off; rw [List.length_take]; omega
set_option maxRecDepth 100000 in
theorem off_in {v : VS} {k : Nat} {y : Int} (h : y ∈ off v k) : y ∈ v.s := List.mem_of_mem_take h
set_option maxRecDepth 100000 in
theorem tpB_in {v : VS} (h : ∀ y ∈ v.s, V64 y) : V64 (tpB v) := by
  unfold tpB
  by_cases e : v.s.length - 1 < v.s.length
  · rw [List.getD_eq_getElem?_getD, List.getElem?_eq_getElem e]; exact h _ (List.getElem_mem e)
  · rw [List.getD_eq_getElem?_getD, List.getElem?_eq_none (by omega)]; exact ⟨by decide, by decide⟩
set_option maxRecDepth 100000 in
theorem tpA_in {v : VS} (h : ∀ y ∈ v.s, V64 y) : V64 (tpA v) := by
  unfold tpA
  by_cases e : v.s.length - 2 < v.s.length
  · rw [List.getD_eq_getElem?_getD, List.getElem?_eq_getElem e]; exact h _ (List.getElem_mem e)
  · rw [List.getD_eq_getElem?_getD, List.getElem?_eq_none (by omega)]; exact ⟨by decide, by decide⟩
set_option maxRecDepth 100000 in
theorem cell_in {v : VS} (h : ∀ y ∈ v.c, V64 y) (i : Nat) : V64 (v.c.getD i 0) := by
  by_cases e : i < v.c.length
  · rw [List.getD_eq_getElem?_getD, List.getElem?_eq_getElem e]; exact h _ (List.getElem_mem e)
  · rw [List.getD_eq_getElem?_getD, List.getElem?_eq_none (by omega)]; exact ⟨by decide, by decide⟩
set_option maxRecDepth 100000 in
theorem do1_0 {x : Ic} {k g : Int} {v : VS} (h : x.o = 0) : do1 x k g v = (⟨v.c, v.s ++ [x.n], v.p + 1⟩, 0, 0) := by unfold do1; rw [if_pos h]
set_option maxRecDepth 100000 in
theorem do1_1 {x : Ic} {k g : Int} {v : VS} (h : x.o = 1) : do1 x k g v = (⟨v.c, off v 1, v.p + 1⟩, 0, 0) := by unfold do1; rw [if_neg (show ¬ x.o = 0 by omega), if_pos h]
set_option maxRecDepth 100000 in
theorem do1_2 {x : Ic} {k g : Int} {v : VS} (h : x.o = 2) : do1 x k g v = (⟨v.c, v.s ++ [tpB v], v.p + 1⟩, 0, 0) := by unfold do1; rw [if_neg (show ¬ x.o = 0 by omega), if_neg (show ¬ x.o = 1 by omega), if_pos h]
set_option maxRecDepth 100000 in
theorem do1_3 {x : Ic} {k g : Int} {v : VS} (h : x.o = 3) : do1 x k g v = (⟨v.c, off v 2 ++ [tpB v, tpA v], v.p + 1⟩, 0, 0) := by unfold do1; rw [if_neg (show ¬ x.o = 0 by omega), if_neg (show ¬ x.o = 1 by omega), if_neg (show ¬ x.o = 2 by omega), if_pos h]
set_option maxRecDepth 100000 in
theorem do1_4 {x : Ic} {k g : Int} {v : VS} (h : x.o = 4) : do1 x k g v = (⟨v.c, v.s ++ [v.c.getD x.n.toNat 0], v.p + 1⟩, 0, 0) := by unfold do1; rw [if_neg (show ¬ x.o = 0 by omega), if_neg (show ¬ x.o = 1 by omega), if_neg (show ¬ x.o = 2 by omega), if_neg (show ¬ x.o = 3 by omega), if_pos h]
set_option maxRecDepth 100000 in
theorem do1_5 {x : Ic} {k g : Int} {v : VS} (h : x.o = 5) : do1 x k g v = (⟨v.c.set x.n.toNat (tpB v), off v 1, v.p + 1⟩, 0, 0) := by unfold do1; rw [if_neg (show ¬ x.o = 0 by omega), if_neg (show ¬ x.o = 1 by omega), if_neg (show ¬ x.o = 2 by omega), if_neg (show ¬ x.o = 3 by omega), if_neg (show ¬ x.o = 4 by omega), if_pos h]
set_option maxRecDepth 100000 in
theorem do1_6 {x : Ic} {k g : Int} {v : VS} (h : x.o = 6) : do1 x k g v = (⟨v.c, v.s ++ [g], v.p + 1⟩, 0, 0) := by unfold do1; rw [if_neg (show ¬ x.o = 0 by omega), if_neg (show ¬ x.o = 1 by omega), if_neg (show ¬ x.o = 2 by omega), if_neg (show ¬ x.o = 3 by omega), if_neg (show ¬ x.o = 4 by omega), if_neg (show ¬ x.o = 5 by omega), if_pos h]
set_option maxRecDepth 100000 in
theorem do1_7 {x : Ic} {k g : Int} {v : VS} (h : x.o = 7) : do1 x k g v = (⟨v.c, v.s ++ [k], v.p + 1⟩, 0, 0) := by unfold do1; rw [if_neg (show ¬ x.o = 0 by omega), if_neg (show ¬ x.o = 1 by omega), if_neg (show ¬ x.o = 2 by omega), if_neg (show ¬ x.o = 3 by omega), if_neg (show ¬ x.o = 4 by omega), if_neg (show ¬ x.o = 5 by omega), if_neg (show ¬ x.o = 6 by omega), if_pos h]
set_option maxRecDepth 100000 in
theorem do1_15 {x : Ic} {k g : Int} {v : VS} (h : x.o = 15) : do1 x k g v = (⟨v.c, off v 1 ++ [if tpB v = 0 then 1 else 0], v.p + 1⟩, 0, 0) := by unfold do1; rw [if_neg (show ¬ x.o = 0 by omega), if_neg (show ¬ x.o = 1 by omega), if_neg (show ¬ x.o = 2 by omega), if_neg (show ¬ x.o = 3 by omega), if_neg (show ¬ x.o = 4 by omega), if_neg (show ¬ x.o = 5 by omega), if_neg (show ¬ x.o = 6 by omega), if_neg (show ¬ x.o = 7 by omega), if_pos h]
set_option maxRecDepth 100000 in
theorem do1_16 {x : Ic} {k g : Int} {v : VS} (h : x.o = 16) : do1 x k g v = (⟨v.c, v.s, x.n.toNat⟩, 0, 0) := by unfold do1; rw [if_neg (show ¬ x.o = 0 by omega), if_neg (show ¬ x.o = 1 by omega), if_neg (show ¬ x.o = 2 by omega), if_neg (show ¬ x.o = 3 by omega), if_neg (show ¬ x.o = 4 by omega), if_neg (show ¬ x.o = 5 by omega), if_neg (show ¬ x.o = 6 by omega), if_neg (show ¬ x.o = 7 by omega), if_neg (show ¬ x.o = 15 by omega), if_pos h]
set_option maxRecDepth 100000 in
theorem do1_17 {x : Ic} {k g : Int} {v : VS} (h : x.o = 17) : do1 x k g v = (⟨v.c, off v 1, (if tpB v = 0 then x.n.toNat else v.p + 1)⟩, 0, 0) := by unfold do1; rw [if_neg (show ¬ x.o = 0 by omega), if_neg (show ¬ x.o = 1 by omega), if_neg (show ¬ x.o = 2 by omega), if_neg (show ¬ x.o = 3 by omega), if_neg (show ¬ x.o = 4 by omega), if_neg (show ¬ x.o = 5 by omega), if_neg (show ¬ x.o = 6 by omega), if_neg (show ¬ x.o = 7 by omega), if_neg (show ¬ x.o = 15 by omega), if_neg (show ¬ x.o = 16 by omega), if_pos h]
set_option maxRecDepth 100000 in
theorem do1_18 {x : Ic} {k g : Int} {v : VS} (h : x.o = 18) : do1 x k g v = (⟨v.c, off v 1, v.p + 1⟩, 1, tpB v) := by unfold do1; rw [if_neg (show ¬ x.o = 0 by omega), if_neg (show ¬ x.o = 1 by omega), if_neg (show ¬ x.o = 2 by omega), if_neg (show ¬ x.o = 3 by omega), if_neg (show ¬ x.o = 4 by omega), if_neg (show ¬ x.o = 5 by omega), if_neg (show ¬ x.o = 6 by omega), if_neg (show ¬ x.o = 7 by omega), if_neg (show ¬ x.o = 15 by omega), if_neg (show ¬ x.o = 16 by omega), if_neg (show ¬ x.o = 17 by omega), if_pos h]
set_option maxRecDepth 100000 in
theorem do1_19 {x : Ic} {k g : Int} {v : VS} (h : x.o = 19) : do1 x k g v = (⟨v.c, v.s, v.p + 1⟩, 2, 0) := by unfold do1; rw [if_neg (show ¬ x.o = 0 by omega), if_neg (show ¬ x.o = 1 by omega), if_neg (show ¬ x.o = 2 by omega), if_neg (show ¬ x.o = 3 by omega), if_neg (show ¬ x.o = 4 by omega), if_neg (show ¬ x.o = 5 by omega), if_neg (show ¬ x.o = 6 by omega), if_neg (show ¬ x.o = 7 by omega), if_neg (show ¬ x.o = 15 by omega), if_neg (show ¬ x.o = 16 by omega), if_neg (show ¬ x.o = 17 by omega), if_neg (show ¬ x.o = 18 by omega), if_pos h]
set_option maxRecDepth 100000 in
theorem do1_jnd {x : Ic} {k g : Int} {v : VS} (h : 8 ≤ x.o ∧ x.o ≤ 14) : do1 x k g v = match jnd x.o (tpA v) (tpB v) with | some y => (⟨v.c, off v 2 ++ [y], v.p + 1⟩, 0, 0) | none => (⟨v.c, off v 2, v.p + 1⟩, 2, 0) := by unfold do1; rw [if_neg (show ¬ x.o = 0 by omega), if_neg (show ¬ x.o = 1 by omega), if_neg (show ¬ x.o = 2 by omega), if_neg (show ¬ x.o = 3 by omega), if_neg (show ¬ x.o = 4 by omega), if_neg (show ¬ x.o = 5 by omega), if_neg (show ¬ x.o = 6 by omega), if_neg (show ¬ x.o = 7 by omega), if_neg (show ¬ x.o = 15 by omega), if_neg (show ¬ x.o = 16 by omega), if_neg (show ¬ x.o = 17 by omega), if_neg (show ¬ x.o = 18 by omega), if_neg (show ¬ x.o = 19 by omega)]
set_option maxRecDepth 100000 in
/-- a step that goes on keeps all that holds -/
theorem VI.step {l : List Ic} {D : List Int} {v : VS} {k g : Int} (hF : Flow l D) (hc : ∀ q, q < l.length → canI l.length (l.getD q ic0) = true) (hn : ∀ q, q < l.length → V64 (l.getD q ic0).n) (hk : V64 k) (hg : V64 g) (h : VI l D v) (he : (do1 (l.getD v.p ic0) k g v).2.1 = 0) : VI l D (do1 (l.getD v.p ic0) k g v).1 := by
  have hx := canI_is (hc v.p h.pl)
  have hxn := hn v.p h.pl
  obtain ⟨f1, f2, f3, f4⟩ := hF.go h.pl hx (by omega) h.dp
  generalize l.getD v.p ic0 = x at hx hxn f1 f2 f3 f4 he ⊢
  have hB := tpB_in h.sv
  have hA := tpA_in h.sv
  have hO : ∀ {n : Nat} {y : Int}, y ∈ off v n → V64 y := fun hy => h.sv _ (off_in hy)
  have hmx := h.mx
  have h01 : V64 (if tpB v = 0 then 1 else 0) := by split <;> exact ⟨by decide, by decide⟩
  rcases op_cases hx with e | e | e | e | e | e | e | e | e | e | e | e | e | e | e | e | e | e | e | e
  · rw [e, show tkO 0 = 0 from rfl, show ptO 0 = 1 from rfl] at f2; rw [e, show tkO 0 = 0 from rfl] at f1
    have a := f3 (by rw [e]; exact .inl rfl)
    rw [e, show tkO 0 = 0 from rfl, show ptO 0 = 1 from rfl] at a
    rw [do1_0 e]
    refine ⟨a.1, ?_, h.cl, ?_, ?_, ?_⟩
    · show D.getD (v.p + 1) (-1) = _
      rw [a.2]; show _ = ((v.s ++ [x.n]).length : Int); rw [List.length_append, List.length_singleton]; omega
    · exact h.cv
    · exact fun y hy => by
        rcases List.mem_append.1 hy with hy | hy
        · exact h.sv y hy
        · rcases List.mem_cons.1 hy with e2 | hy
          · rw [e2]; exact hxn
          · cases hy
    · show (v.s ++ [x.n]).length ≤ 8; rw [List.length_append, List.length_singleton]; omega
  · rw [e, show tkO 1 = 1 from rfl, show ptO 1 = 0 from rfl] at f2; rw [e, show tkO 1 = 1 from rfl] at f1
    have a := f3 (by rw [e]; exact .inl rfl)
    rw [e, show tkO 1 = 1 from rfl, show ptO 1 = 0 from rfl] at a
    rw [do1_1 e]
    refine ⟨a.1, ?_, h.cl, ?_, ?_, ?_⟩
    · show D.getD (v.p + 1) (-1) = _
      rw [a.2]; show _ = ((off v 1).length : Int); rw [off_len]; omega
    · exact h.cv
    · exact fun y hy => hO hy
    · show (off v 1).length ≤ 8; rw [off_len]; omega
  · rw [e, show tkO 2 = 1 from rfl, show ptO 2 = 2 from rfl] at f2; rw [e, show tkO 2 = 1 from rfl] at f1
    have a := f3 (by rw [e]; exact .inl rfl)
    rw [e, show tkO 2 = 1 from rfl, show ptO 2 = 2 from rfl] at a
    rw [do1_2 e]
    refine ⟨a.1, ?_, h.cl, ?_, ?_, ?_⟩
    · show D.getD (v.p + 1) (-1) = _
      rw [a.2]; show _ = ((v.s ++ [tpB v]).length : Int); rw [List.length_append, List.length_singleton]; omega
    · exact h.cv
    · exact fun y hy => by
        rcases List.mem_append.1 hy with hy | hy
        · exact h.sv y hy
        · rcases List.mem_cons.1 hy with e2 | hy
          · rw [e2]; exact hB
          · cases hy
    · show (v.s ++ [tpB v]).length ≤ 8; rw [List.length_append, List.length_singleton]; omega
  · rw [e, show tkO 3 = 2 from rfl, show ptO 3 = 2 from rfl] at f2; rw [e, show tkO 3 = 2 from rfl] at f1
    have a := f3 (by rw [e]; exact .inl rfl)
    rw [e, show tkO 3 = 2 from rfl, show ptO 3 = 2 from rfl] at a
    rw [do1_3 e]
    refine ⟨a.1, ?_, h.cl, ?_, ?_, ?_⟩
    · show D.getD (v.p + 1) (-1) = _
      rw [a.2]; show _ = ((off v 2 ++ [tpB v, tpA v]).length : Int); rw [List.length_append, off_len]; show _ = ((v.s.length - 2 + 2 : Nat) : Int); omega
    · exact h.cv
    · exact fun y hy => by
        rcases List.mem_append.1 hy with hy | hy
        · exact hO hy
        · rcases List.mem_cons.1 hy with e2 | hy
          · rw [e2]; exact hB
          · rcases List.mem_cons.1 hy with e2 | hy
            · rw [e2]; exact hA
            · cases hy
    · show (off v 2 ++ [tpB v, tpA v]).length ≤ 8; rw [List.length_append, off_len]; show v.s.length - 2 + 2 ≤ 8; omega
  · rw [e, show tkO 4 = 0 from rfl, show ptO 4 = 1 from rfl] at f2; rw [e, show tkO 4 = 0 from rfl] at f1
    have a := f3 (by rw [e]; exact .inl rfl)
    rw [e, show tkO 4 = 0 from rfl, show ptO 4 = 1 from rfl] at a
    rw [do1_4 e]
    refine ⟨a.1, ?_, h.cl, ?_, ?_, ?_⟩
    · show D.getD (v.p + 1) (-1) = _
      rw [a.2]; show _ = ((v.s ++ [v.c.getD x.n.toNat 0]).length : Int); rw [List.length_append, List.length_singleton]; omega
    · exact h.cv
    · exact fun y hy => by
        rcases List.mem_append.1 hy with hy | hy
        · exact h.sv y hy
        · rcases List.mem_cons.1 hy with e2 | hy
          · rw [e2]; exact cell_in h.cv _
          · cases hy
    · show (v.s ++ [v.c.getD x.n.toNat 0]).length ≤ 8; rw [List.length_append, List.length_singleton]; omega
  · rw [e, show tkO 5 = 1 from rfl, show ptO 5 = 0 from rfl] at f2; rw [e, show tkO 5 = 1 from rfl] at f1
    have a := f3 (by rw [e]; exact .inl rfl)
    rw [e, show tkO 5 = 1 from rfl, show ptO 5 = 0 from rfl] at a
    rw [do1_5 e]
    refine ⟨a.1, ?_, by rw [List.length_set]; exact h.cl, ?_, ?_, ?_⟩
    · show D.getD (v.p + 1) (-1) = _
      rw [a.2]; show _ = ((off v 1).length : Int); rw [off_len]; omega
    · exact fun y hy => by
        rcases List.mem_or_eq_of_mem_set hy with hy | e2
        · exact h.cv y hy
        · rw [e2]; exact hB
    · exact fun y hy => hO hy
    · show (off v 1).length ≤ 8; rw [off_len]; omega
  · rw [e, show tkO 6 = 0 from rfl, show ptO 6 = 1 from rfl] at f2; rw [e, show tkO 6 = 0 from rfl] at f1
    have a := f3 (by rw [e]; exact .inl rfl)
    rw [e, show tkO 6 = 0 from rfl, show ptO 6 = 1 from rfl] at a
    rw [do1_6 e]
    refine ⟨a.1, ?_, h.cl, ?_, ?_, ?_⟩
    · show D.getD (v.p + 1) (-1) = _
      rw [a.2]; show _ = ((v.s ++ [g]).length : Int); rw [List.length_append, List.length_singleton]; omega
    · exact h.cv
    · exact fun y hy => by
        rcases List.mem_append.1 hy with hy | hy
        · exact h.sv y hy
        · rcases List.mem_cons.1 hy with e2 | hy
          · rw [e2]; exact hg
          · cases hy
    · show (v.s ++ [g]).length ≤ 8; rw [List.length_append, List.length_singleton]; omega
  · rw [e, show tkO 7 = 0 from rfl, show ptO 7 = 1 from rfl] at f2; rw [e, show tkO 7 = 0 from rfl] at f1
    have a := f3 (by rw [e]; exact .inl rfl)
    rw [e, show tkO 7 = 0 from rfl, show ptO 7 = 1 from rfl] at a
    rw [do1_7 e]
    refine ⟨a.1, ?_, h.cl, ?_, ?_, ?_⟩
    · show D.getD (v.p + 1) (-1) = _
      rw [a.2]; show _ = ((v.s ++ [k]).length : Int); rw [List.length_append, List.length_singleton]; omega
    · exact h.cv
    · exact fun y hy => by
        rcases List.mem_append.1 hy with hy | hy
        · exact h.sv y hy
        · rcases List.mem_cons.1 hy with e2 | hy
          · rw [e2]; exact hk
          · cases hy
    · show (v.s ++ [k]).length ≤ 8; rw [List.length_append, List.length_singleton]; omega
  · rw [e, show tkO 8 = 2 from rfl, show ptO 8 = 1 from rfl] at f2; rw [e, show tkO 8 = 2 from rfl] at f1
    have a := f3 (by rw [e]; exact .inl rfl)
    rw [e, show tkO 8 = 2 from rfl, show ptO 8 = 1 from rfl] at a
    rw [do1_jnd (by omega)] at he ⊢
    cases hj : jnd x.o (tpA v) (tpB v) with
    | none => rw [hj] at he; cases he
    | some y =>
      refine ⟨a.1, ?_, h.cl, h.cv, fun z hz => ?_, ?_⟩
      · show D.getD (v.p + 1) (-1) = ((off v 2 ++ [y]).length : Int)
        rw [a.2, List.length_append, off_len, List.length_singleton]; omega
      · rcases List.mem_append.1 hz with hz | hz
        · exact hO hz
        · rcases List.mem_cons.1 hz with e2 | hz
          · rw [e2]; exact jnd_in hA hj
          · cases hz
      · show (off v 2 ++ [y]).length ≤ 8; rw [List.length_append, off_len, List.length_singleton]; omega
  · rw [e, show tkO 9 = 2 from rfl, show ptO 9 = 1 from rfl] at f2; rw [e, show tkO 9 = 2 from rfl] at f1
    have a := f3 (by rw [e]; exact .inl rfl)
    rw [e, show tkO 9 = 2 from rfl, show ptO 9 = 1 from rfl] at a
    rw [do1_jnd (by omega)] at he ⊢
    cases hj : jnd x.o (tpA v) (tpB v) with
    | none => rw [hj] at he; cases he
    | some y =>
      refine ⟨a.1, ?_, h.cl, h.cv, fun z hz => ?_, ?_⟩
      · show D.getD (v.p + 1) (-1) = ((off v 2 ++ [y]).length : Int)
        rw [a.2, List.length_append, off_len, List.length_singleton]; omega
      · rcases List.mem_append.1 hz with hz | hz
        · exact hO hz
        · rcases List.mem_cons.1 hz with e2 | hz
          · rw [e2]; exact jnd_in hA hj
          · cases hz
      · show (off v 2 ++ [y]).length ≤ 8; rw [List.length_append, off_len, List.length_singleton]; omega
  · rw [e, show tkO 10 = 2 from rfl, show ptO 10 = 1 from rfl] at f2; rw [e, show tkO 10 = 2 from rfl] at f1
    have a := f3 (by rw [e]; exact .inl rfl)
    rw [e, show tkO 10 = 2 from rfl, show ptO 10 = 1 from rfl] at a
    rw [do1_jnd (by omega)] at he ⊢
    cases hj : jnd x.o (tpA v) (tpB v) with
    | none => rw [hj] at he; cases he
    | some y =>
      refine ⟨a.1, ?_, h.cl, h.cv, fun z hz => ?_, ?_⟩
      · show D.getD (v.p + 1) (-1) = ((off v 2 ++ [y]).length : Int)
        rw [a.2, List.length_append, off_len, List.length_singleton]; omega
      · rcases List.mem_append.1 hz with hz | hz
        · exact hO hz
        · rcases List.mem_cons.1 hz with e2 | hz
          · rw [e2]; exact jnd_in hA hj
          · cases hz
      · show (off v 2 ++ [y]).length ≤ 8; rw [List.length_append, off_len, List.length_singleton]; omega
  · rw [e, show tkO 11 = 2 from rfl, show ptO 11 = 1 from rfl] at f2; rw [e, show tkO 11 = 2 from rfl] at f1
    have a := f3 (by rw [e]; exact .inl rfl)
    rw [e, show tkO 11 = 2 from rfl, show ptO 11 = 1 from rfl] at a
    rw [do1_jnd (by omega)] at he ⊢
    cases hj : jnd x.o (tpA v) (tpB v) with
    | none => rw [hj] at he; cases he
    | some y =>
      refine ⟨a.1, ?_, h.cl, h.cv, fun z hz => ?_, ?_⟩
      · show D.getD (v.p + 1) (-1) = ((off v 2 ++ [y]).length : Int)
        rw [a.2, List.length_append, off_len, List.length_singleton]; omega
      · rcases List.mem_append.1 hz with hz | hz
        · exact hO hz
        · rcases List.mem_cons.1 hz with e2 | hz
          · rw [e2]; exact jnd_in hA hj
          · cases hz
      · show (off v 2 ++ [y]).length ≤ 8; rw [List.length_append, off_len, List.length_singleton]; omega
  · rw [e, show tkO 12 = 2 from rfl, show ptO 12 = 1 from rfl] at f2; rw [e, show tkO 12 = 2 from rfl] at f1
    have a := f3 (by rw [e]; exact .inl rfl)
    rw [e, show tkO 12 = 2 from rfl, show ptO 12 = 1 from rfl] at a
    rw [do1_jnd (by omega)] at he ⊢
    cases hj : jnd x.o (tpA v) (tpB v) with
    | none => rw [hj] at he; cases he
    | some y =>
      refine ⟨a.1, ?_, h.cl, h.cv, fun z hz => ?_, ?_⟩
      · show D.getD (v.p + 1) (-1) = ((off v 2 ++ [y]).length : Int)
        rw [a.2, List.length_append, off_len, List.length_singleton]; omega
      · rcases List.mem_append.1 hz with hz | hz
        · exact hO hz
        · rcases List.mem_cons.1 hz with e2 | hz
          · rw [e2]; exact jnd_in hA hj
          · cases hz
      · show (off v 2 ++ [y]).length ≤ 8; rw [List.length_append, off_len, List.length_singleton]; omega
  · rw [e, show tkO 13 = 2 from rfl, show ptO 13 = 1 from rfl] at f2; rw [e, show tkO 13 = 2 from rfl] at f1
    have a := f3 (by rw [e]; exact .inl rfl)
    rw [e, show tkO 13 = 2 from rfl, show ptO 13 = 1 from rfl] at a
    rw [do1_jnd (by omega)] at he ⊢
    cases hj : jnd x.o (tpA v) (tpB v) with
    | none => rw [hj] at he; cases he
    | some y =>
      refine ⟨a.1, ?_, h.cl, h.cv, fun z hz => ?_, ?_⟩
      · show D.getD (v.p + 1) (-1) = ((off v 2 ++ [y]).length : Int)
        rw [a.2, List.length_append, off_len, List.length_singleton]; omega
      · rcases List.mem_append.1 hz with hz | hz
        · exact hO hz
        · rcases List.mem_cons.1 hz with e2 | hz
          · rw [e2]; exact jnd_in hA hj
          · cases hz
      · show (off v 2 ++ [y]).length ≤ 8; rw [List.length_append, off_len, List.length_singleton]; omega
  · rw [e, show tkO 14 = 2 from rfl, show ptO 14 = 1 from rfl] at f2; rw [e, show tkO 14 = 2 from rfl] at f1
    have a := f3 (by rw [e]; exact .inl rfl)
    rw [e, show tkO 14 = 2 from rfl, show ptO 14 = 1 from rfl] at a
    rw [do1_jnd (by omega)] at he ⊢
    cases hj : jnd x.o (tpA v) (tpB v) with
    | none => rw [hj] at he; cases he
    | some y =>
      refine ⟨a.1, ?_, h.cl, h.cv, fun z hz => ?_, ?_⟩
      · show D.getD (v.p + 1) (-1) = ((off v 2 ++ [y]).length : Int)
        rw [a.2, List.length_append, off_len, List.length_singleton]; omega
      · rcases List.mem_append.1 hz with hz | hz
        · exact hO hz
        · rcases List.mem_cons.1 hz with e2 | hz
          · rw [e2]; exact jnd_in hA hj
          · cases hz
      · show (off v 2 ++ [y]).length ≤ 8; rw [List.length_append, off_len, List.length_singleton]; omega
  · rw [e, show tkO 15 = 1 from rfl, show ptO 15 = 1 from rfl] at f2; rw [e, show tkO 15 = 1 from rfl] at f1
    have a := f3 (by rw [e]; exact .inl rfl)
    rw [e, show tkO 15 = 1 from rfl, show ptO 15 = 1 from rfl] at a
    rw [do1_15 e]
    refine ⟨a.1, ?_, h.cl, ?_, ?_, ?_⟩
    · show D.getD (v.p + 1) (-1) = _
      rw [a.2]; show _ = ((off v 1 ++ [if tpB v = 0 then 1 else 0]).length : Int); rw [List.length_append, off_len, List.length_singleton]; omega
    · exact h.cv
    · exact fun y hy => by
        rcases List.mem_append.1 hy with hy | hy
        · exact hO hy
        · rcases List.mem_cons.1 hy with e2 | hy
          · rw [e2]; exact h01
          · cases hy
    · show (off v 1 ++ [if tpB v = 0 then 1 else 0]).length ≤ 8; rw [List.length_append, off_len, List.length_singleton]; omega
  · rw [e, show tkO 16 = 0 from rfl, show ptO 16 = 0 from rfl] at f2; rw [e, show tkO 16 = 0 from rfl] at f1
    have a := f4 (by rw [e]; exact .inl rfl)
    rw [e, show tkO 16 = 0 from rfl, show ptO 16 = 0 from rfl] at a
    rw [do1_16 e]
    exact ⟨a.1, by show D.getD x.n.toNat (-1) = _; rw [a.2]; show _ = (v.s.length : Int); omega, h.cl, h.cv, h.sv, h.mx⟩
  · rw [e, show tkO 17 = 1 from rfl, show ptO 17 = 0 from rfl] at f2; rw [e, show tkO 17 = 1 from rfl] at f1
    have a := f4 (by rw [e]; exact .inr rfl)
    have a2 := f3 (by rw [e]; exact .inr rfl)
    rw [e, show tkO 17 = 1 from rfl, show ptO 17 = 0 from rfl] at a a2
    rw [do1_17 e]
    refine ⟨?_, ?_, h.cl, h.cv, fun y hy => hO hy, ?_⟩
    · show (if tpB v = 0 then x.n.toNat else v.p + 1) < l.length
      split
      · exact a.1
      · exact a2.1
    · show D.getD (if tpB v = 0 then x.n.toNat else v.p + 1) (-1) = ((off v 1).length : Int)
      rw [off_len]
      split
      · rw [a.2]; omega
      · rw [a2.2]; omega
    · show (off v 1).length ≤ 8; rw [off_len]; omega
  · rw [do1_18 e] at he; cases he
  · rw [do1_19 e] at he; cases he
set_option maxRecDepth 100000 in
theorem vi_zero {l : List Ic} {D : List Int} (hF : Flow l D) (hl : 1 ≤ l.length) {S : List Int} (hS : S.length = 4) (hv : ∀ y ∈ S, V64 y) : VI l D (vs0 S) := ⟨by show 0 < l.length; omega, by show D.getD 0 (-1) = 0; exact hF.d0, hS, hv, fun y hy => (by cases hy), Nat.zero_le _⟩
end Go.Proofs.Ytbjeeefkbmdmfaa
namespace Go.Proofs.Ytbjeeefkbmdmfaa
open Go.RowKit
set_option linter.unusedVariables false

set_option maxRecDepth 100000 in
theorem stpV_no {l : List Ic} {S : List Int} {k g f : Int} (h : (thr l).2.2 ≠ 0) : stpV l S k g f = (4, [0, 0, 0, 0], 0, 0) := by unfold stpV; rw [if_pos h]
/-- a step of code that fits together -/
def stpO' (S : List Int) (r : Int × List Int × Int × Nat) : Int × List Int × Int × Int := if r.1 = 1 then (1, r.2.1, r.2.2.1, (r.2.2.2 : Int)) else (r.1, S, 0, (r.2.2.2 : Int))
set_option maxRecDepth 100000 in
theorem stpV_yes {l : List Ic} {S : List Int} {k g f : Int} (h : (thr l).2.2 = 0) : stpV l S k g f = stpO' S (vmF l k g f.toNat (vs0 S) 0) := by unfold stpV stpO'; rw [if_neg (fun k => k h)]
set_option maxRecDepth 100000 in
/-- fuel: what is used; with more the same; with less it lacks -/
theorem stpV_fuel {l : List Ic} {S : List Int} {k g f : Int} (h : (thr l).2.2 = 0) :
    ((stpV l S k g f).1 = 3 ∧ stpV l S k g f = (3, S, 0, (f.toNat : Int))) ∨
    (((stpV l S k g f).1 = 1 ∨ ((stpV l S k g f).1 = 2 ∧ (stpV l S k g f).2.1 = S ∧ (stpV l S k g f).2.2.1 = 0)) ∧ ∃ n : Nat, 1 ≤ n ∧ n ≤ f.toNat ∧ (stpV l S k g f).2.2.2 = (n : Int) ∧ (∀ e : Int, (n : Int) ≤ e → stpV l S k g e = stpV l S k g f) ∧ stpV l S k g ((n : Int) - 1) = (3, S, 0, (n : Int) - 1)) := by
  rw [stpV_yes h]
  rcases vmF_ends l k g f.toNat (vs0 S) 0 with ⟨h1, h2⟩ | ⟨h1, n, n1, n2, n3, n4, n5, n6⟩
  · left
    unfold stpO'
    rw [h1, if_neg (by decide), h2, Nat.zero_add]
    exact ⟨rfl, rfl⟩
  · right
    refine ⟨?_, n, n1, n2, ?_, fun e he => ?_, ?_⟩
    · unfold stpO'
      rcases h1 with h1 | h1
      · rw [h1, if_pos rfl]; exact .inl rfl
      · rw [h1, if_neg (by decide)]; exact .inr ⟨rfl, rfl, rfl⟩
    · unfold stpO'
      split
      · show ((vmF l k g f.toNat (vs0 S) 0).2.2.2 : Int) = _; rw [n3, Nat.zero_add]
      · show ((vmF l k g f.toNat (vs0 S) 0).2.2.2 : Int) = _; rw [n3, Nat.zero_add]
    · rw [stpV_yes h, n4 e.toNat (by omega)]
    · rw [stpV_yes h, show ((n : Int) - 1).toNat = n - 1 from by omega]
      unfold stpO'
      rw [n5, if_neg (by decide), n6, Nat.zero_add, show ((n - 1 : Nat) : Int) = (n : Int) - 1 from by omega]
set_option maxRecDepth 100000 in
/-- what two numbers make, by code -/
theorem sums_thr (a : Int) {o : Int} (h : 8 ≤ o ∧ o ≤ 14) : (thr [⟨0, a⟩, ⟨6, 0⟩, ⟨o, 0⟩, ⟨18, 0⟩]).2.2 = 0 := by
  have : o = 8 ∨ o = 9 ∨ o = 10 ∨ o = 11 ∨ o = 12 ∨ o = 13 ∨ o = 14 := by omega
  rcases this with e | e | e | e | e | e | e <;> subst e <;> (show _ = _; kernel_rfl)
set_option maxRecDepth 100000 in
theorem sums_run (a b : Int) {o : Int} (h : 8 ≤ o ∧ o ≤ 14) : stpV [⟨0, a⟩, ⟨6, 0⟩, ⟨o, 0⟩, ⟨18, 0⟩] [0, 0, 0, 0] 0 b 9 = match jnd o a b with | some y => (1, [0, 0, 0, 0], y, 4) | none => (2, [0, 0, 0, 0], 0, 3) := by
  rw [stpV_yes (sums_thr a h)]
  have e0 : do1 (([⟨0, a⟩, ⟨6, 0⟩, ⟨o, 0⟩, ⟨18, 0⟩] : List Ic).getD (vs0 [0, 0, 0, 0]).p ic0) 0 b (vs0 [0, 0, 0, 0]) = (⟨[0, 0, 0, 0], [a], 1⟩, 0, 0) := do1_0 rfl
  have e1 : do1 (([⟨0, a⟩, ⟨6, 0⟩, ⟨o, 0⟩, ⟨18, 0⟩] : List Ic).getD (⟨[0, 0, 0, 0], [a], 1⟩ : VS).p ic0) 0 b ⟨[0, 0, 0, 0], [a], 1⟩ = (⟨[0, 0, 0, 0], [a, b], 2⟩, 0, 0) := do1_6 rfl
  have e2 : do1 (([⟨0, a⟩, ⟨6, 0⟩, ⟨o, 0⟩, ⟨18, 0⟩] : List Ic).getD (⟨[0, 0, 0, 0], [a, b], 2⟩ : VS).p ic0) 0 b ⟨[0, 0, 0, 0], [a, b], 2⟩ = match jnd o a b with | some y => (⟨[0, 0, 0, 0], [y], 3⟩, 0, 0) | none => (⟨[0, 0, 0, 0], [], 3⟩, 2, 0) := do1_jnd (x := ⟨o, 0⟩) h
  show stpO' _ (vmF _ 0 b (8 + 1) _ 0) = _
  rw [vmF_go (by rw [e0]), e0]
  show stpO' _ (vmF _ 0 b (7 + 1) _ (0 + 1)) = _
  rw [vmF_go (by rw [e1]), e1]
  show stpO' _ (vmF _ 0 b (6 + 1) _ (0 + 1 + 1)) = _
  cases hj : jnd o a b with
  | none =>
    rw [hj] at e2
    rw [vmF_ref (by rw [e2])]; rfl
  | some y =>
    rw [hj] at e2
    rw [vmF_go (by rw [e2]), e2]
    have e3 : do1 (([⟨0, a⟩, ⟨6, 0⟩, ⟨o, 0⟩, ⟨18, 0⟩] : List Ic).getD (⟨[0, 0, 0, 0], [y], 3⟩ : VS).p ic0) 0 b ⟨[0, 0, 0, 0], [y], 3⟩ = (⟨[0, 0, 0, 0], [], 4⟩, 1, y) := do1_18 rfl
    show stpO' _ (vmF _ 0 b (5 + 1) _ (0 + 1 + 1 + 1)) = _
    rw [vmF_ans (by rw [e3]), e3]; rfl
set_option maxRecDepth 100000 in
/-- by, and what is left -/
theorem quo_facts {a b : Int} (ha : V64 a) (hb : V64 b) (h0 : b ≠ 0) : ∃ q r, jnd 11 a b = some q ∧ jnd 12 a b = some r ∧ V64 q ∧ V64 r ∧ w64 (w64 (q * b) + r) = a ∧ (r = 0 ∨ (r < 0 ↔ a < 0)) ∧ ((0 ≤ r ∧ (r < b ∨ b < -r)) ∨ (r < 0 ∧ (b < r ∨ -r < b))) ∧ -9223372036854775807 ≤ r := by
  by_cases h1 : b = -1
  · subst h1
    refine ⟨w64 (-a), 0, rfl, rfl, w64_in _, ⟨by decide, by decide⟩, ?_, .inl rfl, .inl ⟨by decide, .inr (by decide)⟩, by decide⟩
    unfold V64 at ha
    unfold w64
    omega
  · have e1 : jnd 11 a b = some (a.tdiv b) := by unfold jnd; simp [h0, h1]
    have e2 : jnd 12 a b = some (a.tmod b) := by unfold jnd; simp [h0, h1]
    have hm := Int.tdiv_mul_add_tmod a b
    have hab : (a.tmod b).natAbs < b.natAbs := by rw [Int.natAbs_tmod]; exact Nat.mod_lt _ (by omega)
    have hle : (a.tmod b).natAbs ≤ a.natAbs := by rw [Int.natAbs_tmod]; exact Nat.mod_le _ _
    have hs : (0 ≤ a → 0 ≤ a.tmod b) ∧ (a ≤ 0 → a.tmod b ≤ 0) := by
      refine ⟨fun h => Int.tmod_nonneg b h, fun h => ?_⟩
      have h2 := Int.tmod_nonneg (a := -a) b (by omega)
      rw [Int.neg_tmod] at h2
      omega
    have hq := tdiv_in ha h0 h1
    have hr := tmod_in (b := b) ha
    refine ⟨_, _, e1, e2, hq, hr, ?_, ?_, ?_, ?_⟩
    · generalize a.tdiv b * b = m at hm
      generalize a.tmod b = r at *
      unfold V64 at *
      unfold w64
      omega
    · generalize a.tmod b = r at *; omega
    · generalize a.tmod b = r at *; unfold V64 at hb; omega
    · generalize a.tmod b = r at *; unfold V64 at hb; omega
set_option maxRecDepth 100000 in
/-- what is stored is loaded -/
theorem cells_run (S : List Int) (hS : S.length = 4) {p q : Int} (hp : 0 ≤ p ∧ p ≤ 3) (hq : 0 ≤ q ∧ q ≤ 3) (x : Int) : (thr [⟨6, 0⟩, ⟨5, p⟩, ⟨4, q⟩, ⟨18, 0⟩]).2.2 = 0 ∧ stpV [⟨6, 0⟩, ⟨5, p⟩, ⟨4, q⟩, ⟨18, 0⟩] S 3 x 4 = (1, S.set p.toNat x, (S.set p.toNat x).getD q.toNat 0, 4) := by
  have ht : (thr [⟨6, 0⟩, ⟨5, p⟩, ⟨4, q⟩, ⟨18, 0⟩]).2.2 = 0 := by
    have e1 : p = 0 ∨ p = 1 ∨ p = 2 ∨ p = 3 := by omega
    have e2 : q = 0 ∨ q = 1 ∨ q = 2 ∨ q = 3 := by omega
    rcases e1 with e | e | e | e <;> rcases e2 with f | f | f | f <;> subst e <;> subst f <;> rfl
  refine ⟨ht, ?_⟩
  rw [stpV_yes ht]
  have e0 : do1 (([⟨6, 0⟩, ⟨5, p⟩, ⟨4, q⟩, ⟨18, 0⟩] : List Ic).getD (vs0 S).p ic0) 3 x (vs0 S) = (⟨S, [x], 1⟩, 0, 0) := do1_6 rfl
  have e1 : do1 (([⟨6, 0⟩, ⟨5, p⟩, ⟨4, q⟩, ⟨18, 0⟩] : List Ic).getD (⟨S, [x], 1⟩ : VS).p ic0) 3 x ⟨S, [x], 1⟩ = (⟨S.set p.toNat x, [], 2⟩, 0, 0) := do1_5 rfl
  have e2 : do1 (([⟨6, 0⟩, ⟨5, p⟩, ⟨4, q⟩, ⟨18, 0⟩] : List Ic).getD (⟨S.set p.toNat x, [], 2⟩ : VS).p ic0) 3 x ⟨S.set p.toNat x, [], 2⟩ = (⟨S.set p.toNat x, [(S.set p.toNat x).getD q.toNat 0], 3⟩, 0, 0) := do1_4 rfl
  have e3 : do1 (([⟨6, 0⟩, ⟨5, p⟩, ⟨4, q⟩, ⟨18, 0⟩] : List Ic).getD (⟨S.set p.toNat x, [(S.set p.toNat x).getD q.toNat 0], 3⟩ : VS).p ic0) 3 x ⟨S.set p.toNat x, [(S.set p.toNat x).getD q.toNat 0], 3⟩ = (⟨S.set p.toNat x, [], 4⟩, 1, (S.set p.toNat x).getD q.toNat 0) := do1_18 rfl
  show stpO' _ (vmF _ 3 x (3 + 1) _ 0) = _
  rw [vmF_go (by rw [e0]), e0]
  show stpO' _ (vmF _ 3 x (2 + 1) _ (0 + 1)) = _
  rw [vmF_go (by rw [e1]), e1]
  show stpO' _ (vmF _ 3 x (1 + 1) _ (0 + 1 + 1)) = _
  rw [vmF_go (by rw [e2]), e2]
  show stpO' _ (vmF _ 3 x (0 + 1) _ (0 + 1 + 1 + 1)) = _
  rw [vmF_ans (by rw [e3]), e3]; rfl
end Go.Proofs.Ytbjeeefkbmdmfaa
namespace Go.Proofs.Ytbjeeefkbmdmfaa
open Go.RowKit
set_option linter.unusedVariables false

set_option maxRecDepth 100000 in
theorem do1_c (x : Ic) (k g : Int) (v : VS) : (do1 x k g v).1.c = v.c ∨ (do1 x k g v).1.c = v.c.set x.n.toNat (tpB v) := by
  unfold do1
  by_cases h0 : x.o = 0
  · rw [if_pos h0]; exact .inl rfl
  rw [if_neg h0]
  by_cases h1 : x.o = 1
  · rw [if_pos h1]; exact .inl rfl
  rw [if_neg h1]
  by_cases h2 : x.o = 2
  · rw [if_pos h2]; exact .inl rfl
  rw [if_neg h2]
  by_cases h3 : x.o = 3
  · rw [if_pos h3]; exact .inl rfl
  rw [if_neg h3]
  by_cases h4 : x.o = 4
  · rw [if_pos h4]; exact .inl rfl
  rw [if_neg h4]
  by_cases h5 : x.o = 5
  · rw [if_pos h5]; exact .inr rfl
  rw [if_neg h5]
  by_cases h6 : x.o = 6
  · rw [if_pos h6]; exact .inl rfl
  rw [if_neg h6]
  by_cases h7 : x.o = 7
  · rw [if_pos h7]; exact .inl rfl
  rw [if_neg h7]
  by_cases h15 : x.o = 15
  · rw [if_pos h15]; exact .inl rfl
  rw [if_neg h15]
  by_cases h16 : x.o = 16
  · rw [if_pos h16]; exact .inl rfl
  rw [if_neg h16]
  by_cases h17 : x.o = 17
  · rw [if_pos h17]; exact .inl rfl
  rw [if_neg h17]
  by_cases h18 : x.o = 18
  · rw [if_pos h18]; exact .inl rfl
  rw [if_neg h18]
  by_cases h19 : x.o = 19
  · rw [if_pos h19]; exact .inl rfl
  rw [if_neg h19]
  cases jnd x.o (tpA v) (tpB v) with
  | some y => exact .inl rfl
  | none => exact .inl rfl
set_option maxRecDepth 100000 in
theorem do1_cv {x : Ic} {k g : Int} {v : VS} (h1 : ∀ y ∈ v.c, V64 y) (h2 : ∀ y ∈ v.s, V64 y) : ∀ y ∈ (do1 x k g v).1.c, V64 y := by
  intro y hy
  rcases do1_c x k g v with e | e
  · rw [e] at hy; exact h1 y hy
  · rw [e] at hy
    rcases List.mem_or_eq_of_mem_set hy with hy | rfl
    · exact h1 y hy
    · exact tpB_in h2
set_option maxRecDepth 100000 in
theorem vmF_cv {l : List Ic} {D : List Int} {k g : Int} (hF : Flow l D) (hc : ∀ q, q < l.length → canI l.length (l.getD q ic0) = true) (hn : ∀ q, q < l.length → V64 (l.getD q ic0).n) (hk : V64 k) (hg : V64 g) : ∀ (f : Nat) (v : VS) (u : Nat), VI l D v → ∀ y ∈ (vmF l k g f v u).2.1, V64 y
  | 0, v, u, h => h.cv
  | f + 1, v, u, h => by
    rcases do1_over (l.getD v.p ic0) k g v with e | e | e
    · rw [vmF_go e]; exact vmF_cv hF hc hn hk hg f _ _ (h.step hF hc hn hk hg e)
    · rw [vmF_ans e]; exact do1_cv h.cv h.sv
    · rw [vmF_ref e]; exact h.cv
set_option maxRecDepth 100000 in
/-- the cells behind a step -/
theorem stpV_cv {l : List Ic} (h : (thr l).2.2 = 0) (hl : ∀ x ∈ l, V64 x.n) {S : List Int} (hS : S.length = 4) (hv : ∀ y ∈ S, V64 y) {k g : Int} (hk : V64 k) (hg : V64 g) (f : Int) : ∀ y ∈ (stpV l S k g f).2.1, V64 y := by
  obtain ⟨h1, _, h3, h4⟩ := thr_flow h
  rw [stpV_yes h]
  unfold stpO'
  split
  · exact vmF_cv h4 h3 (fun q hq => by rw [List.getD_eq_getElem?_getD, List.getElem?_eq_getElem hq]; exact hl _ (List.getElem_mem hq)) hk hg _ _ _ (vi_zero h4 h1 hS hv)
  · exact hv
set_option maxRecDepth 100000 in
theorem four_in {a b c d : Int} (h : ∀ y ∈ [a, b, c, d], V64 y) : V64 a ∧ V64 b ∧ V64 c ∧ V64 d := ⟨h a (by simp), h b (by simp), h c (by simp), h d (by simp)⟩
set_option maxRecDepth 100000 in
theorem in_four {a b c d : Int} (h : V64 a ∧ V64 b ∧ V64 c ∧ V64 d) : ∀ y ∈ [a, b, c, d], V64 y := fun y hy => by
  simp only [List.mem_cons, List.not_mem_nil, or_false] at hy
  rcases hy with rfl | rfl | rfl | rfl
  · exact h.1
  · exact h.2.1
  · exact h.2.2.1
  · exact h.2.2.2
end Go.Proofs.Ytbjeeefkbmdmfaa
namespace Go.Proofs.Ytbjeeefkbmdmfaa
open Go.RowKit
set_option linter.unusedVariables false

/-- the operation at a place of an order -/
def opAt (ops : List Opr) (x : Int) : Opr := ops.getD x.toNat op0
/-- a number of an order is a place, and stands there once -/
def okN (m : Nat) (o : List Int) (i : Nat) : Bool := decide (0 ≤ o.getD i 0) && decide (o.getD i 0 < (m : Int)) && !(o.take i).contains (o.getD i 0)
def ordA (m : Nat) (o : List Int) : Bool := (List.range o.length).all (okN m o)
/-- one that is done does not stand there -/
def ordN (ops : List Opr) (o : List Int) : Bool := (List.range ops.length).any (fun i => (ops.getD i op0).d && !o.contains (i : Int))
/-- one stands ahead of one that is before it -/
def ordT (ops : List Opr) (o : List Int) : Bool := (List.range o.length).any (fun i => (List.range o.length).any (fun k => decide (i < k) && befO (opAt ops (o.getD k 0)) (opAt ops (o.getD i 0))))
/-- one by one -/
def doesF (l : List Ic) (f : Int) (ops : List Opr) : List Int → List Int → Int
  | [], _ => 0
  | x :: t, S => if (stpV l S (opAt ops x).o (opAt ops x).a f).1 ≠ 1 then 18 else
    if (opAt ops x).d = true ∧ (opAt ops x).r ≠ (stpV l S (opAt ops x).o (opAt ops x).a f).2.2.1 then 19 else
    doesF l f ops t (stpV l S (opAt ops x).o (opAt ops x).a f).2.1
def Z4 : List Int := [0, 0, 0, 0]
def ordE (l : List Ic) (f : Int) (ops : List Opr) (o : List Int) : Int :=
  if (thr l).2.2 ≠ 0 then (thr l).2.2 else if f < 0 ∨ 10000 < f then 2 else if 64 < ops.length then 5 else
  if ordA ops.length o = false then 2 else if ordN ops o = true then 9 else if ordT ops o = true then 17 else doesF l f ops o Z4
set_option maxRecDepth 100000 in
theorem ordA_iff {m : Nat} {o : List Int} : ordA m o = true ↔ ∀ i, i < o.length → 0 ≤ o.getD i 0 ∧ o.getD i 0 < (m : Int) ∧ ¬ o.getD i 0 ∈ o.take i := by
  unfold ordA okN
  rw [List.all_eq_true]
  constructor
  · intro h i hi
    have := h i (List.mem_range.2 hi)
    simp only [Bool.and_eq_true, decide_eq_true_eq, Bool.not_eq_true', List.contains_eq_mem, decide_eq_false_iff_not] at this
    exact ⟨this.1.1, this.1.2, this.2⟩
  · intro h i hi
    obtain ⟨h1, h2, h3⟩ := h i (List.mem_range.1 hi)
    simp only [Bool.and_eq_true, decide_eq_true_eq, Bool.not_eq_true', List.contains_eq_mem, decide_eq_false_iff_not]
    exact ⟨⟨h1, h2⟩, h3⟩
set_option maxRecDepth 100000 in
theorem ordN_iff {ops : List Opr} {o : List Int} : ordN ops o = false ↔ ∀ i, i < ops.length → (ops.getD i op0).d = true → (i : Int) ∈ o := by
  unfold ordN
  rw [List.any_eq_false]
  constructor
  · intro h i hi hd
    have := h i (List.mem_range.2 hi)
    rw [hd] at this
    simp only [Bool.true_and, Bool.not_eq_true', Bool.not_eq_false, List.contains_eq_mem, decide_eq_true_eq] at this
    simpa using this
  · intro h i hi hc
    simp only [Bool.and_eq_true, Bool.not_eq_true', List.contains_eq_mem, decide_eq_false_iff_not] at hc
    exact hc.2 (h i (List.mem_range.1 hi) hc.1)
set_option maxRecDepth 100000 in
theorem ordT_iff {ops : List Opr} {o : List Int} : ordT ops o = false ↔ ∀ i k, i < k → k < o.length → befO (opAt ops (o.getD k 0)) (opAt ops (o.getD i 0)) = false := by
  unfold ordT
  rw [List.any_eq_false]
  constructor
  · intro h i k hik hk
    have := h i (List.mem_range.2 (by omega))
    rw [Bool.not_eq_true, List.any_eq_false] at this
    have := this k (List.mem_range.2 hk)
    rw [decide_eq_true hik] at this
    simpa using this
  · intro h i hi hc
    rw [List.any_eq_true] at hc
    obtain ⟨k, hk, hc⟩ := hc
    simp only [Bool.and_eq_true, decide_eq_true_eq] at hc
    rw [h i k hc.1 (List.mem_range.1 hk)] at hc
    cases hc.2
/-- what it is to be an order -/
structure Ord (l : List Ic) (f : Int) (ops : List Opr) (o : List Int) : Prop where
  code : (thr l).2.2 = 0
  fuel : 0 ≤ f ∧ f ≤ 10000
  few : ops.length ≤ 64
  pl : ordA ops.length o = true
  all : ordN ops o = false
  time : ordT ops o = false
  does : doesF l f ops o Z4 = 0
set_option maxRecDepth 100000 in
theorem ordE_ok {l : List Ic} {f : Int} {ops : List Opr} {o : List Int} : ordE l f ops o = 0 ↔ Ord l f ops o := by
  unfold ordE
  constructor
  · intro h
    by_cases h1 : (thr l).2.2 ≠ 0
    · rw [if_pos h1] at h; exact absurd h h1
    rw [if_neg h1] at h
    by_cases h2 : f < 0 ∨ 10000 < f
    · rw [if_pos h2] at h; cases h
    rw [if_neg h2] at h
    by_cases h3 : 64 < ops.length
    · rw [if_pos h3] at h; cases h
    rw [if_neg h3] at h
    by_cases h4 : ordA ops.length o = false
    · rw [if_pos h4] at h; cases h
    rw [if_neg h4] at h
    by_cases h5 : ordN ops o = true
    · rw [if_pos h5] at h; cases h
    rw [if_neg h5] at h
    by_cases h6 : ordT ops o = true
    · rw [if_pos h6] at h; cases h
    rw [if_neg h6] at h
    exact ⟨Classical.byContradiction h1, by omega, by omega, by simpa using h4, by simpa using h5, by simpa using h6, h⟩
  · intro h
    rw [if_neg (fun k => k h.code), if_neg (by have := h.fuel; omega), if_neg (by have := h.few; omega), if_neg (by rw [h.pl]; decide), if_neg (by rw [h.all]; decide), if_neg (by rw [h.time]; decide)]
    exact h.does
set_option maxRecDepth 100000 in
/-- a step that was answered is so with more fuel -/
theorem stp_more {l : List Ic} {S : List Int} {k g f e : Int} (h : (thr l).2.2 = 0) (hk : (stpV l S k g f).1 ≠ 3) (he : f ≤ e) : stpV l S k g e = stpV l S k g f := by
  rcases stpV_fuel (S := S) (k := k) (g := g) (f := f) h with ⟨h1, _⟩ | ⟨_, n, _, n2, _, n4, _⟩
  · exact absurd h1 hk
  · exact n4 e (by omega)
set_option maxRecDepth 100000 in
theorem does_more {l : List Ic} {f e : Int} {ops : List Opr} (h : (thr l).2.2 = 0) (he : f ≤ e) : ∀ (o : List Int) (S : List Int), doesF l f ops o S = 18 ∨ doesF l e ops o S = doesF l f ops o S
  | [], _ => .inr rfl
  | x :: t, S => by
    unfold doesF
    by_cases h1 : (stpV l S (opAt ops x).o (opAt ops x).a f).1 ≠ 1
    · left; rw [if_pos h1]
    · have hk : (stpV l S (opAt ops x).o (opAt ops x).a f).1 = 1 := Classical.byContradiction h1
      rw [stp_more h (by rw [hk]; decide) he, if_neg h1, if_neg h1]
      by_cases h2 : (opAt ops x).d = true ∧ (opAt ops x).r ≠ (stpV l S (opAt ops x).o (opAt ops x).a f).2.2.1
      · right; rw [if_pos h2, if_pos h2]
      · rw [if_neg h2, if_neg h2]
        exact does_more h he t _
set_option maxRecDepth 100000 in
theorem does_kinds {l : List Ic} {f : Int} {ops : List Opr} : ∀ (o : List Int) (S : List Int), doesF l f ops o S = 0 ∨ doesF l f ops o S = 18 ∨ doesF l f ops o S = 19
  | [], _ => .inl rfl
  | x :: t, S => by
    unfold doesF
    split
    · exact .inr (.inl rfl)
    · split
      · exact .inr (.inr rfl)
      · exact does_kinds t _
set_option maxRecDepth 100000 in
/-- more fuel takes no order away -/
theorem ord_more {l : List Ic} {f e : Int} {ops : List Opr} {o : List Int} (hf : 0 ≤ f) (he : f ≤ e) (h4 : e ≤ 10000) : ordE l f ops o = 18 ∨ ordE l e ops o = ordE l f ops o := by
  unfold ordE
  by_cases h1 : (thr l).2.2 ≠ 0
  · right; rw [if_pos h1, if_pos h1]
  rw [if_neg h1, if_neg h1, if_neg (show ¬ (f < 0 ∨ 10000 < f) by omega), if_neg (show ¬ (e < 0 ∨ 10000 < e) by omega)]
  by_cases g1 : 64 < ops.length
  · right; rw [if_pos g1, if_pos g1]
  rw [if_neg g1, if_neg g1]
  by_cases g2 : ordA ops.length o = false
  · right; rw [if_pos g2, if_pos g2]
  rw [if_neg g2, if_neg g2]
  by_cases g3 : ordN ops o = true
  · right; rw [if_pos g3, if_pos g3]
  rw [if_neg g3, if_neg g3]
  by_cases g4 : ordT ops o = true
  · right; rw [if_pos g4, if_pos g4]
  rw [if_neg g4, if_neg g4]
  exact does_more (Classical.byContradiction h1) he o Z4
/-- two that stand next to one another change places -/
def swp (o : List Int) (p : Nat) : List Int := (o.set p (o.getD (p + 1) 0)).set (p + 1) (o.getD p 0)
set_option maxRecDepth 100000 in
theorem swp_len (o : List Int) (p : Nat) : (swp o p).length = o.length := by unfold swp; rw [List.length_set, List.length_set]
set_option maxRecDepth 100000 in
theorem swp_get (o : List Int) (p : Nat) (hp : p + 1 < o.length) (i : Nat) : (swp o p).getD i 0 = if i = p then o.getD (p + 1) 0 else if i = p + 1 then o.getD p 0 else o.getD i 0 := by
  unfold swp
  by_cases h1 : i = p + 1
  · subst h1
    rw [List.getD_eq_getElem?_getD, List.getElem?_set_self (by rw [List.length_set]; exact hp), if_neg (by omega), if_pos rfl]; rfl
  · rw [List.getD_eq_getElem?_getD, List.getElem?_set_ne (fun e => h1 e.symm)]
    by_cases h2 : i = p
    · subst h2
      rw [List.getElem?_set_self (by omega), if_pos rfl]; rfl
    · rw [List.getElem?_set_ne (fun e => h2 e.symm), if_neg h2, if_neg h1, ← List.getD_eq_getElem?_getD]
/-- where a place goes when two change places -/
def swi (p i : Nat) : Nat := if i = p then p + 1 else if i = p + 1 then p else i
set_option maxRecDepth 100000 in
theorem swp_swi (o : List Int) (p : Nat) (hp : p + 1 < o.length) (i : Nat) : (swp o p).getD i 0 = o.getD (swi p i) 0 := by
  rw [swp_get o p hp i]
  unfold swi
  split
  · rfl
  · split <;> rfl
set_option maxRecDepth 100000 in
theorem swi_lt {p i n : Nat} (hp : p + 1 < n) (hi : i < n) : swi p i < n := by unfold swi; split; omega; split <;> omega
set_option maxRecDepth 100000 in
theorem swi_inj {p i k : Nat} (h : swi p i = swi p k) : i = k := by
  unfold swi at h
  by_cases h1 : i = p <;> by_cases h2 : i = p + 1 <;> by_cases h3 : k = p <;> by_cases h4 : k = p + 1 <;> simp [h1, h2, h3, h4] at h <;> omega
set_option maxRecDepth 100000 in
theorem in_take {o : List Int} {i : Nat} {x : Int} (h : x ∈ o.take i) : ∃ k, k < i ∧ k < o.length ∧ o.getD k 0 = x := by
  obtain ⟨k, hk, e⟩ := List.getElem_of_mem h
  rw [List.length_take] at hk
  refine ⟨k, by omega, by omega, ?_⟩
  rw [List.getElem_take] at e
  rw [List.getD_eq_getElem?_getD, List.getElem?_eq_getElem (by omega)]; exact e
set_option maxRecDepth 100000 in
theorem ordA_inj {m : Nat} {o : List Int} (h : ordA m o = true) {i k : Nat} (hi : i < o.length) (hk : k < o.length) (e : o.getD i 0 = o.getD k 0) : i = k := by
  have key : ∀ {i k : Nat}, i < k → k < o.length → o.getD i 0 ≠ o.getD k 0 := fun {i k} hik hk e => by
    refine (ordA_iff.1 h k hk).2.2 ?_
    rw [← e]
    rw [List.getD_eq_getElem?_getD, List.getElem?_eq_getElem (by omega)]
    exact List.mem_take_iff_getElem.2 ⟨i, by omega, rfl⟩
  rcases Nat.lt_trichotomy i k with h1 | h1 | h1
  · exact absurd e (key h1 hk)
  · exact h1
  · exact absurd e.symm (key h1 hi)
set_option maxRecDepth 100000 in
theorem ordA_of {m : Nat} {o : List Int} (h1 : ∀ i, i < o.length → 0 ≤ o.getD i 0 ∧ o.getD i 0 < (m : Int)) (h2 : ∀ i k, i < o.length → k < o.length → o.getD i 0 = o.getD k 0 → i = k) : ordA m o = true := by
  refine ordA_iff.2 fun i hi => ⟨(h1 i hi).1, (h1 i hi).2, fun hm => ?_⟩
  obtain ⟨k, hk, hk2, e⟩ := in_take hm
  have := h2 k i hk2 hi e
  omega
set_option maxRecDepth 100000 in
theorem swp_mem {o : List Int} {p : Nat} (hp : p + 1 < o.length) {x : Int} (h : x ∈ o) : x ∈ swp o p := by
  obtain ⟨k, hk, e⟩ := List.getElem_of_mem h
  have e2 : o.getD k 0 = x := by rw [List.getD_eq_getElem?_getD, List.getElem?_eq_getElem hk]; exact e
  have hs : swi p (swi p k) = k := by
    unfold swi
    by_cases h1 : k = p <;> by_cases h2 : k = p + 1 <;> simp [h1, h2] <;> omega
  have h3 := swp_swi o p hp (swi p k)
  rw [hs, e2] at h3
  have hl : swi p k < (swp o p).length := by rw [swp_len]; exact swi_lt hp hk
  rw [List.getD_eq_getElem?_getD, List.getElem?_eq_getElem hl] at h3
  rw [← h3]; exact List.getElem_mem hl
set_option maxRecDepth 100000 in
/-- as far as time goes -/
theorem ord_swap {l : List Ic} {f : Int} {ops : List Opr} {o : List Int} (h : Ord l f ops o) {p : Nat} (hp : p + 1 < o.length) :
    (befO (opAt ops (o.getD p 0)) (opAt ops (o.getD (p + 1) 0)) = true → ordE l f ops (swp o p) = 17) ∧
    (befO (opAt ops (o.getD p 0)) (opAt ops (o.getD (p + 1) 0)) = false → ordE l f ops (swp o p) = doesF l f ops (swp o p) Z4) := by
  have hA : ordA ops.length (swp o p) = true := by
    refine ordA_of (fun i hi => ?_) (fun i k hi hk e => ?_)
    · rw [swp_len] at hi
      rw [swp_swi o p hp i]
      have := ordA_iff.1 h.pl _ (swi_lt hp hi)
      exact ⟨this.1, this.2.1⟩
    · rw [swp_len] at hi hk
      rw [swp_swi o p hp i, swp_swi o p hp k] at e
      exact swi_inj (ordA_inj h.pl (swi_lt hp hi) (swi_lt hp hk) e)
  have hN : ordN ops (swp o p) = false := ordN_iff.2 fun i hi hd => swp_mem hp (ordN_iff.1 h.all i hi hd)
  have hE : ordE l f ops (swp o p) = if ordT ops (swp o p) = true then 17 else doesF l f ops (swp o p) Z4 := by
    unfold ordE
    rw [if_neg (fun k => k h.code), if_neg (by have := h.fuel; omega), if_neg (by have := h.few; omega), if_neg (by rw [hA]; decide), if_neg (by rw [hN]; decide)]
  have ht := ordT_iff.1 h.time
  constructor
  · intro hb
    rw [hE, if_pos]
    cases hT : ordT ops (swp o p) with
    | true => rfl
    | false =>
      have := ordT_iff.1 hT p (p + 1) (by omega) (by rw [swp_len]; exact hp)
      rw [swp_get o p hp, swp_get o p hp, if_neg (by omega), if_pos rfl, if_pos rfl, hb] at this
      cases this
  · intro hb
    rw [hE, if_neg]
    rw [Bool.not_eq_true]
    refine ordT_iff.2 fun i k hik hk => ?_
    rw [swp_len] at hk
    rw [swp_swi o p hp i, swp_swi o p hp k]
    by_cases hx : i = p ∧ k = p + 1
    · rw [hx.1, hx.2]
      have e1 : swi p p = p + 1 := by unfold swi; rw [if_pos rfl]
      have e2 : swi p (p + 1) = p := by unfold swi; rw [if_neg (by omega), if_pos rfl]
      rw [e1, e2]; exact hb
    · refine ht _ _ ?_ (swi_lt hp hk)
      unfold swi
      by_cases h1 : i = p <;> by_cases h2 : i = p + 1 <;> by_cases h3 : k = p <;> by_cases h4 : k = p + 1 <;> simp [h1, h2, h3, h4] <;> omega
end Go.Proofs.Ytbjeeefkbmdmfaa
