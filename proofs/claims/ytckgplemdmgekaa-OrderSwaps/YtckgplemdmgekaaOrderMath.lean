/- Whether an order of operations is one. No walk. -/
import Derived.Test.YtckgplemdmgekaaVmLaws
import Derived.Test.YtckgplemdmgekaaHOpr
namespace Go.Proofs.Ytckgplemdmgekaa
open Go.RowKit
set_option linter.unusedVariables false

/-- the operation at a place of an order -/
def opAt (ops : List Opr) (x : Int) : Opr := ops.getD x.toNat op0
/-- a number of an order is a place, and stands there once -/
def okN (m : Nat) (o : List Int) (i : Nat) : Bool := decide (0 ≤ o.getD i 0) && decide (o.getD i 0 < (m : Int)) && !(o.take i).contains (o.getD i 0)
def ordA (m : Nat) (o : List Int) : Bool := (List.range o.length).all (okN m o)
/-- one that is done does not stand there -/
def ordN (ops : List Opr) (o : List Int) : Bool := (List.range ops.length).any (fun i => (ops.getD i op0).d && !o.contains (i : Int))
/-- one stands ahead of one that is before it -/
def ordT (ops : List Opr) (o : List Int) : Bool := (List.range o.length).any (fun i => (List.range o.length).any (fun k => decide (i < k) && befO (opAt ops (o.getD k 0)) (opAt ops (o.getD i 0))))
/-- one by one -/
def doesF (l : List Ic) (f : Int) (ops : List Opr) : List Int → List Int → Int
  | [], _ => 0
  | x :: t, S => if (stpV l S (opAt ops x).o (opAt ops x).a f).1 ≠ 1 then 18 else
    if (opAt ops x).d = true ∧ (opAt ops x).r ≠ (stpV l S (opAt ops x).o (opAt ops x).a f).2.2.1 then 19 else
    doesF l f ops t (stpV l S (opAt ops x).o (opAt ops x).a f).2.1
def Z4 : List Int := [0, 0, 0, 0]
def ordE (l : List Ic) (f : Int) (ops : List Opr) (o : List Int) : Int :=
  if (thr l).2.2 ≠ 0 then (thr l).2.2 else if f < 0 ∨ 10000 < f then 2 else if 64 < ops.length then 5 else
  if ordA ops.length o = false then 2 else if ordN ops o = true then 9 else if ordT ops o = true then 17 else doesF l f ops o Z4
set_option maxRecDepth 100000 in
theorem ordA_iff {m : Nat} {o : List Int} : ordA m o = true ↔ ∀ i, i < o.length → 0 ≤ o.getD i 0 ∧ o.getD i 0 < (m : Int) ∧ ¬ o.getD i 0 ∈ o.take i := by
  unfold ordA okN
  rw [List.all_eq_true]
  constructor
  · intro h i hi
    have := h i (List.mem_range.2 hi)
    simp only [Bool.and_eq_true, decide_eq_true_eq, Bool.not_eq_true', List.contains_eq_mem, decide_eq_false_iff_not] at this
    exact ⟨this.1.1, this.1.2, this.2⟩
  · intro h i hi
    obtain ⟨h1, h2, h3⟩ := h i (List.mem_range.1 hi)
    simp only [Bool.and_eq_true, decide_eq_true_eq, Bool.not_eq_true', List.contains_eq_mem, decide_eq_false_iff_not]
    exact ⟨⟨h1, h2⟩, h3⟩
set_option maxRecDepth 100000 in
theorem ordN_iff {ops : List Opr} {o : List Int} : ordN ops o = false ↔ ∀ i, i < ops.length → (ops.getD i op0).d = true → (i : Int) ∈ o := by
  unfold ordN
  rw [List.any_eq_false]
  constructor
  · intro h i hi hd
    have := h i (List.mem_range.2 hi)
    rw [hd] at this
    simp only [Bool.true_and, Bool.not_eq_true', Bool.not_eq_false, List.contains_eq_mem, decide_eq_true_eq] at this
    simpa using this
  · intro h i hi hc
    simp only [Bool.and_eq_true, Bool.not_eq_true', List.contains_eq_mem, decide_eq_false_iff_not] at hc
    exact hc.2 (h i (List.mem_range.1 hi) hc.1)
set_option maxRecDepth 100000 in
theorem ordT_iff {ops : List Opr} {o : List Int} : ordT ops o = false ↔ ∀ i k, i < k → k < o.length → befO (opAt ops (o.getD k 0)) (opAt ops (o.getD i 0)) = false := by
  unfold ordT
  rw [List.any_eq_false]
  constructor
  · intro h i k hik hk
    have := h i (List.mem_range.2 (by omega))
    rw [Bool.not_eq_true, List.any_eq_false] at this
    have := this k (List.mem_range.2 hk)
    rw [decide_eq_true hik] at this
    simpa using this
  · intro h i hi hc
    rw [List.any_eq_true] at hc
    obtain ⟨k, hk, hc⟩ := hc
    simp only [Bool.and_eq_true, decide_eq_true_eq] at hc
    rw [h i k hc.1 (List.mem_range.1 hk)] at hc
    cases hc.2
/-- what it is to be an order -/
structure Ord (l : List Ic) (f : Int) (ops : List Opr) (o : List Int) : Prop where
  code : (thr l).2.2 = 0
  fuel : 0 ≤ f ∧ f ≤ 10000
  few : ops.length ≤ 64
  pl : ordA ops.length o = true
  all : ordN ops o = false
  time : ordT ops o = false
  does : doesF l f ops o Z4 = 0
set_option maxRecDepth 100000 in
theorem ordE_ok {l : List Ic} {f : Int} {ops : List Opr} {o : List Int} : ordE l f ops o = 0 ↔ Ord l f ops o := by
  unfold ordE
  constructor
  · intro h
    by_cases h1 : (thr l).2.2 ≠ 0
    · rw [if_pos h1] at h; exact absurd h h1
    rw [if_neg h1] at h
    by_cases h2 : f < 0 ∨ 10000 < f
    · rw [if_pos h2] at h; cases h
    rw [if_neg h2] at h
    by_cases h3 : 64 < ops.length
    · rw [if_pos h3] at h; cases h
    rw [if_neg h3] at h
    by_cases h4 : ordA ops.length o = false
    · rw [if_pos h4] at h; cases h
    rw [if_neg h4] at h
    by_cases h5 : ordN ops o = true
    · rw [if_pos h5] at h; cases h
    rw [if_neg h5] at h
    by_cases h6 : ordT ops o = true
    · rw [if_pos h6] at h; cases h
    rw [if_neg h6] at h
    exact ⟨Classical.byContradiction h1, by omega, by omega, by simpa using h4, by simpa using h5, by simpa using h6, h⟩
  · intro h
    rw [if_neg (fun k => k h.code), if_neg (by have := h.fuel; omega), if_neg (by have := h.few; omega), if_neg (by rw [h.pl]; decide), if_neg (by rw [h.all]; decide), if_neg (by rw [h.time]; decide)]
    exact h.does
set_option maxRecDepth 100000 in
/-- a step that was answered is so with more fuel -/
theorem stp_more {l : List Ic} {S : List Int} {k g f e : Int} (h : (thr l).2.2 = 0) (hk : (stpV l S k g f).1 ≠ 3) (he : f ≤ e) : stpV l S k g e = stpV l S k g f := by
  rcases stpV_fuel (S := S) (k := k) (g := g) (f := f) h with ⟨h1, _⟩ | ⟨_, n, _, n2, _, n4, _⟩
  · exact absurd h1 hk
  · exact n4 e (by omega)
set_option maxRecDepth 100000 in
theorem does_more {l : List Ic} {f e : Int} {ops : List Opr} (h : (thr l).2.2 = 0) (he : f ≤ e) : ∀ (o : List Int) (S : List Int), doesF l f ops o S = 18 ∨ doesF l e ops o S = doesF l f ops o S
  | [], _ => .inr rfl
  | x :: t, S => by
    unfold doesF
    by_cases h1 : (stpV l S (opAt ops x).o (opAt ops x).a f).1 ≠ 1
    · left; rw [if_pos h1]
    · have hk : (stpV l S (opAt ops x).o (opAt ops x).a f).1 = 1 := Classical.byContradiction h1
      rw [stp_more h (by rw [hk]; decide) he, if_neg h1, if_neg h1]
      by_cases h2 : (opAt ops x).d = true ∧ (opAt ops x).r ≠ (stpV l S (opAt ops x).o (opAt ops x).a f).2.2.1
      · right; rw [if_pos h2, if_pos h2]
      · rw [if_neg h2, if_neg h2]
        exact does_more h he t _
set_option maxRecDepth 100000 in
theorem does_kinds {l : List Ic} {f : Int} {ops : List Opr} : ∀ (o : List Int) (S : List Int), doesF l f ops o S = 0 ∨ doesF l f ops o S = 18 ∨ doesF l f ops o S = 19
  | [], _ => .inl rfl
  | x :: t, S => by
    unfold doesF
    split
    · exact .inr (.inl rfl)
    · split
      · exact .inr (.inr rfl)
      · exact does_kinds t _
set_option maxRecDepth 100000 in
/-- more fuel takes no order away -/
theorem ord_more {l : List Ic} {f e : Int} {ops : List Opr} {o : List Int} (hf : 0 ≤ f) (he : f ≤ e) (h4 : e ≤ 10000) : ordE l f ops o = 18 ∨ ordE l e ops o = ordE l f ops o := by
  unfold ordE
  by_cases h1 : (thr l).2.2 ≠ 0
  · right; rw [if_pos h1, if_pos h1]
  rw [if_neg h1, if_neg h1, if_neg (show ¬ (f < 0 ∨ 10000 < f) by omega), if_neg (show ¬ (e < 0 ∨ 10000 < e) by omega)]
  by_cases g1 : 64 < ops.length
  · right; rw [if_pos g1, if_pos g1]
  rw [if_neg g1, if_neg g1]
  by_cases g2 : ordA ops.length o = false
  · right; rw [if_pos g2, if_pos g2]
  rw [if_neg g2, if_neg g2]
  by_cases g3 : ordN ops o = true
  · right; rw [if_pos g3, if_pos g3]
  rw [if_neg g3, if_neg g3]
  by_cases g4 : ordT ops o = true
  · right; rw [if_pos g4, if_pos g4]
  rw [if_neg g4, if_neg g4]
  exact does_more (Classical.byContradiction h1) he o Z4
/-- two that stand next to one another change places -/
def swp (o : List Int) (p : Nat) : List Int := (o.set p (o.getD (p + 1) 0)).set (p + 1) (o.getD p 0)
set_option maxRecDepth 100000 in
theorem swp_len (o : List Int) (p : Nat) : (swp o p).length = o.length := by unfold swp; rw [List.length_set, List.length_set]
set_option maxRecDepth 100000 in
theorem swp_get (o : List Int) (p : Nat) (hp : p + 1 < o.length) (i : Nat) : (swp o p).getD i 0 = if i = p then o.getD (p + 1) 0 else if i = p + 1 then o.getD p 0 else o.getD i 0 := by
  unfold swp
  by_cases h1 : i = p + 1
  · subst h1
    rw [List.getD_eq_getElem?_getD, List.getElem?_set_self (by rw [List.length_set]; exact hp), if_neg (by omega), if_pos rfl]; rfl
  · rw [List.getD_eq_getElem?_getD, List.getElem?_set_ne (fun e => h1 e.symm)]
    by_cases h2 : i = p
    · subst h2
      rw [List.getElem?_set_self (by omega), if_pos rfl]; rfl
    · rw [List.getElem?_set_ne (fun e => h2 e.symm), if_neg h2, if_neg h1, ← List.getD_eq_getElem?_getD]
/-- where a place goes when two change places -/
def swi (p i : Nat) : Nat := if i = p then p + 1 else if i = p + 1 then p else i
set_option maxRecDepth 100000 in
theorem swp_swi (o : List Int) (p : Nat) (hp : p + 1 < o.length) (i : Nat) : (swp o p).getD i 0 = o.getD (swi p i) 0 := by
  rw [swp_get o p hp i]
  unfold swi
  split
  · rfl
  · split <;> rfl
set_option maxRecDepth 100000 in
theorem swi_lt {p i n : Nat} (hp : p + 1 < n) (hi : i < n) : swi p i < n := by unfold swi; split; omega; split <;> omega
set_option maxRecDepth 100000 in
theorem swi_inj {p i k : Nat} (h : swi p i = swi p k) : i = k := by
  unfold swi at h
  by_cases h1 : i = p <;> by_cases h2 : i = p + 1 <;> by_cases h3 : k = p <;> by_cases h4 : k = p + 1 <;> simp [h1, h2, h3, h4] at h <;> omega
set_option maxRecDepth 100000 in
theorem in_take {o : List Int} {i : Nat} {x : Int} (h : x ∈ o.take i) : ∃ k, k < i ∧ k < o.length ∧ o.getD k 0 = x := by
  obtain ⟨k, hk, e⟩ := List.getElem_of_mem h
  rw [List.length_take] at hk
  refine ⟨k, by omega, by omega, ?_⟩
  rw [List.getElem_take] at e
  rw [List.getD_eq_getElem?_getD, List.getElem?_eq_getElem (by omega)]; exact e
set_option maxRecDepth 100000 in
theorem ordA_inj {m : Nat} {o : List Int} (h : ordA m o = true) {i k : Nat} (hi : i < o.length) (hk : k < o.length) (e : o.getD i 0 = o.getD k 0) : i = k := by
  have key : ∀ {i k : Nat}, i < k → k < o.length → o.getD i 0 ≠ o.getD k 0 := fun {i k} hik hk e => by
    refine (ordA_iff.1 h k hk).2.2 ?_
    rw [← e]
    rw [List.getD_eq_getElem?_getD, List.getElem?_eq_getElem (by omega)]
    exact List.mem_take_iff_getElem.2 ⟨i, by omega, rfl⟩
  rcases Nat.lt_trichotomy i k with h1 | h1 | h1
  · exact absurd e (key h1 hk)
  · exact h1
  · exact absurd e.symm (key h1 hi)
set_option maxRecDepth 100000 in
theorem ordA_of {m : Nat} {o : List Int} (h1 : ∀ i, i < o.length → 0 ≤ o.getD i 0 ∧ o.getD i 0 < (m : Int)) (h2 : ∀ i k, i < o.length → k < o.length → o.getD i 0 = o.getD k 0 → i = k) : ordA m o = true := by
  refine ordA_iff.2 fun i hi => ⟨(h1 i hi).1, (h1 i hi).2, fun hm => ?_⟩
  obtain ⟨k, hk, hk2, e⟩ := in_take hm
  have := h2 k i hk2 hi e
  omega
set_option maxRecDepth 100000 in
theorem swp_mem {o : List Int} {p : Nat} (hp : p + 1 < o.length) {x : Int} (h : x ∈ o) : x ∈ swp o p := by
  obtain ⟨k, hk, e⟩ := List.getElem_of_mem h
  have e2 : o.getD k 0 = x := by rw [List.getD_eq_getElem?_getD, List.getElem?_eq_getElem hk]; exact e
  have hs : swi p (swi p k) = k := by
    unfold swi
    by_cases h1 : k = p <;> by_cases h2 : k = p + 1 <;> simp [h1, h2] <;> omega
  have h3 := swp_swi o p hp (swi p k)
  rw [hs, e2] at h3
  have hl : swi p k < (swp o p).length := by rw [swp_len]; exact swi_lt hp hk
  rw [List.getD_eq_getElem?_getD, List.getElem?_eq_getElem hl] at h3
  rw [← h3]; exact List.getElem_mem hl
set_option maxRecDepth 100000 in
/-- as far as time goes -/
theorem ord_swap {l : List Ic} {f : Int} {ops : List Opr} {o : List Int} (h : Ord l f ops o) {p : Nat} (hp : p + 1 < o.length) :
    (befO (opAt ops (o.getD p 0)) (opAt ops (o.getD (p + 1) 0)) = true → ordE l f ops (swp o p) = 17) ∧
    (befO (opAt ops (o.getD p 0)) (opAt ops (o.getD (p + 1) 0)) = false → ordE l f ops (swp o p) = doesF l f ops (swp o p) Z4) := by
  have hA : ordA ops.length (swp o p) = true := by
    refine ordA_of (fun i hi => ?_) (fun i k hi hk e => ?_)
    · rw [swp_len] at hi
      rw [swp_swi o p hp i]
      have := ordA_iff.1 h.pl _ (swi_lt hp hi)
      exact ⟨this.1, this.2.1⟩
    · rw [swp_len] at hi hk
      rw [swp_swi o p hp i, swp_swi o p hp k] at e
      exact swi_inj (ordA_inj h.pl (swi_lt hp hi) (swi_lt hp hk) e)
  have hN : ordN ops (swp o p) = false := ordN_iff.2 fun i hi hd => swp_mem hp (ordN_iff.1 h.all i hi hd)
  have hE : ordE l f ops (swp o p) = if ordT ops (swp o p) = true then 17 else doesF l f ops (swp o p) Z4 := by
    unfold ordE
    rw [if_neg (fun k => k h.code), if_neg (by have := h.fuel; omega), if_neg (by have := h.few; omega), if_neg (by rw [hA]; decide), if_neg (by rw [hN]; decide)]
  have ht := ordT_iff.1 h.time
  constructor
  · intro hb
    rw [hE, if_pos]
    cases hT : ordT ops (swp o p) with
    | true => rfl
    | false =>
      have := ordT_iff.1 hT p (p + 1) (by omega) (by rw [swp_len]; exact hp)
      rw [swp_get o p hp, swp_get o p hp, if_neg (by omega), if_pos rfl, if_pos rfl, hb] at this
      cases this
  · intro hb
    rw [hE, if_neg]
    rw [Bool.not_eq_true]
    refine ordT_iff.2 fun i k hik hk => ?_
    rw [swp_len] at hk
    rw [swp_swi o p hp i, swp_swi o p hp k]
    by_cases hx : i = p ∧ k = p + 1
    · rw [hx.1, hx.2]
      have e1 : swi p p = p + 1 := by unfold swi; rw [if_pos rfl]
      have e2 : swi p (p + 1) = p := by unfold swi; rw [if_neg (by omega), if_pos rfl]
      rw [e1, e2]; exact hb
    · refine ht _ _ ?_ (swi_lt hp hk)
      unfold swi
      by_cases h1 : i = p <;> by_cases h2 : i = p + 1 <;> by_cases h3 : k = p <;> by_cases h4 : k = p + 1 <;> simp [h1, h2, h3, h4] <;> omega
end Go.Proofs.Ytckgplemdmgekaa
