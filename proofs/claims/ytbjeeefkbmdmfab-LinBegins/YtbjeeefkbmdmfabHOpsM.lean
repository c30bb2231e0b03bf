/- Where the open operation of a client stands. No walk. -/
import Derived.Test.YtbjeeefkbmdmfabLnd
namespace Go.Proofs.Ytbjeeefkbmdmfab
open Go.RowKit
set_option linter.unusedVariables false

set_option maxRecDepth 100000 in
theorem opC_pos {c : Int} : ∀ {O : List Opr} {j : Nat}, j < O.length → (O.getD j op0).c = c → (O.getD j op0).d = false → 1 ≤ opC O c
  | [], j, h, _, _ => absurd h (Nat.not_lt_zero j)
  | o :: O, 0, _, hc, hd => by
    show 1 ≤ (if o.d = false ∧ o.c = c then 1 else 0) + opC O c
    rw [if_pos ⟨hd, hc⟩]; omega
  | o :: O, j + 1, h, hc, hd => by
    have := opC_pos (O := O) (j := j) (by simpa using h) hc hd
    show 1 ≤ (if o.d = false ∧ o.c = c then 1 else 0) + opC O c
    omega
set_option maxRecDepth 100000 in
/-- an answer ends the one open operation of its client -/
theorem set_one {x : Ev} {i : Nat} : ∀ {O : List Opr} {j : Nat}, j < O.length → (O.getD j op0).c = x.c → (O.getD j op0).d = false → opC O x.c ≤ 1 → setO O x i = O.set j (endO (O.getD j op0) x.v i)
  | [], j, h, _, _, _ => absurd h (Nat.not_lt_zero j)
  | o :: O, 0, _, hc, hd, h1 => by
    have h2 : (if o.d = false ∧ o.c = x.c then 1 else 0) + opC O x.c ≤ 1 := h1
    rw [if_pos ⟨hd, hc⟩] at h2
    have h3 : ∀ p ∈ O, set1 x i p = p := fun p hp => by
      unfold set1
      rw [if_neg]
      rintro ⟨e1, e2⟩
      have := opC_zero (c := x.c) (by omega) p hp e1
      rw [e2] at this; cases this
    show set1 x i o :: O.map (set1 x i) = endO o x.v i :: O
    rw [List.map_congr_left h3, List.map_id'']
    · unfold set1; rw [if_pos ⟨hc, hd⟩]
    · intro p; rfl
  | o :: O, j + 1, h, hc, hd, h1 => by
    have h2 : (if o.d = false ∧ o.c = x.c then 1 else 0) + opC O x.c ≤ 1 := h1
    have hp := opC_pos (O := O) (j := j) (by simpa using h) hc hd
    have ih := set_one (i := i) (O := O) (j := j) (by simpa using h) hc hd (by omega)
    show set1 x i o :: O.map (set1 x i) = o :: O.set j (endO (O.getD j op0) x.v i)
    have e : O.map (set1 x i) = O.set j (endO (O.getD j op0) x.v i) := ih
    rw [e]
    unfold set1
    rw [if_neg]
    rintro ⟨e1, e2⟩
    rw [if_pos ⟨e2, e1⟩] at h2; omega
/-- of each client that waits: the place of its open operation -/
def WtI (l : List Ev) (m : Nat) (O : List Opr) (f : Nat → Int) : Prop := ∀ c : Nat, c < 16 → wOf (l.take m) c = true → ∃ j : Nat, j < O.length ∧ f c = (j : Int) ∧ (O.getD j op0).c = c ∧ (O.getD j op0).d = false
set_option maxRecDepth 100000 in
theorem WtI.call {l : List Ev} {m c : Nat} {O : List Opr} {f g : Nat → Int} (h : WtI l m O f) (hm : m < l.length) {o v : Int} (hx : l.getD m ev0 = ⟨c, true, o, v⟩) (hg : ∀ d, g d = if d = c then (O.length : Int) else f d) : WtI l (m + 1) (O ++ [newO ⟨c, true, o, v⟩ m]) g := fun d hd hw => by
  rw [take_snoc l m hm, wOf_snoc, hx] at hw
  have hw2 : (if (d : Int) = (c : Int) then true else wOf (l.take m) d) = true := hw
  by_cases e : d = c
  · subst e
    refine ⟨O.length, by simp, by rw [hg, if_pos rfl], ?_, ?_⟩
    · rw [List.getD_eq_getElem?_getD, List.getElem?_append_right (Nat.le_refl _)]; simp [newO]
    · rw [List.getD_eq_getElem?_getD, List.getElem?_append_right (Nat.le_refl _)]; simp [newO]
  · rw [if_neg (by omega)] at hw2
    obtain ⟨j, h1, h2, h3, h4⟩ := h d hd hw2
    have e2 : (O ++ [newO ⟨c, true, o, v⟩ m]).getD j op0 = O.getD j op0 := by
      rw [List.getD_eq_getElem?_getD, List.getElem?_append_left h1, ← List.getD_eq_getElem?_getD]
    exact ⟨j, by rw [List.length_append]; omega, by rw [hg, if_neg e]; exact h2, by rw [e2]; exact h3, by rw [e2]; exact h4⟩
set_option maxRecDepth 100000 in
theorem WtI.ans {l : List Ev} {m c : Nat} {O : List Opr} {f : Nat → Int} (h : WtI l m O f) (hm : m < l.length) {o v : Int} (hx : l.getD m ev0 = ⟨c, false, o, v⟩) {j : Nat} (hj : j < O.length) (hc : (O.getD j op0).c = c) (y : Opr) : WtI l (m + 1) (O.set j y) f := fun d hd hw => by
  rw [take_snoc l m hm, wOf_snoc, hx] at hw
  have hw2 : (if (d : Int) = (c : Int) then false else wOf (l.take m) d) = true := hw
  by_cases e : d = c
  · subst e
    rw [if_pos rfl] at hw2; cases hw2
  · rw [if_neg (by omega)] at hw2
    obtain ⟨i, h1, h2, h3, h4⟩ := h d hd hw2
    have hne : j ≠ i := fun e3 => by subst e3; rw [hc] at h3; omega
    have e2 : (O.set j y).getD i op0 = O.getD i op0 := by
      rw [List.getD_eq_getElem?_getD, List.getElem?_set_ne hne, ← List.getD_eq_getElem?_getD]
    exact ⟨i, by rw [List.length_set]; exact h1, h2, by rw [e2]; exact h3, by rw [e2]; exact h4⟩
set_option maxRecDepth 100000 in
/-- three cells of an operation are written -/
theorem ors_set : ∀ (O : List Opr) (j : Nat) (v : Int) (i : Nat), j < O.length → (((O.flatMap orC).set (j * 7 + 3) (.bool true)).set (j * 7 + 4) (.int .i64 v)).set (j * 7 + 6) (.int .i64 i) = (O.set j (endO (O.getD j op0) v i)).flatMap orC
  | [], j, _, _, h => absurd h (Nat.not_lt_zero j)
  | o :: O, 0, _, _, _ => by rfl
  | o :: O, j + 1, v, i, h => by
    have ih := ors_set O j v i (by simpa using h)
    have e3 : (j + 1) * 7 + 3 = j * 7 + 3 + 7 := by omega
    have e4 : (j + 1) * 7 + 4 = j * 7 + 4 + 7 := by omega
    have e6 : (j + 1) * 7 + 6 = j * 7 + 6 + 7 := by omega
    have hs : ∀ (t : List Value) (p : Nat) (u : Value), (orC o ++ t).set (p + 7) u = orC o ++ t.set p u := fun t p u => rfl
    show (((orC o ++ O.flatMap orC).set ((j + 1) * 7 + 3) (.bool true)).set ((j + 1) * 7 + 4) (.int .i64 v)).set ((j + 1) * 7 + 6) (.int .i64 i) = orC o ++ (O.set j (endO (O.getD j op0) v i)).flatMap orC
    rw [e3, e4, e6, hs, hs, hs, ih]
/-- sixteen numbers in a variable -/
def WI (w : World) (g : Nat) (f : Nat → Int) : Prop := ∃ cs : Array Value, w.heap[g]? = some (.cells cs 52 (0, 0)) ∧ cs.size = 16 ∧ ∀ c : Nat, c < 16 → cs[c]? = some (.int .i64 (f c))
set_option maxRecDepth 100000 in
theorem WI.cell {w : World} {g : Nat} {W : Nat → Int} (h : WI w g W) (c : Nat) (hc : c < 16) : w.cell? ⟨g, c, none⟩ = some (.int .i64 (W c)) ∧ w.frozen? ⟨g, c, none⟩ = false := by
  obtain ⟨cs, h1, _, h3⟩ := h
  exact ⟨by rw [cell_of_row _ _ c cs _ (0, 0) h1]; exact h3 c hc, frozen_of_row _ _ c cs _ h1⟩
set_option maxRecDepth 100000 in
theorem WI.lt {w : World} {g : Nat} {W : Nat → Int} (h : WI w g W) : g < w.heap.size := by
  obtain ⟨cs, h1, _⟩ := h
  exact (Array.getElem?_eq_some_iff.1 h1).1
set_option maxRecDepth 100000 in
theorem WI.keep {w w' : World} {g : Nat} {W : Nat → Int} (h : WI w g W) (hb : w'.heap[g]? = w.heap[g]?) : WI w' g W := by
  obtain ⟨cs, h1, h2⟩ := h
  exact ⟨cs, hb.trans h1, h2⟩
set_option maxRecDepth 100000 in
theorem WI.below {w w' : World} {g : Nat} {W : Nat → Int} (h : WI w g W) (hb : Below w.heap.size w w') : WI w' g W := h.keep (hb.block g h.lt)
set_option maxRecDepth 100000 in
theorem WI.set {w : World} {g : Nat} {W : Nat → Int} (h : WI w g W) (c : Nat) (hc : c < 16) (k : Int) : WI (w.setCell ⟨g, c, none⟩ (.int .i64 k)) g (fun d => if d = c then k else W d) := by
  obtain ⟨cs, h1, h2, h3⟩ := h
  refine ⟨cs.setIfInBounds c (.int .i64 k), heap_setCell_same w g c cs _ _ h1, by simp [h2], fun d hd => ?_⟩
  rw [Array.getElem?_setIfInBounds]
  show _ = some (Value.int .i64 (if d = c then k else W d))
  by_cases e : c = d
  · subst e; rw [if_pos rfl, if_pos (by omega), if_pos rfl]
  · rw [if_neg e, if_neg (by omega)]; exact h3 d hd
set_option maxRecDepth 100000 in
theorem wi_new (w : World) : WI (w.alloc (.cells #[.int .i64 0, .int .i64 0, .int .i64 0, .int .i64 0, .int .i64 0, .int .i64 0, .int .i64 0, .int .i64 0, .int .i64 0, .int .i64 0, .int .i64 0, .int .i64 0, .int .i64 0, .int .i64 0, .int .i64 0, .int .i64 0] 52)) w.heap.size (fun _ => 0) := by
  refine ⟨_, heap_alloc_new w _, rfl, fun c hc => ?_⟩
  match c, hc with
  | 0, _ => rfl
  | 1, _ => rfl
  | 2, _ => rfl
  | 3, _ => rfl
  | 4, _ => rfl
  | 5, _ => rfl
  | 6, _ => rfl
  | 7, _ => rfl
  | 8, _ => rfl
  | 9, _ => rfl
  | 10, _ => rfl
  | 11, _ => rfl
  | 12, _ => rfl
  | 13, _ => rfl
  | 14, _ => rfl
  | 15, _ => rfl
  | n + 16, h => exact absurd h (by omega)
end Go.Proofs.Ytbjeeefkbmdmfab
