/- One operation done by code. No walk. -/
import Derived.Test.YtckgplemdmgekaaCodeFlow
import Derived.Test.YtckgplemdmgekaaHistText
namespace Go.Proofs.Ytckgplemdmgekaa
open Go.RowKit
set_option linter.unusedVariables false

/-- cells, a stack (the top last), a place -/
structure VS where
  c : List Int
  s : List Int
  p : Nat
/-- the top, the one below it -/
def tpB (v : VS) : Int := v.s.getD (v.s.length - 1) 0
def tpA (v : VS) : Int := v.s.getD (v.s.length - 2) 0
def off (v : VS) (k : Nat) : List Int := v.s.take (v.s.length - k)
/-- modulo 2^64, as an int64 -/
def w64 (x : Int) : Int := (x + 9223372036854775808) % 18446744073709551616 - 9223372036854775808
set_option maxRecDepth 100000 in
theorem w64_wrap (x : Int) : IntKind.i64.wrap x = w64 x := IntKind.wrap_i64 x
/-- what two numbers make; nothing: it refuses -/
def jnd (o a b : Int) : Option Int :=
  if o = 8 then some (w64 (a + b)) else if o = 9 then some (w64 (a - b)) else if o = 10 then some (w64 (a * b)) else
  if o = 13 then some (if a < b then 1 else 0) else if o = 14 then some (if a = b then 1 else 0) else
  if b = 0 then none else if b = -1 then (if o = 11 then some (w64 (-a)) else some 0) else
  if o = 11 then some (a.tdiv b) else some (a.tmod b)
/-- one instruction: what there is behind it, whether it ends (0 not, 1 answered, 2 refused), the answer -/
def do1 (x : Ic) (k g : Int) (v : VS) : VS × Int × Int :=
  if x.o = 0 then (⟨v.c, v.s ++ [x.n], v.p + 1⟩, 0, 0) else
  if x.o = 1 then (⟨v.c, off v 1, v.p + 1⟩, 0, 0) else
  if x.o = 2 then (⟨v.c, v.s ++ [tpB v], v.p + 1⟩, 0, 0) else
  if x.o = 3 then (⟨v.c, off v 2 ++ [tpB v, tpA v], v.p + 1⟩, 0, 0) else
  if x.o = 4 then (⟨v.c, v.s ++ [v.c.getD x.n.toNat 0], v.p + 1⟩, 0, 0) else
  if x.o = 5 then (⟨v.c.set x.n.toNat (tpB v), off v 1, v.p + 1⟩, 0, 0) else
  if x.o = 6 then (⟨v.c, v.s ++ [g], v.p + 1⟩, 0, 0) else
  if x.o = 7 then (⟨v.c, v.s ++ [k], v.p + 1⟩, 0, 0) else
  if x.o = 15 then (⟨v.c, off v 1 ++ [if tpB v = 0 then 1 else 0], v.p + 1⟩, 0, 0) else
  if x.o = 16 then (⟨v.c, v.s, x.n.toNat⟩, 0, 0) else
  if x.o = 17 then (⟨v.c, off v 1, if tpB v = 0 then x.n.toNat else v.p + 1⟩, 0, 0) else
  if x.o = 18 then (⟨v.c, off v 1, v.p + 1⟩, 1, tpB v) else
  if x.o = 19 then (⟨v.c, v.s, v.p + 1⟩, 2, 0) else
  match jnd x.o (tpA v) (tpB v) with
  | some y => (⟨v.c, off v 2 ++ [y], v.p + 1⟩, 0, 0)
  | none => (⟨v.c, off v 2, v.p + 1⟩, 2, 0)
/-- so many instructions at most: the kind, the cells, the answer, how many were done -/
def vmF (l : List Ic) (k g : Int) : Nat → VS → Nat → Int × List Int × Int × Nat
  | 0, v, u => (3, v.c, 0, u)
  | f + 1, v, u => if (do1 (l.getD v.p ic0) k g v).2.1 = 0 then vmF l k g f (do1 (l.getD v.p ic0) k g v).1 (u + 1)
    else if (do1 (l.getD v.p ic0) k g v).2.1 = 1 then (1, (do1 (l.getD v.p ic0) k g v).1.c, (do1 (l.getD v.p ic0) k g v).2.2, u + 1)
    else (2, v.c, 0, u + 1)
def vs0 (S : List Int) : VS := ⟨S, [], 0⟩
/-- a step: the kind, the state, the answer, how many were done -/
def stpV (l : List Ic) (S : List Int) (k g f : Int) : Int × List Int × Int × Int :=
  if (thr l).2.2 ≠ 0 then (4, [0, 0, 0, 0], 0, 0) else
  if (vmF l k g f.toNat (vs0 S) 0).1 = 1 then (1, (vmF l k g f.toNat (vs0 S) 0).2.1, (vmF l k g f.toNat (vs0 S) 0).2.2.1, ((vmF l k g f.toNat (vs0 S) 0).2.2.2 : Int)) else ((vmF l k g f.toNat (vs0 S) 0).1, S, 0, ((vmF l k g f.toNat (vs0 S) 0).2.2.2 : Int))
set_option maxRecDepth 100000 in
theorem do1_over (x : Ic) (k g : Int) (v : VS) : (do1 x k g v).2.1 = 0 ∨ (do1 x k g v).2.1 = 1 ∨ (do1 x k g v).2.1 = 2 := by
  unfold do1
  by_cases h0 : x.o = 0
  · rw [if_pos h0]; exact .inl rfl
  rw [if_neg h0]
  by_cases h1 : x.o = 1
  · rw [if_pos h1]; exact .inl rfl
  rw [if_neg h1]
  by_cases h2 : x.o = 2
  · rw [if_pos h2]; exact .inl rfl
  rw [if_neg h2]
  by_cases h3 : x.o = 3
  · rw [if_pos h3]; exact .inl rfl
  rw [if_neg h3]
  by_cases h4 : x.o = 4
  · rw [if_pos h4]; exact .inl rfl
  rw [if_neg h4]
  by_cases h5 : x.o = 5
  · rw [if_pos h5]; exact .inl rfl
  rw [if_neg h5]
  by_cases h6 : x.o = 6
  · rw [if_pos h6]; exact .inl rfl
  rw [if_neg h6]
  by_cases h7 : x.o = 7
  · rw [if_pos h7]; exact .inl rfl
  rw [if_neg h7]
  by_cases h15 : x.o = 15
  · rw [if_pos h15]; exact .inl rfl
  rw [if_neg h15]
  by_cases h16 : x.o = 16
  · rw [if_pos h16]; exact .inl rfl
  rw [if_neg h16]
  by_cases h17 : x.o = 17
  · rw [if_pos h17]; exact .inl rfl
  rw [if_neg h17]
  by_cases h18 : x.o = 18
  · rw [if_pos h18]; exact .inr (.inl rfl)
  rw [if_neg h18]
  by_cases h19 : x.o = 19
  · rw [if_pos h19]; exact .inr (.inr rfl)
  rw [if_neg h19]
  cases jnd x.o (tpA v) (tpB v) with
  | some y => exact .inl rfl
  | none => exact .inr (.inr rfl)
set_option maxRecDepth 100000 in
theorem vmF_zero (l : List Ic) (k g : Int) (v : VS) (u : Nat) : vmF l k g 0 v u = (3, v.c, 0, u) := rfl
set_option maxRecDepth 100000 in
theorem vmF_go {l : List Ic} {k g : Int} {f : Nat} {v : VS} {u : Nat} (h : (do1 (l.getD v.p ic0) k g v).2.1 = 0) : vmF l k g (f + 1) v u = vmF l k g f (do1 (l.getD v.p ic0) k g v).1 (u + 1) := by
  conv => lhs; unfold vmF
  rw [if_pos h]
set_option maxRecDepth 100000 in
theorem vmF_ans {l : List Ic} {k g : Int} {f : Nat} {v : VS} {u : Nat} (h : (do1 (l.getD v.p ic0) k g v).2.1 = 1) : vmF l k g (f + 1) v u = (1, (do1 (l.getD v.p ic0) k g v).1.c, (do1 (l.getD v.p ic0) k g v).2.2, u + 1) := by
  conv => lhs; unfold vmF
  rw [if_neg (by rw [h]; decide), if_pos h]
set_option maxRecDepth 100000 in
theorem vmF_ref {l : List Ic} {k g : Int} {f : Nat} {v : VS} {u : Nat} (h : (do1 (l.getD v.p ic0) k g v).2.1 = 2) : vmF l k g (f + 1) v u = (2, v.c, 0, u + 1) := by
  conv => lhs; unfold vmF
  rw [if_neg (by rw [h]; decide), if_neg (by rw [h]; decide)]
set_option maxRecDepth 100000 in
/-- how it ends -/
theorem vmF_ends (l : List Ic) (k g : Int) : ∀ (f : Nat) (v : VS) (u : Nat),
    ((vmF l k g f v u).1 = 3 ∧ (vmF l k g f v u).2.2.2 = u + f) ∨
    (((vmF l k g f v u).1 = 1 ∨ (vmF l k g f v u).1 = 2) ∧ ∃ n, 1 ≤ n ∧ n ≤ f ∧ (vmF l k g f v u).2.2.2 = u + n ∧ (∀ e, n ≤ e → vmF l k g e v u = vmF l k g f v u) ∧ (vmF l k g (n - 1) v u).1 = 3 ∧ (vmF l k g (n - 1) v u).2.2.2 = u + (n - 1))
  | 0, v, u => .inl ⟨rfl, rfl⟩
  | f + 1, v, u => by
    rcases do1_over (l.getD v.p ic0) k g v with h | h | h
    · rw [vmF_go h]
      rcases vmF_ends l k g f (do1 (l.getD v.p ic0) k g v).1 (u + 1) with ⟨h1, h2⟩ | ⟨h1, n, n1, n2, n3, n4, n5, n6⟩
      · exact .inl ⟨h1, by rw [h2]; omega⟩
      · refine .inr ⟨h1, n + 1, by omega, by omega, by rw [n3]; omega, fun e he => ?_, ?_, ?_⟩
        · obtain ⟨e', rfl⟩ : ∃ e', e = e' + 1 := ⟨e - 1, by omega⟩
          rw [vmF_go h]; exact n4 e' (by omega)
        · rw [show n + 1 - 1 = n - 1 + 1 from by omega, vmF_go h]; exact n5
        · rw [show n + 1 - 1 = n - 1 + 1 from by omega, vmF_go h, n6]; omega
    · rw [vmF_ans h]
      refine .inr ⟨.inl rfl, 1, Nat.le_refl _, by omega, rfl, fun e he => ?_, rfl, rfl⟩
      obtain ⟨e', rfl⟩ : ∃ e', e = e' + 1 := ⟨e - 1, by omega⟩
      exact vmF_ans h
    · rw [vmF_ref h]
      refine .inr ⟨.inr rfl, 1, Nat.le_refl _, by omega, rfl, fun e he => ?_, rfl, rfl⟩
      obtain ⟨e', rfl⟩ : ∃ e', e = e' + 1 := ⟨e - 1, by omega⟩
      exact vmF_ref h
/-- what holds while code is done -/
structure VI (l : List Ic) (D : List Int) (v : VS) : Prop where
  pl : v.p < l.length
  dp : D.getD v.p (-1) = (v.s.length : Int)
  cl : v.c.length = 4
  cv : ∀ y ∈ v.c, V64 y
  sv : ∀ y ∈ v.s, V64 y
  mx : v.s.length ≤ 8
set_option maxRecDepth 100000 in
theorem w64_in (x : Int) : V64 (w64 x) := by unfold w64 V64; omega
set_option maxRecDepth 100000 in
theorem w64_id {x : Int} (h : V64 x) : w64 x = x := by unfold V64 at h; unfold w64; omega
set_option maxRecDepth 100000 in
theorem tdiv_in {a b : Int} (ha : V64 a) (hb : b ≠ 0) (hb1 : b ≠ -1) : V64 (a.tdiv b) := by
  have h1 := Int.natAbs_tdiv_le_natAbs a b
  unfold V64 at ha ⊢
  by_cases h : a = -9223372036854775808
  · subst h
    have h3 : (Int.tdiv (-9223372036854775808) b).natAbs < 9223372036854775808 ∨ b = 1 := by
      by_cases hb2 : b = 1
      · exact .inr hb2
      · left
        rw [Int.natAbs_tdiv]
        have : 2 ≤ b.natAbs := by omega
        have h5 : (9223372036854775808 : Nat) / b.natAbs ≤ 9223372036854775808 / 2 := Nat.div_le_div_left this (by decide)
        show (9223372036854775808 : Nat) / b.natAbs < _
        omega
    rcases h3 with h3 | h3
    · omega
    · subst h3; rw [Int.tdiv_one]; omega
  · omega
set_option maxRecDepth 100000 in
theorem tmod_in {a b : Int} (ha : V64 a) : V64 (a.tmod b) := by
  have h1 : (a.tmod b).natAbs ≤ a.natAbs := by rw [Int.natAbs_tmod]; exact Nat.mod_le _ _
  unfold V64 at ha ⊢
  by_cases h : 0 ≤ a
  · have := Int.tmod_nonneg b h
    omega
  · have h2 := Int.tmod_nonneg (a := -a) b (by omega)
    rw [Int.neg_tmod] at h2
    omega
set_option maxRecDepth 100000 in
theorem jnd_in {o a b y : Int} (ha : V64 a) (h : jnd o a b = some y) : V64 y := by
  unfold jnd at h
  by_cases h8 : o = 8
  · rw [if_pos h8] at h; cases h; exact w64_in _
  rw [if_neg h8] at h
  by_cases h9 : o = 9
  · rw [if_pos h9] at h; cases h; exact w64_in _
  rw [if_neg h9] at h
  by_cases h10 : o = 10
  · rw [if_pos h10] at h; cases h; exact w64_in _
  rw [if_neg h10] at h
  by_cases h13 : o = 13
  · rw [if_pos h13] at h; cases h; split <;> exact ⟨by decide, by decide⟩
  rw [if_neg h13] at h
  by_cases h14 : o = 14
  · rw [if_pos h14] at h; cases h; split <;> exact ⟨by decide, by decide⟩
  rw [if_neg h14] at h
  by_cases hb : b = 0
  · rw [if_pos hb] at h; cases h
  rw [if_neg hb] at h
  by_cases hb1 : b = -1
  · rw [if_pos hb1] at h
    by_cases h11 : o = 11
    · rw [if_pos h11] at h; cases h; exact w64_in _
    · rw [if_neg h11] at h; cases h; exact ⟨by decide, by decide⟩
  rw [if_neg hb1] at h
  by_cases h11 : o = 11
  · rw [if_pos h11] at h; cases h; exact tdiv_in ha hb hb1
  · rw [if_neg h11] at h; cases h; exact tmod_in ha
set_option maxRecDepth 100000 in
theorem off_len (v : VS) (k : Nat) : (off v k).length = v.s.length - k := by unfold off; rw [List.length_take]; omega
set_option maxRecDepth 100000 in
theorem off_in {v : VS} {k : Nat} {y : Int} (h : y ∈ off v k) : y ∈ v.s := List.mem_of_mem_take h
set_option maxRecDepth 100000 in
theorem tpB_in {v : VS} (h : ∀ y ∈ v.s, V64 y) : V64 (tpB v) := by
  unfold tpB
  by_cases e : v.s.length - 1 < v.s.length
  · rw [List.getD_eq_getElem?_getD, List.getElem?_eq_getElem e]; exact h _ (List.getElem_mem e)
  · rw [List.getD_eq_getElem?_getD, List.getElem?_eq_none (by omega)]; exact ⟨by decide, by decide⟩
set_option maxRecDepth 100000 in
theorem tpA_in {v : VS} (h : ∀ y ∈ v.s, V64 y) : V64 (tpA v) := by
  unfold tpA
  by_cases e : v.s.length - 2 < v.s.length
  · rw [List.getD_eq_getElem?_getD, List.getElem?_eq_getElem e]; exact h _ (List.getElem_mem e)
  · rw [List.getD_eq_getElem?_getD, List.getElem?_eq_none (by omega)]; exact ⟨by decide, by decide⟩
set_option maxRecDepth 100000 in
theorem cell_in {v : VS} (h : ∀ y ∈ v.c, V64 y) (i : Nat) : V64 (v.c.getD i 0) := by
  by_cases e : i < v.c.length
  · rw [List.getD_eq_getElem?_getD, List.getElem?_eq_getElem e]; exact h _ (List.getElem_mem e)
  · rw [List.getD_eq_getElem?_getD, List.getElem?_eq_none (by omega)]; exact ⟨by decide, by decide⟩
set_option maxRecDepth 100000 in
theorem do1_0 {x : Ic} {k g : Int} {v : VS} (h : x.o = 0) : do1 x k g v = (⟨v.c, v.s ++ [x.n], v.p + 1⟩, 0, 0) := by unfold do1; rw [if_pos h]
set_option maxRecDepth 100000 in
theorem do1_1 {x : Ic} {k g : Int} {v : VS} (h : x.o = 1) : do1 x k g v = (⟨v.c, off v 1, v.p + 1⟩, 0, 0) := by unfold do1; rw [if_neg (show ¬ x.o = 0 by omega), if_pos h]
set_option maxRecDepth 100000 in
theorem do1_2 {x : Ic} {k g : Int} {v : VS} (h : x.o = 2) : do1 x k g v = (⟨v.c, v.s ++ [tpB v], v.p + 1⟩, 0, 0) := by unfold do1; rw [if_neg (show ¬ x.o = 0 by omega), if_neg (show ¬ x.o = 1 by omega), if_pos h]
set_option maxRecDepth 100000 in
theorem do1_3 {x : Ic} {k g : Int} {v : VS} (h : x.o = 3) : do1 x k g v = (⟨v.c, off v 2 ++ [tpB v, tpA v], v.p + 1⟩, 0, 0) := by unfold do1; rw [if_neg (show ¬ x.o = 0 by omega), if_neg (show ¬ x.o = 1 by omega), if_neg (show ¬ x.o = 2 by omega), if_pos h]
set_option maxRecDepth 100000 in
theorem do1_4 {x : Ic} {k g : Int} {v : VS} (h : x.o = 4) : do1 x k g v = (⟨v.c, v.s ++ [v.c.getD x.n.toNat 0], v.p + 1⟩, 0, 0) := by unfold do1; rw [if_neg (show ¬ x.o = 0 by omega), if_neg (show ¬ x.o = 1 by omega), if_neg (show ¬ x.o = 2 by omega), if_neg (show ¬ x.o = 3 by omega), if_pos h]
set_option maxRecDepth 100000 in
theorem do1_5 {x : Ic} {k g : Int} {v : VS} (h : x.o = 5) : do1 x k g v = (⟨v.c.set x.n.toNat (tpB v), off v 1, v.p + 1⟩, 0, 0) := by unfold do1; rw [if_neg (show ¬ x.o = 0 by omega), if_neg (show ¬ x.o = 1 by omega), if_neg (show ¬ x.o = 2 by omega), if_neg (show ¬ x.o = 3 by omega), if_neg (show ¬ x.o = 4 by omega), if_pos h]
set_option maxRecDepth 100000 in
theorem do1_6 {x : Ic} {k g : Int} {v : VS} (h : x.o = 6) : do1 x k g v = (⟨v.c, v.s ++ [g], v.p + 1⟩, 0, 0) := by unfold do1; rw [if_neg (show ¬ x.o = 0 by omega), if_neg (show ¬ x.o = 1 by omega), if_neg (show ¬ x.o = 2 by omega), if_neg (show ¬ x.o = 3 by omega), if_neg (show ¬ x.o = 4 by omega), if_neg (show ¬ x.o = 5 by omega), if_pos h]
set_option maxRecDepth 100000 in
theorem do1_7 {x : Ic} {k g : Int} {v : VS} (h : x.o = 7) : do1 x k g v = (⟨v.c, v.s ++ [k], v.p + 1⟩, 0, 0) := by unfold do1; rw [if_neg (show ¬ x.o = 0 by omega), if_neg (show ¬ x.o = 1 by omega), if_neg (show ¬ x.o = 2 by omega), if_neg (show ¬ x.o = 3 by omega), if_neg (show ¬ x.o = 4 by omega), if_neg (show ¬ x.o = 5 by omega), if_neg (show ¬ x.o = 6 by omega), if_pos h]
set_option maxRecDepth 100000 in
theorem do1_15 {x : Ic} {k g : Int} {v : VS} (h : x.o = 15) : do1 x k g v = (⟨v.c, off v 1 ++ [if tpB v = 0 then 1 else 0], v.p + 1⟩, 0, 0) := by unfold do1; rw [if_neg (show ¬ x.o = 0 by omega), if_neg (show ¬ x.o = 1 by omega), if_neg (show ¬ x.o = 2 by omega), if_neg (show ¬ x.o = 3 by omega), if_neg (show ¬ x.o = 4 by omega), if_neg (show ¬ x.o = 5 by omega), if_neg (show ¬ x.o = 6 by omega), if_neg (show ¬ x.o = 7 by omega), if_pos h]
set_option maxRecDepth 100000 in
theorem do1_16 {x : Ic} {k g : Int} {v : VS} (h : x.o = 16) : do1 x k g v = (⟨v.c, v.s, x.n.toNat⟩, 0, 0) := by unfold do1; rw [if_neg (show ¬ x.o = 0 by omega), if_neg (show ¬ x.o = 1 by omega), if_neg (show ¬ x.o = 2 by omega), if_neg (show ¬ x.o = 3 by omega), if_neg (show ¬ x.o = 4 by omega), if_neg (show ¬ x.o = 5 by omega), if_neg (show ¬ x.o = 6 by omega), if_neg (show ¬ x.o = 7 by omega), if_neg (show ¬ x.o = 15 by omega), if_pos h]
set_option maxRecDepth 100000 in
theorem do1_17 {x : Ic} {k g : Int} {v : VS} (h : x.o = 17) : do1 x k g v = (⟨v.c, off v 1, (if tpB v = 0 then x.n.toNat else v.p + 1)⟩, 0, 0) := by unfold do1; rw [if_neg (show ¬ x.o = 0 by omega), if_neg (show ¬ x.o = 1 by omega), if_neg (show ¬ x.o = 2 by omega), if_neg (show ¬ x.o = 3 by omega), if_neg (show ¬ x.o = 4 by omega), if_neg (show ¬ x.o = 5 by omega), if_neg (show ¬ x.o = 6 by omega), if_neg (show ¬ x.o = 7 by omega), if_neg (show ¬ x.o = 15 by omega), if_neg (show ¬ x.o = 16 by omega), if_pos h]
set_option maxRecDepth 100000 in
theorem do1_18 {x : Ic} {k g : Int} {v : VS} (h : x.o = 18) : do1 x k g v = (⟨v.c, off v 1, v.p + 1⟩, 1, tpB v) := by unfold do1; rw [if_neg (show ¬ x.o = 0 by omega), if_neg (show ¬ x.o = 1 by omega), if_neg (show ¬ x.o = 2 by omega), if_neg (show ¬ x.o = 3 by omega), if_neg (show ¬ x.o = 4 by omega), if_neg (show ¬ x.o = 5 by omega), if_neg (show ¬ x.o = 6 by omega), if_neg (show ¬ x.o = 7 by omega), if_neg (show ¬ x.o = 15 by omega), if_neg (show ¬ x.o = 16 by omega), if_neg (show ¬ x.o = 17 by omega), if_pos h]
set_option maxRecDepth 100000 in
theorem do1_19 {x : Ic} {k g : Int} {v : VS} (h : x.o = 19) : do1 x k g v = (⟨v.c, v.s, v.p + 1⟩, 2, 0) := by unfold do1; rw [if_neg (show ¬ x.o = 0 by omega), if_neg (show ¬ x.o = 1 by omega), if_neg (show ¬ x.o = 2 by omega), if_neg (show ¬ x.o = 3 by omega), if_neg (show ¬ x.o = 4 by omega), if_neg (show ¬ x.o = 5 by omega), if_neg (show ¬ x.o = 6 by omega), if_neg (show ¬ x.o = 7 by omega), if_neg (show ¬ x.o = 15 by omega), if_neg (show ¬ x.o = 16 by omega), if_neg (show ¬ x.o = 17 by omega), if_neg (show ¬ x.o = 18 by omega), if_pos h]
set_option maxRecDepth 100000 in
theorem do1_jnd {x : Ic} {k g : Int} {v : VS} (h : 8 ≤ x.o ∧ x.o ≤ 14) : do1 x k g v = match jnd x.o (tpA v) (tpB v) with | some y => (⟨v.c, off v 2 ++ [y], v.p + 1⟩, 0, 0) | none => (⟨v.c, off v 2, v.p + 1⟩, 2, 0) := by unfold do1; rw [if_neg (show ¬ x.o = 0 by omega), if_neg (show ¬ x.o = 1 by omega), if_neg (show ¬ x.o = 2 by omega), if_neg (show ¬ x.o = 3 by omega), if_neg (show ¬ x.o = 4 by omega), if_neg (show ¬ x.o = 5 by omega), if_neg (show ¬ x.o = 6 by omega), if_neg (show ¬ x.o = 7 by omega), if_neg (show ¬ x.o = 15 by omega), if_neg (show ¬ x.o = 16 by omega), if_neg (show ¬ x.o = 17 by omega), if_neg (show ¬ x.o = 18 by omega), if_neg (show ¬ x.o = 19 by omega)]
set_option maxRecDepth 100000 in
/-- a step that goes on keeps all that holds -/
theorem VI.step {l : List Ic} {D : List Int} {v : VS} {k g : Int} (hF : Flow l D) (hc : ∀ q, q < l.length → canI l.length (l.getD q ic0) = true) (hn : ∀ q, q < l.length → V64 (l.getD q ic0).n) (hk : V64 k) (hg : V64 g) (h : VI l D v) (he : (do1 (l.getD v.p ic0) k g v).2.1 = 0) : VI l D (do1 (l.getD v.p ic0) k g v).1 := by
  have hx := canI_is (hc v.p h.pl)
  have hxn := hn v.p h.pl
  obtain ⟨f1, f2, f3, f4⟩ := hF.go h.pl hx (by omega) h.dp
  generalize l.getD v.p ic0 = x at hx hxn f1 f2 f3 f4 he ⊢
  have hB := tpB_in h.sv
  have hA := tpA_in h.sv
  have hO : ∀ {n : Nat} {y : Int}, y ∈ off v n → V64 y := fun hy => h.sv _ (off_in hy)
  have hmx := h.mx
  have h01 : V64 (if tpB v = 0 then 1 else 0) := by split <;> exact ⟨by decide, by decide⟩
  rcases op_cases hx with e | e | e | e | e | e | e | e | e | e | e | e | e | e | e | e | e | e | e | e
  · rw [e, show tkO 0 = 0 from rfl, show ptO 0 = 1 from rfl] at f2; rw [e, show tkO 0 = 0 from rfl] at f1
    have a := f3 (by rw [e]; exact .inl rfl)
    rw [e, show tkO 0 = 0 from rfl, show ptO 0 = 1 from rfl] at a
    rw [do1_0 e]
    refine ⟨a.1, ?_, h.cl, ?_, ?_, ?_⟩
    · show D.getD (v.p + 1) (-1) = _
      rw [a.2]; show _ = ((v.s ++ [x.n]).length : Int); rw [List.length_append, List.length_singleton]; omega
    · exact h.cv
    · exact fun y hy => by
        rcases List.mem_append.1 hy with hy | hy
        · exact h.sv y hy
        · rcases List.mem_cons.1 hy with e2 | hy
          · rw [e2]; exact hxn
          · cases hy
    · show (v.s ++ [x.n]).length ≤ 8; rw [List.length_append, List.length_singleton]; omega
  · rw [e, show tkO 1 = 1 from rfl, show ptO 1 = 0 from rfl] at f2; rw [e, show tkO 1 = 1 from rfl] at f1
    have a := f3 (by rw [e]; exact .inl rfl)
    rw [e, show tkO 1 = 1 from rfl, show ptO 1 = 0 from rfl] at a
    rw [do1_1 e]
    refine ⟨a.1, ?_, h.cl, ?_, ?_, ?_⟩
    · show D.getD (v.p + 1) (-1) = _
      rw [a.2]; show _ = ((off v 1).length : Int); rw [off_len]; omega
    · exact h.cv
    · exact fun y hy => hO hy
    · show (off v 1).length ≤ 8; rw [off_len]; omega
  · rw [e, show tkO 2 = 1 from rfl, show ptO 2 = 2 from rfl] at f2; rw [e, show tkO 2 = 1 from rfl] at f1
    have a := f3 (by rw [e]; exact .inl rfl)
    rw [e, show tkO 2 = 1 from rfl, show ptO 2 = 2 from rfl] at a
    rw [do1_2 e]
    refine ⟨a.1, ?_, h.cl, ?_, ?_, ?_⟩
    · show D.getD (v.p + 1) (-1) = _
      rw [a.2]; show _ = ((v.s ++ [tpB v]).length : Int); rw [List.length_append, List.length_singleton]; omega
    · exact h.cv
    · exact fun y hy => by
        rcases List.mem_append.1 hy with hy | hy
        · exact h.sv y hy
        · rcases List.mem_cons.1 hy with e2 | hy
          · rw [e2]; exact hB
          · cases hy
    · show (v.s ++ [tpB v]).length ≤ 8; rw [List.length_append, List.length_singleton]; omega
  · rw [e, show tkO 3 = 2 from rfl, show ptO 3 = 2 from rfl] at f2; rw [e, show tkO 3 = 2 from rfl] at f1
    have a := f3 (by rw [e]; exact .inl rfl)
    rw [e, show tkO 3 = 2 from rfl, show ptO 3 = 2 from rfl] at a
    rw [do1_3 e]
    refine ⟨a.1, ?_, h.cl, ?_, ?_, ?_⟩
    · show D.getD (v.p + 1) (-1) = _
      rw [a.2]; show _ = ((off v 2 ++ [tpB v, tpA v]).length : Int); rw [List.length_append, off_len]; show _ = ((v.s.length - 2 + 2 : Nat) : Int); omega
    · exact h.cv
    · exact fun y hy => by
        rcases List.mem_append.1 hy with hy | hy
        · exact hO hy
        · rcases List.mem_cons.1 hy with e2 | hy
          · rw [e2]; exact hB
          · rcases List.mem_cons.1 hy with e2 | hy
            · rw [e2]; exact hA
            · cases hy
    · show (off v 2 ++ [tpB v, tpA v]).length ≤ 8; rw [List.length_append, off_len]; show v.s.length - 2 + 2 ≤ 8; omega
  · rw [e, show tkO 4 = 0 from rfl, show ptO 4 = 1 from rfl] at f2; rw [e, show tkO 4 = 0 from rfl] at f1
    have a := f3 (by rw [e]; exact .inl rfl)
    rw [e, show tkO 4 = 0 from rfl, show ptO 4 = 1 from rfl] at a
    rw [do1_4 e]
    refine ⟨a.1, ?_, h.cl, ?_, ?_, ?_⟩
    · show D.getD (v.p + 1) (-1) = _
      rw [a.2]; show _ = ((v.s ++ [v.c.getD x.n.toNat 0]).length : Int); rw [List.length_append, List.length_singleton]; omega
    · exact h.cv
    · exact fun y hy => by
        rcases List.mem_append.1 hy with hy | hy
        · exact h.sv y hy
        · rcases List.mem_cons.1 hy with e2 | hy
          · rw [e2]; exact cell_in h.cv _
          · cases hy
    · show (v.s ++ [v.c.getD x.n.toNat 0]).length ≤ 8; rw [List.length_append, List.length_singleton]; omega
  · rw [e, show tkO 5 = 1 from rfl, show ptO 5 = 0 from rfl] at f2; rw [e, show tkO 5 = 1 from rfl] at f1
    have a := f3 (by rw [e]; exact .inl rfl)
    rw [e, show tkO 5 = 1 from rfl, show ptO 5 = 0 from rfl] at a
    rw [do1_5 e]
    refine ⟨a.1, ?_, by rw [List.length_set]; exact h.cl, ?_, ?_, ?_⟩
    · show D.getD (v.p + 1) (-1) = _
      rw [a.2]; show _ = ((off v 1).length : Int); rw [off_len]; omega
    · exact fun y hy => by
        rcases List.mem_or_eq_of_mem_set hy with hy | e2
        · exact h.cv y hy
        · rw [e2]; exact hB
    · exact fun y hy => hO hy
    · show (off v 1).length ≤ 8; rw [off_len]; omega
  · rw [e, show tkO 6 = 0 from rfl, show ptO 6 = 1 from rfl] at f2; rw [e, show tkO 6 = 0 from rfl] at f1
    have a := f3 (by rw [e]; exact .inl rfl)
    rw [e, show tkO 6 = 0 from rfl, show ptO 6 = 1 from rfl] at a
    rw [do1_6 e]
    refine ⟨a.1, ?_, h.cl, ?_, ?_, ?_⟩
    · show D.getD (v.p + 1) (-1) = _
      rw [a.2]; show _ = ((v.s ++ [g]).length : Int); rw [List.length_append, List.length_singleton]; omega
    · exact h.cv
    · exact fun y hy => by
        rcases List.mem_append.1 hy with hy | hy
        · exact h.sv y hy
        · rcases List.mem_cons.1 hy with e2 | hy
          · rw [e2]; exact hg
          · cases hy
    · show (v.s ++ [g]).length ≤ 8; rw [List.length_append, List.length_singleton]; omega
  · rw [e, show tkO 7 = 0 from rfl, show ptO 7 = 1 from rfl] at f2; rw [e, show tkO 7 = 0 from rfl] at f1
    have a := f3 (by rw [e]; exact .inl rfl)
    rw [e, show tkO 7 = 0 from rfl, show ptO 7 = 1 from rfl] at a
    rw [do1_7 e]
    refine ⟨a.1, ?_, h.cl, ?_, ?_, ?_⟩
    · show D.getD (v.p + 1) (-1) = _
      rw [a.2]; show _ = ((v.s ++ [k]).length : Int); rw [List.length_append, List.length_singleton]; omega
    · exact h.cv
    · exact fun y hy => by
        rcases List.mem_append.1 hy with hy | hy
        · exact h.sv y hy
        · rcases List.mem_cons.1 hy with e2 | hy
          · rw [e2]; exact hk
          · cases hy
    · show (v.s ++ [k]).length ≤ 8; rw [List.length_append, List.length_singleton]; omega
  · rw [e, show tkO 8 = 2 from rfl, show ptO 8 = 1 from rfl] at f2; rw [e, show tkO 8 = 2 from rfl] at f1
    have a := f3 (by rw [e]; exact .inl rfl)
    rw [e, show tkO 8 = 2 from rfl, show ptO 8 = 1 from rfl] at a
    rw [do1_jnd (by omega)] at he ⊢
    cases hj : jnd x.o (tpA v) (tpB v) with
    | none => rw [hj] at he; cases he
    | some y =>
      refine ⟨a.1, ?_, h.cl, h.cv, fun z hz => ?_, ?_⟩
      · show D.getD (v.p + 1) (-1) = ((off v 2 ++ [y]).length : Int)
        rw [a.2, List.length_append, off_len, List.length_singleton]; omega
      · rcases List.mem_append.1 hz with hz | hz
        · exact hO hz
        · rcases List.mem_cons.1 hz with e2 | hz
          · rw [e2]; exact jnd_in hA hj
          · cases hz
      · show (off v 2 ++ [y]).length ≤ 8; rw [List.length_append, off_len, List.length_singleton]; omega
  · rw [e, show tkO 9 = 2 from rfl, show ptO 9 = 1 from rfl] at f2; rw [e, show tkO 9 = 2 from rfl] at f1
    have a := f3 (by rw [e]; exact .inl rfl)
    rw [e, show tkO 9 = 2 from rfl, show ptO 9 = 1 from rfl] at a
    rw [do1_jnd (by omega)] at he ⊢
    cases hj : jnd x.o (tpA v) (tpB v) with
    | none => rw [hj] at he; cases he
    | some y =>
      refine ⟨a.1, ?_, h.cl, h.cv, fun z hz => ?_, ?_⟩
      · show D.getD (v.p + 1) (-1) = ((off v 2 ++ [y]).length : Int)
        rw [a.2, List.length_append, off_len, List.length_singleton]; omega
      · rcases List.mem_append.1 hz with hz | hz
        · exact hO hz
        · rcases List.mem_cons.1 hz with e2 | hz
          · rw [e2]; exact jnd_in hA hj
          · cases hz
      · show (off v 2 ++ [y]).length ≤ 8; rw [List.length_append, off_len, List.length_singleton]; omega
  · rw [e, show tkO 10 = 2 from rfl, show ptO 10 = 1 from rfl] at f2; rw [e, show tkO 10 = 2 from rfl] at f1
    have a := f3 (by rw [e]; exact .inl rfl)
    rw [e, show tkO 10 = 2 from rfl, show ptO 10 = 1 from rfl] at a
    rw [do1_jnd (by omega)] at he ⊢
    cases hj : jnd x.o (tpA v) (tpB v) with
    | none => rw [hj] at he; cases he
    | some y =>
      refine ⟨a.1, ?_, h.cl, h.cv, fun z hz => ?_, ?_⟩
      · show D.getD (v.p + 1) (-1) = ((off v 2 ++ [y]).length : Int)
        rw [a.2, List.length_append, off_len, List.length_singleton]; omega
      · rcases List.mem_append.1 hz with hz | hz
        · exact hO hz
        · rcases List.mem_cons.1 hz with e2 | hz
          · rw [e2]; exact jnd_in hA hj
          · cases hz
      · show (off v 2 ++ [y]).length ≤ 8; rw [List.length_append, off_len, List.length_singleton]; omega
  · rw [e, show tkO 11 = 2 from rfl, show ptO 11 = 1 from rfl] at f2; rw [e, show tkO 11 = 2 from rfl] at f1
    have a := f3 (by rw [e]; exact .inl rfl)
    rw [e, show tkO 11 = 2 from rfl, show ptO 11 = 1 from rfl] at a
    rw [do1_jnd (by omega)] at he ⊢
    cases hj : jnd x.o (tpA v) (tpB v) with
    | none => rw [hj] at he; cases he
    | some y =>
      refine ⟨a.1, ?_, h.cl, h.cv, fun z hz => ?_, ?_⟩
      · show D.getD (v.p + 1) (-1) = ((off v 2 ++ [y]).length : Int)
        rw [a.2, List.length_append, off_len, List.length_singleton]; omega
      · rcases List.mem_append.1 hz with hz | hz
        · exact hO hz
        · rcases List.mem_cons.1 hz with e2 | hz
          · rw [e2]; exact jnd_in hA hj
          · cases hz
      · show (off v 2 ++ [y]).length ≤ 8; rw [List.length_append, off_len, List.length_singleton]; omega
  · rw [e, show tkO 12 = 2 from rfl, show ptO 12 = 1 from rfl] at f2; rw [e, show tkO 12 = 2 from rfl] at f1
    have a := f3 (by rw [e]; exact .inl rfl)
    rw [e, show tkO 12 = 2 from rfl, show ptO 12 = 1 from rfl] at a
    rw [do1_jnd (by omega)] at he ⊢
    cases hj : jnd x.o (tpA v) (tpB v) with
    | none => rw [hj] at he; cases he
    | some y =>
      refine ⟨a.1, ?_, h.cl, h.cv, fun z hz => ?_, ?_⟩
      · show D.getD (v.p + 1) (-1) = ((off v 2 ++ [y]).length : Int)
        rw [a.2, List.length_append, off_len, List.length_singleton]; omega
      · rcases List.mem_append.1 hz with hz | hz
        · exact hO hz
        · rcases List.mem_cons.1 hz with e2 | hz
          · rw [e2]; exact jnd_in hA hj
          · cases hz
      · show (off v 2 ++ [y]).length ≤ 8; rw [List.length_append, off_len, List.length_singleton]; omega
  · rw [e, show tkO 13 = 2 from rfl, show ptO 13 = 1 from rfl] at f2; rw [e, show tkO 13 = 2 from rfl] at f1
    have a := f3 (by rw [e]; exact .inl rfl)
    rw [e, show tkO 13 = 2 from rfl, show ptO 13 = 1 from rfl] at a
    rw [do1_jnd (by omega)] at he ⊢
    cases hj : jnd x.o (tpA v) (tpB v) with
    | none => rw [hj] at he; cases he
    | some y =>
      refine ⟨a.1, ?_, h.cl, h.cv, fun z hz => ?_, ?_⟩
      · show D.getD (v.p + 1) (-1) = ((off v 2 ++ [y]).length : Int)
        rw [a.2, List.length_append, off_len, List.length_singleton]; omega
      · rcases List.mem_append.1 hz with hz | hz
        · exact hO hz
        · rcases List.mem_cons.1 hz with e2 | hz
          · rw [e2]; exact jnd_in hA hj
          · cases hz
      · show (off v 2 ++ [y]).length ≤ 8; rw [List.length_append, off_len, List.length_singleton]; omega
  · rw [e, show tkO 14 = 2 from rfl, show ptO 14 = 1 from rfl] at f2; rw [e, show tkO 14 = 2 from rfl] at f1
    have a := f3 (by rw [e]; exact .inl rfl)
    rw [e, show tkO 14 = 2 from rfl, show ptO 14 = 1 from rfl] at a
    rw [do1_jnd (by omega)] at he ⊢
    cases hj : jnd x.o (tpA v) (tpB v) with
    | none => rw [hj] at he; cases he
    | some y =>
      refine ⟨a.1, ?_, h.cl, h.cv, fun z hz => ?_, ?_⟩
      · show D.getD (v.p + 1) (-1) = ((off v 2 ++ [y]).length : Int)
        rw [a.2, List.length_append, off_len, List.length_singleton]; omega
      · rcases List.mem_append.1 hz with hz | hz
        · exact hO hz
        · rcases List.mem_cons.1 hz with e2 | hz
          · rw [e2]; exact jnd_in hA hj
          · cases hz
      · show (off v 2 ++ [y]).length ≤ 8; rw [List.length_append, off_len, List.length_singleton]; omega
  · rw [e, show tkO 15 = 1 from rfl, show ptO 15 = 1 from rfl] at f2; rw [e, show tkO 15 = 1 from rfl] at f1
    have a := f3 (by rw [e]; exact .inl rfl)
    rw [e, show tkO 15 = 1 from rfl, show ptO 15 = 1 from rfl] at a
    rw [do1_15 e]
    refine ⟨a.1, ?_, h.cl, ?_, ?_, ?_⟩
    · show D.getD (v.p + 1) (-1) = _
      rw [a.2]; show _ = ((off v 1 ++ [if tpB v = 0 then 1 else 0]).length : Int); rw [List.length_append, off_len, List.length_singleton]; omega
    · exact h.cv
    · exact fun y hy => by
        rcases List.mem_append.1 hy with hy | hy
        · exact hO hy
        · rcases List.mem_cons.1 hy with e2 | hy
          · rw [e2]; exact h01
          · cases hy
    · show (off v 1 ++ [if tpB v = 0 then 1 else 0]).length ≤ 8; rw [List.length_append, off_len, List.length_singleton]; omega
  · rw [e, show tkO 16 = 0 from rfl, show ptO 16 = 0 from rfl] at f2; rw [e, show tkO 16 = 0 from rfl] at f1
    have a := f4 (by rw [e]; exact .inl rfl)
    rw [e, show tkO 16 = 0 from rfl, show ptO 16 = 0 from rfl] at a
    rw [do1_16 e]
    exact ⟨a.1, by show D.getD x.n.toNat (-1) = _; rw [a.2]; show _ = (v.s.length : Int); omega, h.cl, h.cv, h.sv, h.mx⟩
  · rw [e, show tkO 17 = 1 from rfl, show ptO 17 = 0 from rfl] at f2; rw [e, show tkO 17 = 1 from rfl] at f1
    have a := f4 (by rw [e]; exact .inr rfl)
    have a2 := f3 (by rw [e]; exact .inr rfl)
    rw [e, show tkO 17 = 1 from rfl, show ptO 17 = 0 from rfl] at a a2
    rw [do1_17 e]
    refine ⟨?_, ?_, h.cl, h.cv, fun y hy => hO hy, ?_⟩
    · show (if tpB v = 0 then x.n.toNat else v.p + 1) < l.length
      split
      · exact a.1
      · exact a2.1
    · show D.getD (if tpB v = 0 then x.n.toNat else v.p + 1) (-1) = ((off v 1).length : Int)
      rw [off_len]
      split
      · rw [a.2]; omega
      · rw [a2.2]; omega
    · show (off v 1).length ≤ 8; rw [off_len]; omega
  · rw [do1_18 e] at he; cases he
  · rw [do1_19 e] at he; cases he
set_option maxRecDepth 100000 in
theorem vi_zero {l : List Ic} {D : List Int} (hF : Flow l D) (hl : 1 ≤ l.length) {S : List Int} (hS : S.length = 4) (hv : ∀ y ∈ S, V64 y) : VI l D (vs0 S) := ⟨by show 0 < l.length; omega, by show D.getD 0 (-1) = 0; exact hF.d0, hS, hv, fun y hy => (by cases hy), Nat.zero_le _⟩
end Go.Proofs.Ytckgplemdmgekaa
