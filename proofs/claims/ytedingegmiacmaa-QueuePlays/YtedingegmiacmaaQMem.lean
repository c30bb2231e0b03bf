/- The program's queue in memory; whose turn it is, round by round. No walk. -/
import Derived.Test.YtedingegmiacmaaNbMem
import Derived.Test.YtedingegmiacmaaCMem
import Derived.Test.YtedingegmiacmaaQueueMath
import Derived.Sort.Row
import Derived.Sort.WalkB12
namespace Go.Proofs.Ytedingegmiacmaa
open Go.RowKit
set_option linter.unusedVariables false

/-- what a queue's numbers say -/
structure QV (R : List Int) (most : Nat) (L : List Int) : Prop where
  m : R.getD 0 0 = (most : Int)
  j : ∀ i, i < L.length → R.getD (1 + i) 0 = L.getD i 0
  n : R.getD 9 0 = (L.length : Int)
  l : L.length ≤ 8
/-- the program's queue in memory -/
def Qm (w : World) (g most : Nat) (L : List Int) : Prop := ∃ R, Nb 54 10 w g R ∧ QV R most L
/-- a queue that no call made -/
def Q0 (w : World) (g : Nat) : Prop := Nb 54 10 w g [0, 0, 0, 0, 0, 0, 0, 0, 0, 0]
section
variable {w w' : World} {g most : Nat} {L : List Int} {R : List Int}
set_option maxRecDepth 100000 in
theorem Qm.lt (h : Qm w g most L) : g < w.heap.size := by obtain ⟨R, h1, _⟩ := h; exact h1.lt
set_option maxRecDepth 100000 in
theorem Qm.len (h : Qm w g most L) : L.length ≤ 8 := by obtain ⟨R, _, h2⟩ := h; exact h2.l
set_option maxRecDepth 100000 in
theorem Qm.keep (h : Qm w g most L) (hb : w'.heap[g]? = w.heap[g]?) : Qm w' g most L := by obtain ⟨R, h1, h2⟩ := h; exact ⟨R, h1.keep hb, h2⟩
set_option maxRecDepth 100000 in
theorem Qm.below (h : Qm w g most L) (hb : Below w.heap.size w w') : Qm w' g most L := h.keep (hb.block g h.lt)
set_option maxRecDepth 100000 in
theorem Qm.kept {own : Nat → Prop} (h : Qm w g most L) (hb : Kept own w w') (ho : ¬ own g) : Qm w' g most L := h.keep (hb.block g h.lt ho)
set_option maxRecDepth 100000 in
theorem Qm.c0 (h : Qm w g most L) : w.cell? ⟨g, 0, none⟩ = some (.int .i64 most) := by obtain ⟨R, h1, h2⟩ := h; rw [h1.cell 0 (by omega), h2.m]
set_option maxRecDepth 100000 in
theorem Qm.c9 (h : Qm w g most L) : w.cell? ⟨g, 9, none⟩ = some (.int .i64 (L.length : Nat)) := by obtain ⟨R, h1, h2⟩ := h; rw [h1.cell 9 (by omega), h2.n]
set_option maxRecDepth 100000 in
theorem Qm.cj (h : Qm w g most L) (i : Nat) (hi : i < L.length) : w.cell? ⟨g, 1 + i, none⟩ = some (.int .i64 (L.getD i 0)) := by
  have hl := h.len
  obtain ⟨R, h1, h2⟩ := h
  rw [h1.cell (1 + i) (by omega), h2.j i hi]
set_option maxRecDepth 100000 in
theorem Qm.there (h : Qm w g most L) (i : Nat) (hi : i < 10) : ∃ x, w.cell? ⟨g, i, none⟩ = some (.int .i64 x) := by obtain ⟨R, h1, _⟩ := h; exact ⟨_, h1.cell i hi⟩
set_option maxRecDepth 100000 in
theorem Qm.froz (h : Qm w g most L) (i : Nat) : w.frozen? ⟨g, i, none⟩ = false := by obtain ⟨R, h1, _⟩ := h; exact h1.froz i
set_option maxRecDepth 100000 in
/-- the jobs that wait, where they stand -/
theorem Qm.ivs (h : Qm w g most L) : Ivs w (some ⟨g, 1, none⟩) L.length 8 L :=
  ⟨rfl, h.len, by unfold maxLen; omega, (fun e => by cases e), fun _ => ⟨g, 1, rfl, h.lt, fun i hi j hj => by
    obtain rfl : j = 0 := by omega
    rw [Nat.mul_one, Nat.add_zero, h.cj i hi, List.getD_eq_getElem?_getD, List.getElem?_eq_getElem hi]; rfl⟩⟩
set_option maxRecDepth 100000 in
/-- one more -/
theorem QV.put (h : QV R most L) (hl : R.length = 10) (hn : L.length < 8) (x : Int) : QV ((R.set (1 + L.length) x).set 9 ((L.length + 1 : Nat) : Int)) most (L ++ [x]) := by
  have e1 : ∀ j, ((R.set (1 + L.length) x).set 9 ((L.length + 1 : Nat) : Int)).getD j 0 = if j = 9 then ((L.length + 1 : Nat) : Int) else if j = 1 + L.length then x else R.getD j 0 := fun j => by
    rw [getD_set _ _ _ _ (by rw [List.length_set]; omega), getD_set _ _ _ _ (by omega)]
  refine ⟨?_, fun i hi => ?_, ?_, ?_⟩
  · rw [e1, if_neg (by omega), if_neg (by omega)]; exact h.m
  · have hi2 : i < L.length + 1 := by simpa using hi
    rw [e1, if_neg (by omega), getD_append_last]
    by_cases e : i = L.length
    · rw [if_pos (by omega), if_pos e]
    · rw [if_neg (by omega), if_neg e]; exact h.j i (by omega)
  · rw [e1, if_pos rfl, List.length_append]; rfl
  · rw [List.length_append]; show L.length + 1 ≤ 8; omega
set_option maxRecDepth 100000 in
theorem Qm.put (h : Qm w g most L) (hn : L.length < 8) (x : Int) : Qm ((w.setCell ⟨g, 1 + L.length, none⟩ (.int .i64 x)).setCell ⟨g, 9, none⟩ (.int .i64 (L.length + 1 : Nat))) g most (L ++ [x]) := by
  obtain ⟨R, h1, h2⟩ := h
  exact ⟨_, (h1.set (1 + L.length) x).set 9 ((L.length + 1 : Nat) : Int), h2.put h1.len hn x⟩
set_option maxRecDepth 100000 in
theorem Qm.put9 (h : Qm w g most L) (hn : L.length < 8) (x : Int) : (w.setCell ⟨g, 1 + L.length, none⟩ (.int .i64 x)).cell? ⟨g, 9, none⟩ = some (.int .i64 (L.length : Nat)) ∧ (w.setCell ⟨g, 1 + L.length, none⟩ (.int .i64 x)).frozen? ⟨g, 9, none⟩ = false := by
  obtain ⟨R, h1, h2⟩ := h
  have hl := h1.len
  have h3 := h1.set (1 + L.length) x
  exact ⟨by rw [h3.cell 9 (by omega), getD_set _ _ _ _ (by omega), if_neg (by omega), h2.n], h3.froz 9⟩
set_option maxRecDepth 100000 in
theorem Qm.holds (h : Qm w g most L) : Sort.Holds encI w g 1 L.toArray := fun j hj => by
  have hj2 : j < L.length := by simpa using hj
  refine ⟨?_, h.froz _⟩
  rw [h.cj j hj2, List.getD_eq_getElem?_getD, List.getElem?_eq_getElem hj2, getElem!_pos L.toArray j hj]; rfl
/-- numbers that are written over -/
def ovr (R D : List Int) : List Int := (List.range R.length).map fun k => if 1 ≤ k ∧ k < 1 + D.length then D.getD (k - 1) 0 else R.getD k 0
set_option maxRecDepth 100000 in
theorem ovr_get (R D : List Int) (k : Nat) (hk : k < R.length) : (ovr R D).getD k 0 = if 1 ≤ k ∧ k < 1 + D.length then D.getD (k - 1) 0 else R.getD k 0 := by
  unfold ovr
  rw [List.getD_eq_getElem?_getD, List.getElem?_map, List.getElem?_range hk]; rfl
set_option maxRecDepth 100000 in
theorem put_ivA (R D : List Int) : Sort.putCells encI 1 D.toArray (ivA R) = ivA (ovr R D) := by
  apply Array.ext_getElem?
  intro k
  unfold Sort.putCells
  rw [Array.getElem?_mapIdx]
  by_cases hk : k < R.length
  · rw [ivA_get R k hk, ivA_get (ovr R D) k (by unfold ovr; simpa using hk), Option.map_some, ovr_get R D k hk]
    congr 1
    by_cases hr : 1 ≤ k ∧ k < 1 + D.length
    · rw [if_pos (by simpa using hr), if_pos hr, getElem!_pos D.toArray (k - 1) (by simp; omega), List.getD_eq_getElem?_getD, List.getElem?_eq_getElem (by omega)]; rfl
    · rw [if_neg (by simpa using hr), if_neg hr]
  · have h1 : (ivA R)[k]? = none := by unfold ivA; rw [List.getElem?_toArray, List.getElem?_eq_none]; simpa using hk
    have h2 : (ivA (ovr R D))[k]? = none := by unfold ivA ovr; rw [List.getElem?_toArray, List.getElem?_eq_none]; simpa using hk
    rw [h1, h2]; rfl
set_option maxRecDepth 100000 in
theorem putRow_block (w : World) (g q : Nat) (D : Array Int) (h1 : w.heap[g]? = some (.cells (ivA R) 54 (0, 0))) : (Sort.putRow encI (Sort.ahead w q) g 1 D).heap[g]? = some (.cells (Sort.putCells encI 1 D (ivA R)) 54 (0, 0)) := by
  simp [Sort.putRow, Sort.mapBlock, Sort.ahead, Array.getElem?_modify, h1, Sort.onCells]
set_option maxRecDepth 100000 in
theorem putRow_kept (w : World) (g q : Nat) (D : Array Int) : Kept (fun k => k = g) w (Sort.putRow encI (Sort.ahead w q) g 1 D) :=
  ⟨rfl, rfl, rfl, by rw [Sort.size_putRow]; exact Nat.le_refl _, fun k _ hne => by
    simp only [Sort.putRow, Sort.mapBlock, Sort.ahead, Array.getElem?_modify]
    rw [if_neg (fun e => hne e.symm)]⟩
set_option maxRecDepth 100000 in
/-- one fewer -/
theorem QV.del (h : QV R most L) (hl : R.length = 10) (p : Nat) (hp : p < L.length) (D : List Int) (hD : D = L.take p ++ L.drop (p + 1) ++ [0]) : QV ((ovr R D).set 9 ((L.length - 1 : Nat) : Int)) most (L.take p ++ L.drop (p + 1)) := by
  have hl8 := h.l
  have hDl : D.length = L.length := by rw [hD]; simp; omega
  have hMl : (L.take p ++ L.drop (p + 1)).length = L.length - 1 := by simp; omega
  have hol : (ovr R D).length = 10 := by unfold ovr; simpa using hl
  have e1 : ∀ j, j < 10 → ((ovr R D).set 9 ((L.length - 1 : Nat) : Int)).getD j 0 = if j = 9 then ((L.length - 1 : Nat) : Int) else if 1 ≤ j ∧ j < 1 + L.length then D.getD (j - 1) 0 else R.getD j 0 := fun j hj => by
    rw [getD_set _ _ _ _ (by omega), ovr_get _ _ _ (by omega), hDl]
  refine ⟨?_, fun i hi => ?_, ?_, by omega⟩
  · rw [e1 0 (by omega), if_neg (by omega), if_neg (by omega)]; exact h.m
  · rw [hMl] at hi
    rw [e1 (1 + i) (by omega), if_neg (by omega), if_pos (by omega), show 1 + i - 1 = i from by omega, hD, List.getD_eq_getElem?_getD, List.getElem?_append_left (by omega), ← List.getD_eq_getElem?_getD]
  · rw [e1 9 (by omega), if_pos rfl, hMl]
set_option maxRecDepth 100000 in
theorem Qm.del (h : Qm w g most L) (p : Nat) (hp : p < L.length) (q : Nat) (D : Array Int) (hD : D = (L.take p ++ L.drop (p + 1) ++ [0]).toArray) : Qm ((Sort.putRow encI (Sort.ahead w q) g 1 D).setCell ⟨g, 9, none⟩ (.int .i64 (L.length - 1 : Nat))) g most (L.take p ++ L.drop (p + 1)) := by
  obtain ⟨R, h1, h2⟩ := h
  have hb := putRow_block w g q D h1.row
  rw [hD, put_ivA, ← hD] at hb
  have h3 : Nb 54 10 (Sort.putRow encI (Sort.ahead w q) g 1 D) g (ovr R (L.take p ++ L.drop (p + 1) ++ [0])) := ⟨hb, by unfold ovr; simpa using h1.len⟩
  exact ⟨_, h3.set 9 ((L.length - 1 : Nat) : Int), h2.del h1.len p hp _ rfl⟩
set_option maxRecDepth 100000 in
theorem Qm.del9 (h : Qm w g most L) (q : Nat) (D : Array Int) : (∃ x, (Sort.putRow encI (Sort.ahead w q) g 1 D).cell? ⟨g, 9, none⟩ = some x) ∧ (Sort.putRow encI (Sort.ahead w q) g 1 D).frozen? ⟨g, 9, none⟩ = false := by
  obtain ⟨R, h1, h2⟩ := h
  have hb := putRow_block w g q D h1.row
  rw [show D = D.toList.toArray from by simp, put_ivA] at hb
  have h3 : Nb 54 10 (Sort.putRow encI (Sort.ahead w q) g 1 D) g (ovr R D.toList) := ⟨by simpa using hb, by unfold ovr; simpa using h1.len⟩
  exact ⟨⟨_, h3.cell 9 (by omega)⟩, h3.froz 9⟩
set_option maxRecDepth 100000 in
theorem Q0.below (h : Q0 w g) (hb : Below w.heap.size w w') : Q0 w' g := Nb.below h hb
set_option maxRecDepth 100000 in
theorem Q0.c0 (h : Q0 w g) : w.cell? ⟨g, 0, none⟩ = some (.int .i64 0) := Nb.cell h 0 (by omega)
end
set_option maxRecDepth 100000 in
/-- the first that wants a turn -/
theorem fstW_is (W : List Bool) : ∀ (n i p : Nat), p - i = n → i ≤ p → p < W.length → W.getD p false = true → (∀ j, i ≤ j → j < p → W.getD j false = false) → fstW W i = some p
  | 0, i, p, hn, h1, h2, h3, h4 => by (obtain rfl : i = p := by omega); exact fstW_yes W i h2 h3
  | n + 1, i, p, hn, h1, h2, h3, h4 => by rw [fstW_no W i (by omega) (h4 i (Nat.le_refl _) (by omega))]; exact fstW_is W n (i + 1) p (by omega) (by omega) h2 h3 (fun j a b => h4 j (by omega) b)
set_option maxRecDepth 100000 in
theorem fstW_non (W : List Bool) : ∀ (n i : Nat), W.length - i = n → (∀ j, i ≤ j → j < W.length → W.getD j false = false) → fstW W i = none
  | 0, i, hn, h => fstW_end W i (by omega)
  | n + 1, i, hn, h => by rw [fstW_no W i (by omega) (h i (Nat.le_refl _) (by omega))]; exact fstW_non W n (i + 1) (by omega) (fun j a b => h j (by omega) b)
/-- the place behind which it begins -/
def begW (n : Nat) (last : Int) : Nat := if 0 ≤ last ∧ last < (n : Int) then last.toNat else n - 1
set_option maxRecDepth 100000 in
theorem begW_lt {n : Nat} (h : 0 < n) (last : Int) : begW n last < n := by unfold begW; split <;> omega
set_option maxRecDepth 100000 in
theorem mod_low {a n : Nat} (h : a < n) : a % n = a := Nat.mod_eq_of_lt h
set_option maxRecDepth 100000 in
theorem mod_high {a n : Nat} (h1 : n ≤ a) (h2 : a < n + n) : a % n = a - n := by rw [Nat.mod_eq_sub_mod h1]; exact Nat.mod_eq_of_lt (by omega)
/-- those that were looked at do not want one -/
def nowW (W : List Bool) (last : Int) (k : Nat) : Prop := ∀ i, i < k → W.getD ((begW W.length last + 1 + i) % W.length) false = false
set_option maxRecDepth 100000 in
theorem nowW_snoc {W : List Bool} {last : Int} {k : Nat} (h : nowW W last k) (hk : W.getD ((begW W.length last + 1 + k) % W.length) false = false) : nowW W last (k + 1) := fun i hi => by
  by_cases e : i = k
  · rw [e]; exact hk
  · exact h i (by omega)
set_option maxRecDepth 100000 in
theorem trn_now {W : List Bool} {last : Int} {k : Nat} (h : nowW W last k) (hl : k < W.length) (hk : W.getD ((begW W.length last + 1 + k) % W.length) false = true) : trn W last = some ((begW W.length last + 1 + k) % W.length) := by
  have hb := begW_lt (n := W.length) (by omega) last
  unfold nowW at h
  unfold trn
  by_cases hr : 0 ≤ last ∧ last < (W.length : Int)
  · rw [if_pos hr]
    have hbe : begW W.length last = last.toNat := by unfold begW; rw [if_pos hr]
    rw [← hbe]
    generalize begW W.length last = m at *
    by_cases hs : m + 1 + k < W.length
    · rw [mod_low hs] at hk ⊢
      rw [fstW_is W _ (m + 1) (m + 1 + k) rfl (by omega) hs hk (fun j a b => by have := h (j - (m + 1)) (by omega); rwa [show m + 1 + (j - (m + 1)) = j from by omega, mod_low (by omega)] at this)]
    · rw [mod_high (by omega) (by omega)] at hk ⊢
      have h1 : ∀ j, m + 1 ≤ j → j < W.length → W.getD j false = false := fun j a b => by have := h (j - (m + 1)) (by omega); rwa [show m + 1 + (j - (m + 1)) = j from by omega, mod_low (by omega)] at this
      rw [fstW_non W _ (m + 1) rfl h1]
      exact fstW_is W _ 0 (m + 1 + k - W.length) rfl (by omega) (by omega) hk (fun j a b => by have := h (j + W.length - (m + 1)) (by omega); rwa [show m + 1 + (j + W.length - (m + 1)) = j + W.length from by omega, mod_high (by omega) (by omega), Nat.add_sub_cancel] at this)
  · rw [if_neg hr]
    have hbe : begW W.length last = W.length - 1 := by unfold begW; rw [if_neg hr]
    rw [hbe] at h hk ⊢
    rw [show W.length - 1 + 1 + k = W.length + k from by omega, mod_high (by omega) (by omega), Nat.add_sub_cancel_left] at hk ⊢
    exact fstW_is W _ 0 k rfl (by omega) hl hk (fun j a b => by have := h j b; rwa [show W.length - 1 + 1 + j = W.length + j from by omega, mod_high (by omega) (by omega), Nat.add_sub_cancel_left] at this)
set_option maxRecDepth 100000 in
theorem trn_end {W : List Bool} {last : Int} (h : nowW W last W.length) : trn W last = none := by
  have h0 : ∀ j, j < W.length → W.getD j false = false := fun j hj => by
    have hb := begW_lt (n := W.length) (by omega) last
    unfold nowW at h
    generalize begW W.length last = m at *
    by_cases hm : m + 1 ≤ j
    · have := h (j - (m + 1)) (by omega)
      rwa [show m + 1 + (j - (m + 1)) = j from by omega, mod_low hj] at this
    · have := h (j + W.length - (m + 1)) (by omega)
      rwa [show m + 1 + (j + W.length - (m + 1)) = j + W.length from by omega, mod_high (by omega) (by omega), Nat.add_sub_cancel] at this
  have h1 : ∀ i, fstW W i = none := fun i => fstW_non W _ i rfl (fun j _ b => h0 j b)
  unfold trn
  rw [h1, h1]
  split <;> rfl
end Go.Proofs.Ytedingegmiacmaa
