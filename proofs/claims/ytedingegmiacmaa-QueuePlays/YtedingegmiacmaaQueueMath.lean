/- Jobs that wait; whose turn it is. No walk. -/
import Derived.Test.YtedingegmiacmaaBase
namespace Go.Proofs.Ytedingegmiacmaa
open Go.RowKit
set_option linter.unusedVariables false

/-- Put: what waits, the error -/
def qPut (most : Nat) (L : List Int) (j : Int) : List Int × Int :=
  if j < 0 then (L, 2) else if j ∈ L then (L, 10) else if L.length = most then (L, 11) else (L ++ [j], 0)
/-- without a number -/
def wout (L : List Int) (j : Int) : List Int := L.filter (fun x => x != j)
/-- Done: what waits, the error -/
def qDone (L : List Int) (j : Int) : List Int × Int := if j ∈ L then (wout L j, 0) else (L, 9)
/-- what holds of a queue -/
structure QI (most : Nat) (L : List Int) : Prop where
  le : L.length ≤ most
  nd : L.Nodup
  pos : ∀ x ∈ L, 0 ≤ x
set_option maxRecDepth 100000 in
theorem qi_zero (most : Nat) : QI most [] := ⟨Nat.zero_le _, List.nodup_nil, fun x hx => by cases hx⟩
set_option maxRecDepth 100000 in
theorem wout_nil (j : Int) : wout [] j = [] := rfl
set_option maxRecDepth 100000 in
theorem wout_app (A B : List Int) (j : Int) : wout (A ++ B) j = wout A j ++ wout B j := by unfold wout; rw [List.filter_append]
set_option maxRecDepth 100000 in
theorem wout_in {L : List Int} {j x : Int} : x ∈ wout L j ↔ x ∈ L ∧ x ≠ j := by unfold wout; rw [List.mem_filter]; simp
set_option maxRecDepth 100000 in
theorem wout_le (L : List Int) (j : Int) : (wout L j).length ≤ L.length := List.length_filter_le _ _
set_option maxRecDepth 100000 in
theorem wout_same {L : List Int} {j : Int} (h : j ∉ L) : wout L j = L := by
  unfold wout
  rw [List.filter_eq_self]
  intro x hx
  have : x ≠ j := fun e => h (by rw [← e]; exact hx)
  simpa using this
set_option maxRecDepth 100000 in
theorem wout_less {L : List Int} {j : Int} (h : j ∈ L) : (wout L j).length < L.length := by
  rcases Nat.lt_or_ge (wout L j).length L.length with h1 | h1
  · exact h1
  · exfalso
    have h2 : (wout L j).length = L.length := Nat.le_antisymm (wout_le L j) h1
    unfold wout at h2
    have h3 := List.filter_eq_self.1 ((List.filter_sublist).eq_of_length h2) j h
    simp at h3
set_option maxRecDepth 100000 in
theorem wout_iff {L : List Int} {j : Int} : (wout L j).length < L.length ↔ j ∈ L := by
  refine ⟨fun h => ?_, wout_less⟩
  by_cases hj : j ∈ L
  · exact hj
  · rw [wout_same hj] at h; exact absurd h (Nat.lt_irrefl _)
set_option maxRecDepth 100000 in
/-- the one at a place is gone -/
theorem wout_at {L : List Int} (hn : L.Nodup) {i : Nat} (hi : i < L.length) : wout L (L[i]) = L.take i ++ L.drop (i + 1) := by
  have e : L = L.take i ++ L[i] :: L.drop (i + 1) := by rw [← List.drop_eq_getElem_cons hi, List.take_append_drop]
  have hn2 : (L.take i ++ L[i] :: L.drop (i + 1)).Nodup := by rw [← e]; exact hn
  rw [List.nodup_append] at hn2
  obtain ⟨_, h2, h3⟩ := hn2
  have h4 : L[i] ∉ L.take i := fun h => h3 _ h _ List.mem_cons_self rfl
  have h5 : L[i] ∉ L.drop (i + 1) := (List.nodup_cons.1 h2).1
  generalize L[i] = x at *
  conv => lhs; rw [e]
  rw [wout_app, wout_same h4]
  congr 1
  show (List.filter _ (x :: L.drop (i + 1))) = _
  rw [List.filter_cons_of_neg (by simp)]
  exact wout_same h5
set_option maxRecDepth 100000 in
theorem QI.put {most : Nat} {L : List Int} (h : QI most L) (j : Int) : QI most (qPut most L j).1 := by
  unfold qPut
  split
  · exact h
  · rename_i h0
    split
    · exact h
    · rename_i h1
      split
      · exact h
      · rename_i h2
        have hle := h.le
        refine ⟨by show (L ++ [j]).length ≤ most; rw [List.length_append, List.length_singleton]; omega, ?_, fun x hx => ?_⟩
        · show (L ++ [j]).Nodup
          rw [List.nodup_append]
          refine ⟨h.nd, by simp, fun a ha b hb e => ?_⟩
          have : b = j := by simpa using hb
          exact h1 (by rw [← this, ← e]; exact ha)
        · have hx2 : x ∈ L ++ [j] := hx
          rcases List.mem_append.1 hx2 with h3 | h3
          · exact h.pos x h3
          · have : x = j := by simpa using h3
            omega
set_option maxRecDepth 100000 in
theorem QI.done {most : Nat} {L : List Int} (h : QI most L) (j : Int) : QI most (qDone L j).1 := by
  unfold qDone
  split
  · exact ⟨Nat.le_trans (wout_le L j) h.le, h.nd.filter _, fun x hx => h.pos x (wout_in.1 hx).1⟩
  · exact h
set_option maxRecDepth 100000 in
/-- the first goes -/
theorem done_first {j : Int} {t : List Int} (h : (j :: t).Nodup) : qDone (j :: t) j = (t, 0) ∧ qDone t j = (t, 9) := by
  have hn := (List.nodup_cons.1 h).1
  constructor
  · unfold qDone
    rw [if_pos List.mem_cons_self]
    show (List.filter _ (j :: t), 0) = _
    rw [List.filter_cons_of_neg (by simp)]
    have := wout_same hn
    unfold wout at this
    rw [this]
  · unfold qDone; rw [if_neg hn]
/-- the first place from i on that wants a turn -/
def fstF : Nat → List Bool → Option Nat
  | _, [] => none
  | i, b :: t => if b = true then some i else fstF (i + 1) t
def fstW (W : List Bool) (i : Nat) : Option Nat := fstF i (W.drop i)
def trn (W : List Bool) (last : Int) : Option Nat :=
  if 0 ≤ last ∧ last < (W.length : Int) then (match fstW W (last.toNat + 1) with | some i => some i | none => fstW W 0) else fstW W 0
set_option maxRecDepth 100000 in
theorem drop_b (W : List Bool) (i : Nat) (h : i < W.length) : W.drop i = W.getD i false :: W.drop (i + 1) := by
  rw [List.drop_eq_getElem_cons h, List.getD_eq_getElem?_getD, List.getElem?_eq_getElem h]; rfl
set_option maxRecDepth 100000 in
theorem fstW_end (W : List Bool) (i : Nat) (h : W.length ≤ i) : fstW W i = none := by unfold fstW; rw [List.drop_of_length_le h]; rfl
set_option maxRecDepth 100000 in
theorem fstW_yes (W : List Bool) (i : Nat) (h : i < W.length) (hw : W.getD i false = true) : fstW W i = some i := by unfold fstW; rw [drop_b W i h]; show (if _ then _ else _) = _; rw [if_pos hw]
set_option maxRecDepth 100000 in
theorem fstW_no (W : List Bool) (i : Nat) (h : i < W.length) (hw : W.getD i false = false) : fstW W i = fstW W (i + 1) := by unfold fstW; rw [drop_b W i h]; show (if _ then _ else _) = _; rw [if_neg (by rw [hw]; decide)]
set_option maxRecDepth 100000 in
theorem fstW_some (W : List Bool) : ∀ (n i k : Nat), W.length - i = n → fstW W i = some k → i ≤ k ∧ k < W.length ∧ W.getD k false = true ∧ ∀ j, i ≤ j → j < k → W.getD j false = false
  | 0, i, k, hn, h => by rw [fstW_end W i (by omega)] at h; cases h
  | n + 1, i, k, hn, h => by
    cases hw : W.getD i false with
    | true =>
      rw [fstW_yes W i (by omega) hw] at h
      cases h
      exact ⟨Nat.le_refl _, by omega, hw, fun j h1 h2 => by omega⟩
    | false =>
      rw [fstW_no W i (by omega) hw] at h
      obtain ⟨h1, h2, h3, h4⟩ := fstW_some W n (i + 1) k (by omega) h
      refine ⟨by omega, h2, h3, fun j j1 j2 => ?_⟩
      by_cases e : j = i
      · rw [e]; exact hw
      · exact h4 j (by omega) j2
set_option maxRecDepth 100000 in
theorem fstW_none (W : List Bool) : ∀ (n i : Nat), W.length - i = n → fstW W i = none → ∀ j, i ≤ j → W.getD j false = false
  | 0, i, hn, h, j, hj => by rw [List.getD_eq_getElem?_getD, List.getElem?_eq_none (by omega)]; rfl
  | n + 1, i, hn, h, j, hj => by
    cases hw : W.getD i false with
    | true => rw [fstW_yes W i (by omega) hw] at h; cases h
    | false =>
      rw [fstW_no W i (by omega) hw] at h
      by_cases e : j = i
      · rw [e]; exact hw
      · exact fstW_none W n (i + 1) (by omega) h j (by omega)
set_option maxRecDepth 100000 in
/-- who has a turn wants one -/
theorem trn_some {W : List Bool} {last : Int} {k : Nat} (h : trn W last = some k) : k < W.length ∧ W.getD k false = true := by
  unfold trn at h
  split at h
  · split at h
    · rename_i i hi
      cases h
      have := fstW_some W _ _ _ rfl hi
      exact ⟨this.2.1, this.2.2.1⟩
    · have := fstW_some W _ _ _ rfl h
      exact ⟨this.2.1, this.2.2.1⟩
  · have := fstW_some W _ _ _ rfl h
    exact ⟨this.2.1, this.2.2.1⟩
set_option maxRecDepth 100000 in
/-- where one wants a turn somebody has one -/
theorem trn_is {W : List Bool} {who : Nat} (hw : W.getD who false = true) (last : Int) : ∃ k, trn W last = some k := by
  have h0 : ∃ k, fstW W 0 = some k := by
    cases h : fstW W 0 with
    | some k => exact ⟨k, rfl⟩
    | none => rw [fstW_none W _ 0 rfl h who (Nat.zero_le _)] at hw; cases hw
  unfold trn
  split
  · split
    · exact ⟨_, rfl⟩
    · exact h0
  · exact h0
/-- how many places are between, at most -/
def dstW (n who : Nat) (last : Int) : Int := if 0 ≤ last ∧ last < (n : Int) then (if last < (who : Int) then who - last - 1 else who - last - 1 + n) else who
set_option maxRecDepth 100000 in
theorem dstW_le {n who : Nat} (h : who < n) (last : Int) : 0 ≤ dstW n who last ∧ dstW n who last < n := by
  unfold dstW; split
  · split <;> omega
  · omega
set_option maxRecDepth 100000 in
/-- nearer with each turn -/
theorem trn_near {W : List Bool} {who k : Nat} {last : Int} (hl : who < W.length) (hw : W.getD who false = true) (h : trn W last = some k) (hk : k ≠ who) : dstW W.length who (k : Int) < dstW W.length who last := by
  have hkl := (trn_some h).1
  unfold trn at h
  split at h
  · rename_i hr
    split at h
    · rename_i i hi
      cases h
      obtain ⟨h1, h2, h3, h4⟩ := fstW_some W _ _ _ rfl hi
      have hb : ¬ (last < (who : Int) ∧ who < k) := fun ⟨a, b⟩ => by rw [h4 who (by omega) b] at hw; cases hw
      unfold dstW
      rw [if_pos (by omega), if_pos hr]
      by_cases e1 : last < (who : Int)
      · rw [if_pos (by omega), if_pos e1]; omega
      · rw [if_neg (by omega), if_neg e1]; omega
    · rename_i hi
      obtain ⟨h1, h2, h3, h4⟩ := fstW_some W _ _ _ rfl h
      have hb : ¬ last < (who : Int) := fun a => by rw [fstW_none W _ _ rfl hi who (by omega)] at hw; cases hw
      have hb2 : ¬ who < k := fun a => by rw [h4 who (Nat.zero_le _) a] at hw; cases hw
      unfold dstW
      rw [if_pos (by omega), if_pos hr, if_pos (by omega), if_neg hb]; omega
  · rename_i hr
    obtain ⟨h1, h2, h3, h4⟩ := fstW_some W _ _ _ rfl h
    have hb2 : ¬ who < k := fun a => by rw [h4 who (Nat.zero_le _) a] at hw; cases hw
    unfold dstW
    rw [if_pos (by omega), if_neg hr, if_pos (by omega)]; omega
end Go.Proofs.Ytedingegmiacmaa
