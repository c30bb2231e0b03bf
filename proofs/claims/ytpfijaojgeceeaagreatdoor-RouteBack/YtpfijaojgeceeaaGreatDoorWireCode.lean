/- What the library answers of lines, as lists of bytes have it. No walk. -/
import Derived.Test.YtpfijaojgeceeaaGreatDoorAuap
import Derived.Lib.IndexMore
import Derived.Lib.Case
import Derived.Lib.SlTrimSet
namespace Go.Proofs.YtpfijaojgeceeaaGreatDoor
open Go.RowKit
set_option linter.unusedVariables false

set_option maxRecDepth 100000 in
theorem u8_getD (l : List Int) (i : Nat) (h : i < l.length) : (l.map u8I)[i]? = some (u8I (l.getD i 0)) := by
  rw [List.getElem?_map, List.getElem?_eq_getElem h, List.getD_eq_getElem?_getD, List.getElem?_eq_getElem h]; rfl
set_option maxRecDepth 100000 in
theorem occ_two (l : List Int) (hl : Byt l) (i : Nat) : Lib.occAt (l.map u8I) [58, 32] i = true ↔ (i + 1 < l.length ∧ l.getD i 0 = 58 ∧ l.getD (i + 1) 0 = 32) := by
  have e58 : (58 : UInt8) = u8I 58 := rfl
  have e32 : (32 : UInt8) = u8I 32 := rfl
  unfold Lib.occAt
  by_cases h1 : i + 1 < l.length
  · have d : (l.map u8I).drop i = u8I (l.getD i 0) :: u8I (l.getD (i + 1) 0) :: (l.map u8I).drop (i + 2) := by
      rw [← List.map_drop, ← List.map_drop, drop_head l i (by omega), drop_head l (i + 1) h1]; rfl
    rw [d]
    simp only [List.isPrefixOf, Bool.and_true, Bool.and_eq_true, beq_iff_eq]
    constructor
    · rintro ⟨a, b⟩
      exact ⟨h1, (u8I_inj ⟨by decide, by decide⟩ (hl.getD i) (e58 ▸ a)).symm, (u8I_inj ⟨by decide, by decide⟩ (hl.getD (i + 1)) (e32 ▸ b)).symm⟩
    · rintro ⟨_, a, b⟩
      rw [a, b]; exact ⟨rfl, rfl⟩
  · constructor
    · intro h
      exfalso
      have hlen := (List.isPrefixOf_iff_prefix.1 h).length_le
      simp at hlen
      omega
    · rintro ⟨a, _⟩; omega
set_option maxRecDepth 100000 in
theorem colI_le : ∀ l : List Int, colI l ≤ l.length
  | [] => Nat.le_refl _
  | c :: r => by unfold colI; split; · simp
                 · have := colI_le r; simp; omega
set_option maxRecDepth 100000 in
theorem colI_at : ∀ l : List Int, colI l < l.length → l.getD (colI l) 0 = 58
  | [], h => by simp [colI] at h
  | c :: r, h => by
    unfold colI at h ⊢
    split
    · rename_i e; simpa using e
    · rename_i e; rw [if_neg e] at h; simpa using colI_at r (by simpa using h)
set_option maxRecDepth 100000 in
theorem colI_first : ∀ (l : List Int) (j : Nat), j < colI l → l.getD j 0 ≠ 58
  | [], j, h => by simp [colI] at h
  | c :: r, j, h => by
    unfold colI at h
    split at h
    · omega
    · rename_i e
      cases j with
      | zero => simpa using e
      | succ j => simpa using colI_first r j (by omega)
/-- what a name may be -/
def nmB (m : List Int) : Bool := decide (1 ≤ m.length) && (decide (m.length ≤ 32) && m.all letB)
set_option maxRecDepth 100000 in
theorem nmB_colon {m : List Int} {j : Nat} (hj : j < m.length) (h : m.getD j 0 = 58) : nmB m = false := by
  unfold nmB
  have : m.all letB = false := by
    rw [List.all_eq_false]
    refine ⟨m.getD j 0, ?_, ?_⟩
    · rw [List.getD_eq_getElem?_getD, List.getElem?_eq_getElem hj]; exact List.getElem_mem _
    · rw [h]; decide
  rw [this]; simp
set_option maxRecDepth 100000 in
/-- a line, cut at the first colon with a blank behind it -/
theorem cut_nam (l : List Int) (hl : Byt l) : (∃ i, namI l = some i ∧ i + 2 ≤ l.length ∧ nmB (l.take i) = true ∧ Lib.cut (l.map u8I) [58, 32] = ((l.take i).map u8I, (l.drop (i + 2)).map u8I, true)) ∨
    (namI l = none ∧ ((Lib.cut (l.map u8I) [58, 32] = (l.map u8I, [], false)) ∨ ∃ i, i + 2 ≤ l.length ∧ nmB (l.take i) = false ∧ Lib.cut (l.map u8I) [58, 32] = ((l.take i).map u8I, (l.drop (i + 2)).map u8I, true))) := by
  have hcl := colI_le l
  rcases Lib.index_spec (l.map u8I) [58, 32] with ⟨h1, h2⟩ | ⟨i, h1, h2, h3, h4⟩
  · right
    constructor
    · unfold namI
      rw [if_neg]
      rintro ⟨_, _, _, a, b⟩
      have := h2 (colI l) (by simpa using hcl)
      rw [(occ_two l hl (colI l)).2 ⟨a, colI_at l (by omega), b⟩] at this
      cases this
    · left
      unfold Lib.cut
      rw [if_neg (by rw [h1]; decide)]
  · have ho := (occ_two l hl i).1 h3
    have hcut : Lib.cut (l.map u8I) [58, 32] = ((l.take i).map u8I, (l.drop (i + 2)).map u8I, true) := by
      unfold Lib.cut
      rw [if_pos (by rw [h1]; exact Int.natCast_nonneg _), h1]
      simp [List.map_take, List.map_drop]
    have hci : colI l ≤ i := by
      by_cases h : colI l ≤ i
      · exact h
      · exact absurd ho.2.1 (colI_first l i (by omega))
    have htl : (l.take i).length = i := by rw [List.length_take]; omega
    by_cases he : colI l = i
    · cases hb : nmB (l.take i) with
      | true =>
        left
        refine ⟨i, ?_, by omega, hb, hcut⟩
        unfold nmB at hb
        simp only [Bool.and_eq_true, decide_eq_true_eq, htl] at hb
        unfold namI
        rw [he, if_pos ⟨hb.2.2, hb.1, hb.2.1, ho.1, ho.2.2⟩]
      | false =>
        right
        refine ⟨?_, .inr ⟨i, by omega, hb, hcut⟩⟩
        unfold namI
        rw [he, if_neg]
        rintro ⟨a, b, c, _⟩
        have : nmB (l.take i) = true := by unfold nmB; simp only [Bool.and_eq_true, decide_eq_true_eq, htl]; exact ⟨b, c, a⟩
        rw [hb] at this; cases this
    · right
      refine ⟨?_, .inr ⟨i, by omega, ?_, hcut⟩⟩
      · unfold namI
        rw [if_neg]
        rintro ⟨_, _, _, a, b⟩
        have := h4 (colI l) (by omega)
        rw [(occ_two l hl (colI l)).2 ⟨a, colI_at l (by omega), b⟩] at this
        cases this
      · refine nmB_colon (j := colI l) (by omega) ?_
        rw [List.getD_eq_getElem?_getD, List.getElem?_take, if_pos (by omega), ← List.getD_eq_getElem?_getD]
        exact colI_at l (by omega)
set_option maxRecDepth 100000 in
theorem lower_u8 (c : Int) (hc : 0 ≤ c ∧ c ≤ 255) : Lib.lowerB (u8I c) = u8I (lowB c) := by
  obtain ⟨n, rfl⟩ : ∃ n : Nat, c = (n : Int) := ⟨c.toNat, by omega⟩
  have hn : n < 256 := by omega
  clear hc
  revert n
  decide +kernel
set_option maxRecDepth 100000 in
theorem lower_map (l : List Int) (hl : Byt l) : Lib.toLowerA (l.map u8I) = (l.map lowB).map u8I := by
  unfold Lib.toLowerA
  rw [List.map_map, List.map_map]
  exact List.map_congr_left fun c hc => lower_u8 c (hl c hc)
set_option maxRecDepth 100000 in
theorem low_byt {l : List Int} (hl : Byt l) : Byt (l.map lowB) := fun c hc => by
  obtain ⟨d, hd, rfl⟩ := List.mem_map.1 hc
  have := hl d hd
  unfold lowB
  split <;> omega
set_option maxRecDepth 100000 in
/-- a beginning -/
theorem pre_link : ∀ (p l : List Int), Byt p → Byt l → ((p.map u8I).isPrefixOf (l.map u8I) = decide (l.take p.length = p))
  | [], l, _, _ => by simp
  | a :: p, [], _, _ => by simp
  | a :: p, b :: l, hp, hl => by
    have ih := pre_link p l (fun c hc => hp c (by simp [hc])) (fun c hc => hl c (by simp [hc]))
    have ha := hp a (by simp)
    have hb := hl b (by simp)
    simp only [List.map_cons, List.isPrefixOf, ih, List.length_cons, List.take_succ_cons, List.cons.injEq]
    by_cases e : a = b
    · subst e; simp
    · have : ¬ u8I a = u8I b := fun h => e (u8I_inj ha hb h)
      have e2 : ¬ b = a := fun h => e h.symm
      simp [this, e2]
set_option maxRecDepth 100000 in
theorem strOf_u8 (l : List Int) : (⟨(l.map u8I).toArray⟩ : ByteArray) = strOf l := rfl
/-- digits that stand ahead -/
def digC : List UInt8 := [48, 49, 50, 51, 52, 53, 54, 55, 56, 57]
set_option maxRecDepth 100000 in
theorem digC_u8 (c : Int) (hc : 0 ≤ c ∧ c ≤ 255) : digC.contains (u8I c) = dig c := by
  obtain ⟨n, rfl⟩ : ∃ n : Nat, c = (n : Int) := ⟨c.toNat, by omega⟩
  have hn : n < 256 := by omega
  clear hc
  revert n
  decide +kernel
set_option maxRecDepth 100000 in
theorem trim_digs : ∀ (l : List Int), Byt l → Lib.trimLeftS (l.map u8I) digC = (l.drop (digs l)).map u8I
  | [], _ => rfl
  | c :: r, hl => by
    have ih := trim_digs r (fun d hd => hl d (by simp [hd]))
    unfold Lib.trimLeftS at ih ⊢
    rw [List.map_cons, List.dropWhile_cons, digC_u8 c (hl c (by simp))]
    unfold digs
    by_cases h : dig c = true
    · rw [if_pos h, if_pos h, List.drop_succ_cons]; exact ih
    · rw [if_neg h, if_neg h]; rfl
set_option maxRecDepth 100000 in
theorem digs_le : ∀ l : List Int, digs l ≤ l.length
  | [] => Nat.le_refl _
  | c :: r => by unfold digs; split
                 · have := digs_le r; simp; omega
                 · simp
end Go.Proofs.YtpfijaojgeceeaaGreatDoor
