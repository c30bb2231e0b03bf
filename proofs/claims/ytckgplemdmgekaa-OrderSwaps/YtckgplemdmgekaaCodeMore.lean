/- Code with instructions behind it to which nothing leads. No walk. -/
import Derived.Test.YtckgplemdmgekaaCodeFlow
namespace Go.Proofs.Ytckgplemdmgekaa
open Go.RowKit
set_option linter.unusedVariables false

set_option maxRecDepth 100000 in
theorem nxtF_app : ∀ (D E : List Int) (G H : List Bool) (i : Nat), D.length = G.length → nxtF i (D ++ E) (G ++ H) = match nxtF i D G with | some p => some p | none => nxtF (i + D.length) E H
  | [], E, [], H, i, _ => by
    show nxtF i E H = nxtF (i + 0) E H
    rw [Nat.add_zero]
  | [], _, _ :: _, _, _, h => by simp at h
  | _ :: _, _, [], _, _, h => by simp at h
  | d :: D, E, g :: G, H, i, h => by
    show (if g = false ∧ d ≠ -1 then some i else nxtF (i + 1) (D ++ E) (G ++ H)) = match (if g = false ∧ d ≠ -1 then some i else nxtF (i + 1) D G) with | some p => some p | none => nxtF (i + (D.length + 1)) E H
    by_cases hc : g = false ∧ d ≠ -1
    · rw [if_pos hc, if_pos hc]
    · rw [if_neg hc, if_neg hc, nxtF_app D E G H (i + 1) (by simpa using h), show i + 1 + D.length = i + (D.length + 1) from by omega]
set_option maxRecDepth 100000 in
theorem nxtF_rep : ∀ (n i : Nat) (H : List Bool), nxtF i (List.replicate n (-1)) H = none
  | 0, i, H => by cases H <;> rfl
  | n + 1, i, [] => rfl
  | n + 1, i, h :: H => by
    show (if h = false ∧ (-1 : Int) ≠ -1 then some i else nxtF (i + 1) (List.replicate n (-1)) H) = none
    rw [if_neg (fun k => k.2 rfl)]
    exact nxtF_rep n (i + 1) H
set_option maxRecDepth 100000 in
theorem nxt_app {D : List Int} {G : List Bool} (h : D.length = G.length) (k : Nat) (H : List Bool) : nxt (D ++ List.replicate k (-1)) (G ++ H) = nxt D G := by
  unfold nxt
  rw [nxtF_app D _ G H 0 h, nxtF_rep]
  cases nxtF 0 D G <;> rfl
set_option maxRecDepth 100000 in
theorem getD_app {α : Type} (D E : List α) (q : Nat) (z : α) (h : q < D.length) : (D ++ E).getD q z = D.getD q z := by
  rw [List.getD_eq_getElem?_getD, List.getElem?_append_left h, ← List.getD_eq_getElem?_getD]
set_option maxRecDepth 100000 in
theorem lead_app {D E : List Int} {t : Nat} {d : Int} (ht : t < D.length) : lead (D ++ E) t d = ((lead D t d).1 ++ E, (lead D t d).2) := by
  unfold lead
  rw [if_neg (by rw [List.length_append]; omega), if_neg (show ¬ D.length ≤ t by omega), getD_app D E t _ ht]
  by_cases h2 : D.getD t (-1) = -1
  · rw [if_pos h2, if_pos h2, List.set_append_left _ _ ht]
  · rw [if_neg h2, if_neg h2]
    by_cases h3 : D.getD t (-1) ≠ d
    · rw [if_pos h3, if_pos h3]
    · rw [if_neg h3, if_neg h3]
set_option maxRecDepth 100000 in
theorem lead_in {D : List Int} {t : Nat} {d : Int} (h : (lead D t d).2 = 0) : t < D.length := (lead_ok (lead_two h)).1
set_option maxRecDepth 100000 in
theorem lead_len (D : List Int) (t : Nat) (d : Int) : (lead D t d).1.length = D.length := by
  unfold lead
  split
  · rfl
  · split
    · simp
    · split <;> rfl
set_option maxRecDepth 100000 in
theorem goS_app {x : Ic} {D E : List Int} {p : Nat} (hp : p < D.length) (h : (goS x D p).2 = 0) : goS x (D ++ E) p = ((goS x D p).1 ++ E, 0) := by
  unfold goS at h ⊢
  rw [getD_app D E p _ hp]
  generalize D.getD p (-1) - tkO x.o + ptO x.o = d at h ⊢
  by_cases h1 : D.getD p (-1) < tkO x.o
  · rw [if_pos h1] at h; cases h
  rw [if_neg h1] at h ⊢
  rw [if_neg h1]
  by_cases h2 : 8 < d
  · rw [if_pos h2] at h; cases h
  rw [if_neg h2] at h ⊢
  rw [if_neg h2]
  by_cases t0 : thO x.o = 0
  · rw [if_pos t0] at h ⊢
    rw [if_pos t0, lead_app (lead_in h), h]
  rw [if_neg t0] at h ⊢
  rw [if_neg t0]
  by_cases t1 : thO x.o = 1
  · rw [if_pos t1] at h ⊢
    rw [if_pos t1, lead_app (lead_in h), h]
  rw [if_neg t1] at h ⊢
  rw [if_neg t1]
  by_cases t2 : thO x.o = 2
  · rw [if_pos t2] at h ⊢
    rw [if_pos t2]
    by_cases he : (lead D (p + 1) d).2 ≠ 0
    · rw [if_pos he] at h; exact absurd h he
    · rw [if_neg he] at h ⊢
      have he0 : (lead D (p + 1) d).2 = 0 := Classical.byContradiction he
      rw [lead_app (lead_in he0), he0]
      simp only
      rw [if_neg (fun k => k rfl), lead_app (lead_in h), h]
  · rw [if_neg t2] at h ⊢
    rw [if_neg t2]
set_option maxRecDepth 100000 in
theorem goS_len (x : Ic) (D : List Int) (p : Nat) : (goS x D p).1.length = D.length := by
  unfold goS
  split
  · rfl
  · split
    · rfl
    · split
      · exact lead_len _ _ _
      · split
        · exact lead_len _ _ _
        · split
          · split
            · exact lead_len _ _ _
            · rw [lead_len, lead_len]
          · rfl
set_option maxRecDepth 100000 in
theorem thrF_app (l m : List Ic) : ∀ (f : Nat) (D : List Int) (G : List Bool), unG G < f → D.length = l.length → G.length = l.length → (thrF l f D G).2.2 = 0 →
    thrF (l ++ m) f (D ++ List.replicate m.length (-1)) (G ++ List.replicate m.length false) = ((thrF l f D G).1 ++ List.replicate m.length (-1), 0, 0)
  | 0, _, _, h, _, _, _ => absurd h (Nat.not_lt_zero _)
  | f + 1, D, G, hf, hd, hg, he => by
    unfold thrF at he ⊢
    rw [nxt_app (hd.trans hg.symm)]
    cases hn : nxt D G with
    | none => rfl
    | some p =>
      rw [hn] at he
      simp only at he ⊢
      obtain ⟨h1, h2, h3, _⟩ := nxt_some hn
      have hp : p < l.length := by rw [← hd]; exact h1
      rw [getD_app l m p _ hp]
      by_cases hb : (goS (l.getD p ic0) D p).2 ≠ 0
      · rw [if_pos hb] at he; exact absurd he hb
      · rw [if_neg hb] at he ⊢
        have hb0 : (goS (l.getD p ic0) D p).2 = 0 := Classical.byContradiction hb
        rw [goS_app h1 hb0]
        simp only
        rw [if_neg (fun k => k rfl), List.set_append_left _ _ h2]
        have hu := unG_set G p h2 h3
        exact thrF_app l m f _ _ (by omega) (by rw [goS_len]; exact hd) (by rw [List.length_set]; exact hg) he
set_option maxRecDepth 100000 in
theorem unG_app : ∀ (G H : List Bool), unG (G ++ H) = unG G + unG H
  | [], H => by simp [unG]
  | g :: G, H => by
    show (if g = false then 1 else 0) + unG (G ++ H) = (if g = false then 1 else 0) + unG G + unG H
    rw [unG_app G H]; omega
set_option maxRecDepth 100000 in
theorem numB_more {x : Ic} {m k : Nat} (h : canI m x = true) (hk : m ≤ k) : canI k x = true := by
  unfold canI at h ⊢
  simp at h ⊢
  refine ⟨h.1, ?_⟩
  have h2 := h.2
  unfold numB at h2 ⊢
  split
  · rfl
  · rename_i a
    rw [if_neg a] at h2
    split
    · rename_i b; rw [if_pos b] at h2; exact h2
    · rename_i b
      rw [if_neg b] at h2
      split
      · rename_i c
        rw [if_pos c] at h2
        simp at h2 ⊢
        exact ⟨h2.1, by omega⟩
      · rename_i c; rw [if_neg c] at h2; exact h2
set_option maxRecDepth 100000 in
theorem canI_nul {x : Ic} {m : Nat} (h : isO x.o = true) (hn : x.n = 0) (hm : 1 ≤ m) : canI m x = true := by
  unfold canI numB
  rw [h, hn]
  simp
  by_cases h1 : nkO x.o = 1
  · exact .inl h1
  · exact .inr (.inr (.inr (by omega)))
set_option maxRecDepth 100000 in
/-- what nothing leads to changes nothing -/
theorem thr_more {l m : List Ic} (h : (thr l).2.2 = 0) (hn : l.length + m.length ≤ 200) (hm : ∀ x ∈ m, isO x.o = true ∧ x.n = 0) : thr (l ++ m) = ((thr l).1 ++ List.replicate m.length (-1), 0, 0) := by
  have hl := thr_flow h
  have h1 : ¬ (l.length < 1 ∨ 200 < l.length) := by omega
  have h2 : ¬ ((l ++ m).length < 1 ∨ 200 < (l ++ m).length) := by rw [List.length_append]; omega
  have hb : badI l = none := by
    cases hb : badI l with
    | none => rfl
    | some i => rw [thr_code h1 hb] at h; cases h
  have hb2 : badI (l ++ m) = none := by
    unfold badI
    refine badF_of _ _ fun x hx => ?_
    rw [List.length_append]
    rcases List.mem_append.1 hx with hx | hx
    · exact numB_more (badF_none l 0 hb x hx) (Nat.le_add_right _ _)
    · exact canI_nul (hm x hx).1 (hm x hx).2 (by omega)
  rw [thr_go h1 hb] at h ⊢
  rw [thr_go h2 hb2]
  have e1 : D0 (l ++ m).length = D0 l.length ++ List.replicate m.length (-1) := by
    unfold D0
    rw [List.length_append, ← List.replicate_append_replicate, List.set_append_left _ _ (by rw [List.length_replicate]; omega)]
  have e2 : G0 (l ++ m).length = G0 l.length ++ List.replicate m.length false := by
    unfold G0
    rw [List.length_append, ← List.replicate_append_replicate]
  rw [e1, e2]
  have hd : (D0 l.length).length = l.length := by unfold D0; rw [List.length_set, List.length_replicate]
  have hg : (G0 l.length).length = l.length := by unfold G0; rw [List.length_replicate]
  unfold thrR at h ⊢
  rw [unG_app]
  have hbig := thrF_big l (unG (G0 l.length) + 1) (unG (G0 l.length) + unG (List.replicate m.length false) + 1) (D0 l.length) (G0 l.length) (Nat.lt_succ_self _) (by omega)
  rw [hbig] at h ⊢
  exact thrF_app l m _ _ _ (by omega) hd hg h
end Go.Proofs.Ytckgplemdmgekaa
