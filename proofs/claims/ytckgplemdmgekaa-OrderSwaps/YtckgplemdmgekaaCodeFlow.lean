/- What holds where code was gone through; code with more behind it. No walk. -/
import Derived.Test.YtckgplemdmgekaaCodeMath
namespace Go.Proofs.Ytckgplemdmgekaa
open Go.RowKit
set_option linter.unusedVariables false

/-- depths that stay: what has one keeps it -/
def Kps (D E : List Int) : Prop := E.length = D.length ∧ ∀ q, D.getD q (-1) ≠ -1 → E.getD q (-1) = D.getD q (-1)
set_option maxRecDepth 100000 in
theorem Kps.refl (D : List Int) : Kps D D := ⟨rfl, fun _ _ => rfl⟩
set_option maxRecDepth 100000 in
theorem Kps.trans {A B C : List Int} (h : Kps A B) (k : Kps B C) : Kps A C := ⟨k.1.trans h.1, fun q hq => by rw [k.2 q (by rw [h.2 q hq]; exact hq), h.2 q hq]⟩
set_option maxRecDepth 100000 in
theorem lead_ok {D E : List Int} {t : Nat} {d : Int} (h : lead D t d = (E, 0)) : t < D.length ∧ E.getD t (-1) = d ∧ Kps D E := by
  unfold lead at h
  by_cases h1 : D.length ≤ t
  · rw [if_pos h1] at h; cases h
  rw [if_neg h1] at h
  by_cases h2 : D.getD t (-1) = -1
  · rw [if_pos h2] at h
    cases h
    refine ⟨by omega, ?_, by rw [List.length_set], fun q hq => ?_⟩
    · rw [List.getD_eq_getElem?_getD, List.getElem?_set_self (by omega)]; rfl
    · have hne : t ≠ q := fun e => by subst e; exact hq h2
      rw [List.getD_eq_getElem?_getD, List.getElem?_set_ne hne, ← List.getD_eq_getElem?_getD]
  · rw [if_neg h2] at h
    by_cases h3 : D.getD t (-1) ≠ d
    · rw [if_pos h3] at h; cases h
    · rw [if_neg h3] at h
      cases h
      exact ⟨by omega, Classical.byContradiction h3, Kps.refl _⟩
set_option maxRecDepth 100000 in
theorem lead_two {D : List Int} {t : Nat} {d : Int} (h : (lead D t d).2 = 0) : lead D t d = ((lead D t d).1, 0) := by rw [← h]
/-- what holds of a place that was gone through -/
structure Fl (x : Ic) (D : List Int) (p : Nat) : Prop where
  tk : tkO x.o ≤ D.getD p (-1)
  mx : D.getD p (-1) - tkO x.o + ptO x.o ≤ 8
  beh : thO x.o = 0 ∨ thO x.o = 2 → p + 1 < D.length ∧ D.getD (p + 1) (-1) = D.getD p (-1) - tkO x.o + ptO x.o
  jmp : thO x.o = 1 ∨ thO x.o = 2 → x.n.toNat < D.length ∧ D.getD x.n.toNat (-1) = D.getD p (-1) - tkO x.o + ptO x.o
set_option maxRecDepth 100000 in
theorem Fl.keep {x : Ic} {D E : List Int} {p : Nat} (h : Fl x D p) (hp : D.getD p (-1) ≠ -1) (hx : isO x.o = true) (hd : 0 ≤ D.getD p (-1)) (k : Kps D E) : Fl x E p := by
  have ep := k.2 p hp
  have hb := tbl_bd hx
  have h0 : D.getD p (-1) - tkO x.o + ptO x.o ≠ -1 := by have := h.tk; omega
  refine ⟨by rw [ep]; exact h.tk, by rw [ep]; exact h.mx, fun ht => ?_, fun ht => ?_⟩
  · obtain ⟨h1, h2⟩ := h.beh ht
    exact ⟨by rw [k.1]; exact h1, by rw [ep, k.2 _ (by rw [h2]; exact h0)]; exact h2⟩
  · obtain ⟨h1, h2⟩ := h.jmp ht
    exact ⟨by rw [k.1]; exact h1, by rw [ep, k.2 _ (by rw [h2]; exact h0)]; exact h2⟩
set_option maxRecDepth 100000 in
theorem goS_ok {x : Ic} {D E : List Int} {p : Nat} (hx : isO x.o = true) (hp : D.getD p (-1) ≠ -1) (h : goS x D p = (E, 0)) : Kps D E ∧ Fl x E p := by
  unfold goS at h
  generalize hd : D.getD p (-1) - tkO x.o + ptO x.o = d at h
  by_cases h1 : D.getD p (-1) < tkO x.o
  · rw [if_pos h1] at h; cases h
  rw [if_neg h1] at h
  by_cases h2 : 8 < d
  · rw [if_pos h2] at h; cases h
  rw [if_neg h2] at h
  have ht := tbl_bd hx
  by_cases t0 : thO x.o = 0
  · rw [if_pos t0] at h
    obtain ⟨a1, a2, a3⟩ := lead_ok h
    have ep := a3.2 p hp
    refine ⟨a3, by rw [ep]; omega, by rw [ep, hd]; omega, fun _ => ⟨by rw [a3.1]; exact a1, by rw [ep, hd]; exact a2⟩, fun ht2 => by omega⟩
  rw [if_neg t0] at h
  by_cases t1 : thO x.o = 1
  · rw [if_pos t1] at h
    obtain ⟨a1, a2, a3⟩ := lead_ok h
    have ep := a3.2 p hp
    refine ⟨a3, by rw [ep]; omega, by rw [ep, hd]; omega, fun ht2 => by omega, fun _ => ⟨by rw [a3.1]; exact a1, by rw [ep, hd]; exact a2⟩⟩
  rw [if_neg t1] at h
  by_cases t2 : thO x.o = 2
  · rw [if_pos t2] at h
    by_cases he : (lead D (p + 1) d).2 ≠ 0
    · rw [if_pos he] at h
      rw [h] at he; exact absurd rfl he
    · rw [if_neg he] at h
      obtain ⟨a1, a2, a3⟩ := lead_ok (lead_two (Classical.byContradiction he))
      generalize (lead D (p + 1) d).1 = F at h a2 a3
      obtain ⟨b1, b2, b3⟩ := lead_ok h
      have k := a3.trans b3
      have ep := k.2 p hp
      have hd0 : d ≠ -1 := by omega
      refine ⟨k, by rw [ep]; omega, by rw [ep, hd]; omega, fun _ => ⟨by rw [k.1]; exact a1, by rw [ep, hd, b3.2 _ (by rw [a2]; exact hd0)]; exact a2⟩, fun _ => ⟨by rw [k.1, ← a3.1]; exact b1, by rw [ep, hd]; exact b2⟩⟩
  · rw [if_neg t2] at h
    cases h
    exact ⟨Kps.refl _, by omega, by rw [hd]; omega, fun ht2 => by omega, fun ht2 => by omega⟩
set_option maxRecDepth 100000 in
theorem goS_dep {x : Ic} {D E : List Int} {p : Nat} (hx : isO x.o = true) (h : goS x D p = (E, 0)) : E.length = D.length ∧ ∀ q, D.getD q (-1) = E.getD q (-1) ∨ 0 ≤ E.getD q (-1) := by
  have hl : ∀ {D E : List Int} {t : Nat} {d : Int}, 0 ≤ d → lead D t d = (E, 0) → E.length = D.length ∧ ∀ q, D.getD q (-1) = E.getD q (-1) ∨ 0 ≤ E.getD q (-1) := by
    intro D E t d hd h
    unfold lead at h
    by_cases h1 : D.length ≤ t
    · rw [if_pos h1] at h; cases h
    rw [if_neg h1] at h
    by_cases h2 : D.getD t (-1) = -1
    · rw [if_pos h2] at h
      cases h
      refine ⟨by rw [List.length_set], fun q => ?_⟩
      by_cases e : t = q
      · subst e; right; rw [List.getD_eq_getElem?_getD, List.getElem?_set_self (by omega)]; exact hd
      · left; rw [List.getD_eq_getElem?_getD, List.getD_eq_getElem?_getD, List.getElem?_set_ne e]
    · rw [if_neg h2] at h
      by_cases h3 : D.getD t (-1) ≠ d
      · rw [if_pos h3] at h; cases h
      · rw [if_neg h3] at h
        cases h
        exact ⟨rfl, fun q => .inl rfl⟩
  have ht := tbl_bd hx
  unfold goS at h
  generalize hd : D.getD p (-1) - tkO x.o + ptO x.o = d at h
  by_cases h1 : D.getD p (-1) < tkO x.o
  · rw [if_pos h1] at h; cases h
  rw [if_neg h1] at h
  by_cases h2 : 8 < d
  · rw [if_pos h2] at h; cases h
  rw [if_neg h2] at h
  have hd0 : 0 ≤ d := by omega
  by_cases t0 : thO x.o = 0
  · rw [if_pos t0] at h; exact hl hd0 h
  rw [if_neg t0] at h
  by_cases t1 : thO x.o = 1
  · rw [if_pos t1] at h; exact hl hd0 h
  rw [if_neg t1] at h
  by_cases t2 : thO x.o = 2
  · rw [if_pos t2] at h
    by_cases he : (lead D (p + 1) d).2 ≠ 0
    · rw [if_pos he] at h
      rw [h] at he; exact absurd rfl he
    · rw [if_neg he] at h
      obtain ⟨a1, a2⟩ := hl hd0 (lead_two (Classical.byContradiction he))
      obtain ⟨b1, b2⟩ := hl hd0 h
      refine ⟨b1.trans a1, fun q => ?_⟩
      rcases b2 q with e | e
      · rcases a2 q with e2 | e2
        · exact .inl (e2.trans e)
        · exact .inr (by rw [← e]; exact e2)
      · exact .inr e
  · rw [if_neg t2] at h
    cases h
    exact ⟨rfl, fun q => .inl rfl⟩
/-- what holds while code is gone through -/
structure FI (l : List Ic) (D : List Int) (G : List Bool) : Prop where
  dl : D.length = l.length
  gl : G.length = l.length
  d0 : D.getD 0 (-1) = 0
  nn : ∀ q, D.getD q (-1) = -1 ∨ 0 ≤ D.getD q (-1)
  gn : ∀ q, q < l.length → G.getD q true = true → D.getD q (-1) ≠ -1 ∧ Fl (l.getD q ic0) D q
/-- what holds behind it -/
structure Flow (l : List Ic) (D : List Int) : Prop where
  dl : D.length = l.length
  d0 : D.getD 0 (-1) = 0
  nn : ∀ q, D.getD q (-1) = -1 ∨ 0 ≤ D.getD q (-1)
  fl : ∀ q, q < l.length → D.getD q (-1) ≠ -1 → Fl (l.getD q ic0) D q
set_option maxRecDepth 100000 in
theorem FI.step {l : List Ic} {D : List Int} {G : List Bool} (h : FI l D G) (hl : ∀ q, q < l.length → isO (l.getD q ic0).o = true) {p : Nat} (hn : nxt D G = some p) (he : (goS (l.getD p ic0) D p).2 = 0) : FI l (goS (l.getD p ic0) D p).1 (G.set p true) := by
  obtain ⟨h1, h2, h3, h4⟩ := nxt_some hn
  have hp : p < l.length := by rw [← h.dl]; exact h1
  have hx := hl p hp
  have hg : goS (l.getD p ic0) D p = ((goS (l.getD p ic0) D p).1, 0) := by rw [← he]
  obtain ⟨k, f⟩ := goS_ok hx h4 hg
  obtain ⟨a1, a2⟩ := goS_dep hx hg
  generalize (goS (l.getD p ic0) D p).1 = E at k f a1 a2
  refine ⟨a1.trans h.dl, by rw [List.length_set]; exact h.gl, by rw [k.2 0 (by rw [h.d0]; decide)]; exact h.d0, fun q => ?_, fun q hq hg2 => ?_⟩
  · rcases a2 q with e | e
    · rw [← e]; exact h.nn q
    · exact .inr e
  · by_cases e : p = q
    · subst e
      exact ⟨by rw [k.2 p h4]; exact h4, f⟩
    · rw [List.getD_eq_getElem?_getD, List.getElem?_set_ne e, ← List.getD_eq_getElem?_getD] at hg2
      obtain ⟨b1, b2⟩ := h.gn q hq hg2
      refine ⟨by rw [k.2 q b1]; exact b1, b2.keep b1 (hl q hq) ?_ k⟩
      rcases h.nn q with e2 | e2
      · exact absurd e2 b1
      · exact e2
set_option maxRecDepth 100000 in
theorem thrF_flow {l : List Ic} (hl : ∀ q, q < l.length → isO (l.getD q ic0).o = true) : ∀ (f : Nat) (D : List Int) (G : List Bool), unG G < f → FI l D G → (thrF l f D G).2.2 = 0 → Flow l (thrF l f D G).1
  | 0, _, _, h, _, _ => absurd h (Nat.not_lt_zero _)
  | f + 1, D, G, hf, h, he => by
    unfold thrF at he ⊢
    cases hn : nxt D G with
    | none =>
      rw [hn] at he
      simp only
      refine ⟨h.dl, h.d0, h.nn, fun q hq hd => ?_⟩
      have hg : G.getD q true = true := by
        cases hg : G.getD q true with
        | true => rfl
        | false => exact absurd (nxt_none hn (h.dl.trans h.gl.symm) q (by rw [h.dl]; exact hq) hg) hd
      exact (h.gn q hq hg).2
    | some p =>
      rw [hn] at he
      simp only at he ⊢
      by_cases hb : (goS (l.getD p ic0) D p).2 ≠ 0
      · rw [if_pos hb] at he; exact absurd he hb
      · rw [if_neg hb] at he ⊢
        have h1 := nxt_some hn
        have hu := unG_set G p h1.2.1 h1.2.2.1
        exact thrF_flow hl f _ _ (by omega) (h.step hl hn (Classical.byContradiction hb)) he
set_option maxRecDepth 100000 in
theorem fi_zero (l : List Ic) (h : 1 ≤ l.length) : FI l (D0 l.length) (G0 l.length) := by
  have e : ∀ q, (D0 l.length).getD q (-1) = if q = 0 then 0 else -1 := fun q => by
    unfold D0
    by_cases e : q = 0
    · subst e; rw [List.getD_eq_getElem?_getD, List.getElem?_set_self (by rw [List.length_replicate]; omega)]; rfl
    · rw [if_neg e, List.getD_eq_getElem?_getD, List.getElem?_set_ne (fun k => e k.symm), List.getElem?_replicate]; split <;> rfl
  refine ⟨by unfold D0; rw [List.length_set, List.length_replicate], by unfold G0; rw [List.length_replicate], by rw [e]; rfl, fun q => ?_, fun q hq hg => ?_⟩
  · rw [e]; split
    · exact .inr (Int.le_refl _)
    · exact .inl rfl
  · unfold G0 at hg
    rw [List.getD_eq_getElem?_getD, List.getElem?_replicate, if_pos hq] at hg
    cases hg
set_option maxRecDepth 100000 in
theorem can_all {l : List Ic} (hb : badI l = none) : ∀ q, q < l.length → canI l.length (l.getD q ic0) = true := fun q hq => by
  have := badF_none l 0 hb (l.getD q ic0) (by rw [List.getD_eq_getElem?_getD, List.getElem?_eq_getElem hq]; exact List.getElem_mem hq)
  exact this
set_option maxRecDepth 100000 in
/-- code that fits together -/
theorem thr_flow {l : List Ic} (h : (thr l).2.2 = 0) : 1 ≤ l.length ∧ l.length ≤ 200 ∧ (∀ q, q < l.length → canI l.length (l.getD q ic0) = true) ∧ Flow l (thr l).1 := by
  by_cases h1 : l.length < 1 ∨ 200 < l.length
  · rw [thr_big h1] at h; cases h
  · cases hb : badI l with
    | some i => rw [thr_code h1 hb] at h; cases h
    | none =>
      rw [thr_go h1 hb] at h ⊢
      have hc := can_all hb
      exact ⟨by omega, by omega, hc, thrF_flow (fun q hq => canI_is (hc q hq)) _ _ _ (Nat.lt_succ_self _) (fi_zero l (by omega)) h⟩
set_option maxRecDepth 100000 in
theorem thr_err {l : List Ic} (h : (thr l).2.2 ≠ 0) : (thr l).1 = [] := by
  by_cases h1 : l.length < 1 ∨ 200 < l.length
  · rw [thr_big h1]
  · cases hb : badI l with
    | some i => rw [thr_code h1 hb]
    | none =>
      rw [thr_go h1 hb] at h ⊢
      have : ∀ (f : Nat) (D : List Int) (G : List Bool), (thrF l f D G).2.2 ≠ 0 → (thrF l f D G).1 = [] := by
        intro f
        induction f with
        | zero => intro D G h; exact absurd rfl h
        | succ f ih =>
          intro D G h
          unfold thrF at h ⊢
          cases hn : nxt D G with
          | none => rw [hn] at h; exact absurd rfl h
          | some p =>
            rw [hn] at h
            simp only at h ⊢
            by_cases hb : (goS (l.getD p ic0) D p).2 ≠ 0
            · rw [if_pos hb]
            · rw [if_neg hb] at h ⊢; exact ih _ _ h
      exact this _ _ _ h
set_option maxRecDepth 100000 in
/-- along a way: a place that is reached leads to one that is -/
theorem Flow.go {l : List Ic} {D : List Int} (h : Flow l D) {q : Nat} (hq : q < l.length) (hx : isO (l.getD q ic0).o = true) {d : Int} (hd : 0 ≤ d) (e : D.getD q (-1) = d) :
    tkO (l.getD q ic0).o ≤ d ∧ d - tkO (l.getD q ic0).o + ptO (l.getD q ic0).o ≤ 8 ∧ (thO (l.getD q ic0).o = 0 ∨ thO (l.getD q ic0).o = 2 → q + 1 < l.length ∧ D.getD (q + 1) (-1) = d - tkO (l.getD q ic0).o + ptO (l.getD q ic0).o) ∧ (thO (l.getD q ic0).o = 1 ∨ thO (l.getD q ic0).o = 2 → (l.getD q ic0).n.toNat < l.length ∧ D.getD (l.getD q ic0).n.toNat (-1) = d - tkO (l.getD q ic0).o + ptO (l.getD q ic0).o) := by
  have f := h.fl q hq (by rw [e]; omega)
  rw [← e, ← h.dl]
  exact ⟨f.tk, f.mx, f.beh, f.jmp⟩
end Go.Proofs.Ytckgplemdmgekaa
