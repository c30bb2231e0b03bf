/- One text more in what was sent. -/
import Derived.Test.YtihmfnndnjhpbaaTear9
import Derived.Test.YtihmfnndnjhpbaaAppZeros
import Derived.Deep.CutBlock
namespace Go.Proofs.Ytihmfnndnjhpbaa
open Go.RowKit
set_option linter.unusedVariables false

set_option maxRecDepth 100000 in
theorem TS.app {w wk w4 : World} {g gs : Nat} {col : Nat → Nat} {s : DS} {aW : Option Addr} {cW : Nat} {W : List (List Int)} {V : List Value} {T : List (List (List Int))} {p rb cap g4 c4 : Nat} {vp : Value} {L : List (List Int)} {xs : List Value} {P : List Int}
    (h : TS w wk g gs col s aW cW W V T) (hp : p < 8) (hvp : vp = V.getD p undef) (hL : L = T.getD p [])
    (hx : ∀ i, i < L.length → ∃ ai li ci, xs[i]? = some (.slice ai li ci) ∧ Bts wk ai li ci (L.getD i []) ∧ (0 < li → ∀ q, ai = some q → col q.block = 4 + p ∧ vp.ownBlock ≠ some q.block)) (hxl : xs.length = L.length)
    (hP : Bts wk (some ⟨rb, 0, none⟩) 64 cap P) (hrb : col rb = 0) (hrw : w.heap.size ≤ rb) (hgr : wk.grownBy w4 vp.ownBlock)
    (hown : w4.ownsRow 0 33 1 (.slice (some ⟨g4, 0, none⟩) (L.length + 1) c4) (L.length + 1) (xs ++ [.slice (some ⟨rb, 0, none⟩) 64 cap])) (hl : vp.ownBlock = some g4 ∨ g4 = wk.heap.size) (hlt4 : g4 < w4.heap.size) :
    w4.cell? ⟨gs, p, none⟩ = some vp ∧ w4.frozen? ⟨gs, p, none⟩ = false ∧
    Bx (∃ col', TS w (w4.setCell ⟨gs, p, none⟩ (.slice (some ⟨g4, 0, none⟩) (L.length + 1) c4)) g gs col' s aW cW W (V.set p (.slice (some ⟨g4, 0, none⟩) (L.length + 1) c4)) (T.set p (L ++ [P]))) := by
  have hsent := h.sent p hp
  rw [← hvp, ← hL] at hsent
  have hvb : ∀ k, vp.ownBlock = some k → col k = 4 + p := hsent.ob
  have hg4 : col g4 = 4 + p ∨ col g4 = 0 := by
    rcases hl with h1 | h1
    · exact .inl (hvb g4 h1)
    · refine .inr (Classical.byContradiction fun h0 => ?_)
      have := h.lt g4 h0
      omega
  have hk4 : ∀ k, col k ≠ 0 → col k ≠ 4 + p → w4.heap[k]? = wk.heap[k]? := fun k h0 h1 => hgr.block k (h.lt k h0) (fun e => h1 (hvb k e.symm))
  have hrow4 : w4.heap[gs]? = some (.cells V.toArray 47 (0, 0)) := (hk4 gs (by rw [h.cg]; decide) (by rw [h.cg]; omega)).trans h.row
  have hvl := h.vl
  have htl := h.tl
  have hcell : w4.cell? ⟨gs, p, none⟩ = some vp := by
    rw [cell_of_row _ _ p _ _ (0, 0) hrow4, List.getElem?_toArray, hvp, List.getD_eq_getElem?_getD, List.getElem?_eq_getElem (by omega)]; rfl
  refine ⟨hcell, frozen_of_row _ _ p _ _ hrow4, ⟨⟨fun k => if k = rb ∨ k = g4 then 4 + p else col k, ?_⟩⟩⟩
  generalize hv' : Value.slice (some ⟨g4, 0, none⟩) (L.length + 1) c4 = v' at *
  obtain ⟨w5, hw5⟩ : ∃ w5, w5 = w4.setCell ⟨gs, p, none⟩ v' := ⟨_, rfl⟩
  rw [← hw5]
  have hs5 : w5.heap.size = w4.heap.size := by rw [hw5]; simp [World.setCell]
  have h54 : ∀ k, k ≠ gs → w5.heap[k]? = w4.heap[k]? := fun k hk => by rw [hw5]; exact heap_setCell_other w4 ⟨gs, p, none⟩ k _ hk
  have hc : ∀ k c, c ≠ 0 → c ≠ 4 + p → ((if k = rb ∨ k = g4 then 4 + p else col k) = c ↔ col k = c) := by
    intro k c h0 h1
    by_cases ho : k = rb ∨ k = g4
    · rw [if_pos ho]
      constructor
      · intro e; omega
      · intro e
        rcases ho with ho | ho
        · rw [ho] at e; omega
        · rw [ho] at e; omega
    · rw [if_neg ho]
  have hcp : ∀ k, col k = 4 + p → (if k = rb ∨ k = g4 then 4 + p else col k) = 4 + p := fun k hk => by
    by_cases ho : k = rb ∨ k = g4
    · rw [if_pos ho]
    · rw [if_neg ho]; exact hk
  have hkeep : ∀ k, col k ≠ 0 → col k ≠ 4 + p → k ≠ gs → w5.heap[k]? = wk.heap[k]? := fun k h0 h1 h2 => (h54 k h2).trans (hk4 k h0 h1)
  have hsz : wk.heap.size ≤ w5.heap.size := by rw [hs5]; exact hgr.size
  have hlow4 : Below w.heap.size w w4 := h.low.grown hgr h.low.size (fun k hk => h.ge k (by rw [hvb k hk]; omega))
  have hgsw : w.heap.size ≤ gs := h.ge gs (by rw [h.cg]; decide)
  have hlow : Below w.heap.size w w5 := by rw [hw5]; exact hlow4.setCell (p := ⟨gs, p, none⟩) hgsw _
  have hcne : ∀ k c, col k = c → c ≠ 2 → k ≠ gs := fun k c hk h2 e => by rw [e, h.cg] at hk; omega
  refine ⟨hlow, ?_, ?_, (hc gs 2 (by decide) (by omega)).2 h.cg, by rw [List.length_set]; exact hvl, by rw [List.length_set]; exact htl, ?_, ?_, fun k hk => ?_, fun k hk => ?_⟩
  · refine (h.d.keep (fun k (hk : col k = 1) => hkeep k (by omega) (by omega) (hcne k 1 hk (by decide))) hsz).mono (fun k hk => (hc k 1 (by decide) (by omega)).2 hk) (fun k hk => ?_)
    have hk2 := (hc k 1 (by decide) (by omega)).1 hk
    exact Nat.lt_of_lt_of_le (h.lt k (by omega)) hsz
  · rw [hw5, heap_setCell_same w4 gs p _ _ _ hrow4, List.setIfInBounds_toArray]
  · exact h.was.keep (fun k (hk : col k = 3) => hkeep k (by omega) (by omega) (hcne k 3 hk (by decide))) hsz (fun k hk => (hc k 3 (by decide) (by omega)).2 hk)
  · intro i hi
    by_cases he : i = p
    · subst he
      rw [show (V.set i v').getD i undef = v' from by rw [List.getD_eq_getElem?_getD, List.getElem?_set, if_pos rfl, if_pos (by omega)]; rfl]
      rw [show (T.set i (L ++ [P])).getD i [] = L ++ [P] from by rw [List.getD_eq_getElem?_getD, List.getElem?_set, if_pos rfl, if_pos (by omega)]; rfl]
      have hm := OTX.more (w5 := w5) (own2 := fun k => (if k = rb ∨ k = g4 then 4 + i else col k) = 4 + i) (c4 := c4) hsent hx hxl hP (fun (hh : col rb = 4 + i) => by omega) hgr (fun k hk => h54 k (fun e => by
        rw [e] at hk
        rcases hk with hk | hk | hk
        · have hk : col gs = 4 + i := hk
          rw [h.cg] at hk; omega
        · rw [← hk, h.cg] at hrb; omega
        · rw [← hk, h.cg] at hg4; omega)) (Nat.le_of_eq hs5.symm) (by rw [hv']; exact hown) hl hcp (by rw [if_pos (.inl rfl)]) (by rw [if_pos (.inr rfl)])
      rw [hv'] at hm
      exact hm
    · rw [show (V.set p v').getD i undef = V.getD i undef from by rw [List.getD_eq_getElem?_getD, List.getElem?_set, if_neg (Ne.symm he), ← List.getD_eq_getElem?_getD]]
      rw [show (T.set p (L ++ [P])).getD i [] = T.getD i [] from by rw [List.getD_eq_getElem?_getD, List.getElem?_set, if_neg (Ne.symm he), ← List.getD_eq_getElem?_getD]]
      exact (h.sent i hi).keep (fun k (hk : col k = 4 + i) => hkeep k (by omega) (by omega) (hcne k (4 + i) hk (by omega))) hsz (fun k hk => (hc k (4 + i) (by omega) (by omega)).2 hk)
  · have hk : (if k = rb ∨ k = g4 then 4 + p else col k) ≠ 0 := hk
    by_cases ho : k = rb ∨ k = g4
    · rcases ho with ho | ho
      · rw [ho]; exact hrw
      · rw [ho]
        rcases hl with h1 | h1
        · exact h.ge g4 (by rw [hvb g4 h1]; omega)
        · rw [h1]; exact h.low.size
    · rw [if_neg ho] at hk; exact h.ge k hk
  · have hk : (if k = rb ∨ k = g4 then 4 + p else col k) ≠ 0 := hk
    by_cases ho : k = rb ∨ k = g4
    · rcases ho with ho | ho
      · rw [ho]
        obtain ⟨b', o', e', hlt', _⟩ := hP.spot (by decide)
        cases e'
        omega
      · rw [ho, hs5]; exact hlt4
    · rw [if_neg ho] at hk; exact Nat.lt_of_lt_of_le (h.lt k hk) hsz
/-- what was sent to the eight sectors -/
def selT (O : List (Nat × List Int)) : List (List (List Int)) := (List.range 8).map (sel O)
set_option maxRecDepth 100000 in
theorem selT_len (O : List (Nat × List Int)) : (selT O).length = 8 := by simp [selT]
set_option maxRecDepth 100000 in
theorem selT_get (O : List (Nat × List Int)) (i : Nat) (hi : i < 8) : (selT O).getD i [] = sel O i := by
  unfold selT; rw [List.getD_eq_getElem?_getD, List.getElem?_map, List.getElem?_range hi]; rfl
set_option maxRecDepth 100000 in
theorem selT_more (O : List (Nat × List Int)) (p : Nat) (P : List Int) (hp : p < 8) : (selT O).set p ((selT O).getD p [] ++ [P]) = selT (O ++ [(p, P)]) := by
  apply List.ext_getElem?
  intro i
  rw [List.getElem?_set, selT_get O p hp, selT_len]
  by_cases hi : i < 8
  · have hg : ∀ Q : List (Nat × List Int), (selT Q)[i]? = some (sel Q i) := fun Q => by unfold selT; rw [List.getElem?_map, List.getElem?_range hi]; rfl
    rw [hg, hg, sel_append, sel_one]
    by_cases he : p = i
    · subst he; rw [if_pos rfl, if_pos hp, if_pos rfl]
    · rw [if_neg he, if_neg he, List.append_nil]
  · rw [if_neg (by omega), List.getElem?_eq_none (by rw [selT_len]; omega), List.getElem?_eq_none (by rw [selT_len]; omega)]
set_option maxRecDepth 100000 in
theorem bts_cut64 (rb len cap : Nat) (hk : 64 ≤ cap) (w : World) : (Instr.sliceAt 33 (.slice (some ⟨rb, 0, none⟩) len cap) none (some (.int .i64 64)) none).run Try.prog w = .ok (.slice (some ⟨rb, 0, none⟩) 64 cap) w := by
  have hu : Try.prog.underlying 33 = some (.slice (Try.prog.elem 33)) := by kernel_rfl
  have hsz : (Go.sizeOf (Try.prog.elem 33)).run Try.prog w = .ok 1 w := by kernel_rfl
  rw [run_sliceAt_slice w _ _ _ _ _ hu, run_slice_h w _ _ len cap hu .i64 64 (by omega) (by omega), hsz]
  simp [sliced, Addr.add_lit]
set_option maxRecDepth 100000 in
theorem pad_pad (b : List Int) (h : b.length ≤ 64) : pad64 (pad64 b) = pad64 b := by
  have hl : (pad64 b).length = 64 := by simp [pad64]; omega
  show pad64 b ++ List.replicate (64 - (pad64 b).length) 0 = pad64 b
  rw [hl]; simp
set_option maxRecDepth 100000 in
theorem pad_take (b : List Int) (h : b.length ≤ 64) : (b ++ List.replicate 64 0).take 64 = pad64 b := by
  unfold pad64
  rw [List.take_append, List.take_of_length_le h, List.take_replicate]
  congr 2; omega
open Classical in
set_option maxRecDepth 100000 in
theorem TS.start {w w3 : World} {g B : Nat} {own : Nat → Prop} {s : DS} {aW : Option Addr} {cW : Nat} {W : List (List Int)} (hlow : Below w.heap.size w w3) (hd : Dsk w3 g own s) (hge : ∀ k, own k → w.heap.size ≤ k) (hlB : ∀ k, own k → k < B) (hB : w.heap.size ≤ B) (hW : TxB B w3 aW 8 cW W) :
    ∃ col, TS w (w3.alloc (.cells #[.slice none 0 0, .slice none 0 0, .slice none 0 0, .slice none 0 0, .slice none 0 0, .slice none 0 0, .slice none 0 0, .slice none 0 0] 47)) g w3.heap.size col s aW cW W (List.replicate 8 (.slice none 0 0)) (selT []) := by
  generalize hA : (#[.slice none 0 0, .slice none 0 0, .slice none 0 0, .slice none 0 0, .slice none 0 0, .slice none 0 0, .slice none 0 0, .slice none 0 0] : Array Value) = A
  have hb : Below w3.heap.size w3 (w3.alloc (.cells A 47)) := (Below.refl _ _).alloc (Nat.le_refl _) _
  have hz : (w3.alloc (.cells A 47)).heap.size = w3.heap.size + 1 := by simp
  have hs := hlow.size
  refine ⟨fun k => if own k then 1 else if k = w3.heap.size then 2 else if B ≤ k ∧ k < w3.heap.size then 3 else 0, bstep hlow hb, ?_, ?_, ?_, by simp, selT_len _, ?_, ?_, ?_, ?_⟩
  · refine (hd.below hb).mono (fun k hk => by show (if own k then 1 else _) = 1; rw [if_pos hk]) (fun k hk => ?_)
    have hk : (if own k then 1 else if k = w3.heap.size then 2 else if B ≤ k ∧ k < w3.heap.size then 3 else 0) = 1 := hk
    by_cases ho : own k
    · have := hd.lt k ho; omega
    · rw [if_neg ho] at hk
      split at hk
      · omega
      · split at hk <;> omega
  · rw [heap_alloc_new, ← hA]; rfl
  · show (if own w3.heap.size then 1 else if w3.heap.size = w3.heap.size then 2 else _) = 2
    rw [if_neg (fun ho => by have := hd.lt _ ho; omega), if_pos rfl]
  · refine hW.own.keep (fun k hk => hb.block k hk.2) (by omega) (fun k hk => ?_)
    show (if own k then 1 else if k = w3.heap.size then 2 else if B ≤ k ∧ k < w3.heap.size then 3 else 0) = 3
    rw [if_neg (fun ho => by have := hlB k ho; omega), if_neg (by omega), if_pos hk]
  · intro i hi
    rw [selT_get [] i hi, show (List.replicate 8 (Value.slice none 0 0)).getD i undef = .slice none 0 0 from by rw [List.getD_eq_getElem?_getD, List.getElem?_replicate, if_pos hi]; rfl]
    exact ⟨⟨[], World.ownsRow_nil _ _ _ _, fun j hj => by simp [sel] at hj⟩, fun k hk => by simp [Value.ownBlock] at hk⟩
  · intro k hk
    have hk : (if own k then 1 else if k = w3.heap.size then 2 else if B ≤ k ∧ k < w3.heap.size then 3 else 0) ≠ 0 := hk
    by_cases ho : own k
    · exact hge k ho
    · rw [if_neg ho] at hk
      split at hk
      · omega
      · split at hk <;> omega
  · intro k hk
    have hk : (if own k then 1 else if k = w3.heap.size then 2 else if B ≤ k ∧ k < w3.heap.size then 3 else 0) ≠ 0 := hk
    by_cases ho : own k
    · have := hd.lt k ho; omega
    · rw [if_neg ho] at hk
      split at hk
      · omega
      · split at hk <;> omega
set_option maxRecDepth 100000 in
theorem arr_zero : (Try.prog.info? 47).map (fun i => i.zero) = some (some (.agg #[.slice none 0 0, .slice none 0 0, .slice none 0 0, .slice none 0 0, .slice none 0 0, .slice none 0 0, .slice none 0 0, .slice none 0 0])) := by kernel_rfl
/-- are all kept, as far as is known -/
def fullB (c lk : Nat) (K : List Bool) (t : Nat) : Bool := decide (c ≤ lk) && decide (∀ i, i < t → K.getD i false = true)
set_option maxRecDepth 100000 in
theorem fullB_zero (c lk : Nat) (K : List Bool) : fullB c lk K 0 = decide (c ≤ lk) := by
  unfold fullB
  simp
set_option maxRecDepth 100000 in
theorem fullB_next (c lk : Nat) (K : List Bool) (t : Nat) : fullB c lk K (t + 1) = (fullB c lk K t && K.getD t false) := by
  unfold fullB
  rw [Bool.and_assoc]
  congr 1
  by_cases h : ∀ i, i < t → K.getD i false = true
  · rw [decide_eq_true h, Bool.true_and]
    by_cases h2 : K.getD t false = true
    · rw [h2]
      refine decide_eq_true fun i hi => ?_
      by_cases he : i = t
      · rw [he]; exact h2
      · exact h i (by omega)
    · rw [show K.getD t false = false from by simpa using h2]
      exact decide_eq_false fun hh => h2 (hh t (by omega))
  · rw [decide_eq_false h, Bool.false_and]
    exact decide_eq_false fun hh => h fun i hi => hh i (by omega)
set_option maxRecDepth 100000 in
theorem fullB_all {c lk : Nat} {K : List Bool} {t : Nat} (h : fullB c lk K t = true) (ht : c ≤ t ∨ lk ≤ t) : ∀ i, i < c → K.getD i false = true := by
  unfold fullB at h
  have h1 : c ≤ lk ∧ ∀ i, i < t → K.getD i false = true := by
    rw [Bool.and_eq_true] at h
    exact ⟨of_decide_eq_true h.1, of_decide_eq_true h.2⟩
  intro i hi
  exact h1.2 i (by omega)
/-- what the law looks for, as a bool -/
def okB (nw ws : List Int) (S : List (List Int)) (full : Bool) : Nat → Bool
  | 0 => decide (nw = ws) && !(full && decide (0 < S.length))
  | t + 1 => okB nw ws S full t || (decide (nw = S.getD t []) && (!full || decide (t + 1 = S.length)))
set_option maxRecDepth 100000 in
theorem okB_iff (nw ws : List Int) (S : List (List Int)) (full : Bool) (t : Nat) : okB nw ws S full t = true ↔ okT nw ws S full t := by
  induction t with
  | zero =>
    rw [okT_zero]
    unfold okB
    cases full with
    | false => simp
    | true =>
      simp only [Bool.true_and, Bool.and_eq_true, decide_eq_true_eq, Bool.not_eq_true', decide_eq_false_iff_not, forall_const]
      constructor
      · rintro ⟨h1, h2⟩; exact ⟨h1, List.eq_nil_of_length_eq_zero (by omega)⟩
      · rintro ⟨h1, h2⟩; exact ⟨h1, by rw [h2]; simp⟩
  | succ t ih =>
    rw [okT_next, ← ih]
    show (okB nw ws S full t || (decide (nw = S.getD t []) && (!full || decide (t + 1 = S.length)))) = true ↔ _
    rw [Bool.or_eq_true, Bool.and_eq_true, decide_eq_true_eq]
    cases full with
    | false => simp
    | true => simp
end Go.Proofs.Ytihmfnndnjhpbaa
