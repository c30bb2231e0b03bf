/- The document's own disk in memory: no walk. -/
import Derived.Test.YtihmfnndnjhpbaaRefMath9
namespace Go.Proofs.Ytihmfnndnjhpbaa
open Go.RowKit
set_option linter.unusedVariables false

/-- a write's bytes lie in a row of bytes -/
def RowAt (w : World) (own : Nat → Prop) (x : Ent) : Prop := ∃ b c cs, x.v = .slice (some ⟨b, 0, none⟩) 64 c ∧ own b ∧ w.heap[b]? = some (.cells cs 5 (0, 0)) ∧ Sx x.l ∧ 64 ≤ c ∧ c ≤ maxLen ∧ cs.toList.take 64 = bv x.l
set_option maxRecDepth 100000 in
theorem RowAt.keep {w w' : World} {own own2 : Nat → Prop} {x : Ent} (h : RowAt w own x) (hb : ∀ k cs, own k → w.heap[k]? = some (.cells cs 5 (0, 0)) → w'.heap[k]? = w.heap[k]?) (ho : ∀ k, own k → own2 k) : RowAt w' own2 x := by
  obtain ⟨b, c, cs, e1, e2, e3, e4⟩ := h
  exact ⟨b, c, cs, e1, ho b e2, (hb b cs e2 e3).trans e3, e4⟩
set_option maxRecDepth 100000 in
theorem RowAt.bts {w : World} {own : Nat → Prop} {x : Ent} (h : RowAt w own x) : ∃ b c, x.v = .slice (some ⟨b, 0, none⟩) 64 c ∧ Bts w (some ⟨b, 0, none⟩) 64 c x.l := by
  obtain ⟨b, c, cs, e1, e2, e3, e4, e5, e6, e7⟩ := h
  refine ⟨b, c, e1, e4.1, e4.2, e5, e6, (fun hh => by cases hh), fun _ => ⟨b, 0, rfl, (Array.getElem?_eq_some_iff.1 e3).1, fun i hi => ?_⟩⟩
  rw [Nat.zero_add, cell_of_row _ _ i _ _ (0, 0) e3]
  have h1 : (bv x.l)[i]? = some (.int .u8 (x.l.getD i 0)) := by rw [bv_get, List.getElem?_eq_getElem (by rw [e4.1]; exact hi), List.getD_eq_getElem?_getD, List.getElem?_eq_getElem (by rw [e4.1]; exact hi)]; rfl
  rw [← e7, List.getElem?_take, if_pos hi] at h1
  simpa using h1
set_option maxRecDepth 100000 in
theorem row_at {w : World} {base : Nat} {own : Nat → Prop} {v : Value} {l : List Int} (h : w.ownsRow base 5 1 v 64 (bv l)) (hl : Sx l) (ho : ∀ k, v.ownBlock = some k → own k) (p : Int) (s : Bool) : RowAt w own ⟨p, v, l, s⟩ := by
  rcases h.2 with ⟨_, h0⟩ | ⟨g, cap, cur, rfl, hb, hg, hnc, hcm, hcs, ht⟩
  · omega
  · exact ⟨g, cap, cur, rfl, ho g rfl, hg, hl, hnc, hcm, by rw [← ht]⟩
/-- the document's disk -/
structure Rf (w : World) (g : Nat) (own : Nat → Prop) (n : Nat) (X : List Ent) (left : Int) (power : Bool) (vl : Value) : Prop where
  row : w.heap[g]? = some (.cells #[.int .i64 n, vl, .int .i64 left, .bool power] 65 (0, 0))
  lst : w.ownsRow 0 77 3 vl X.length (ecl X)
  ents : ∀ x ∈ X, RowAt w own x
  og : own g
  ol : ∀ k, vl.ownBlock = some k → own k
  lt : ∀ k, own k → k < w.heap.size
  lb : -1 ≤ left ∧ left ≤ 9223372036854775807
  nb : n ≤ 4096
section
variable {w w' : World} {g : Nat} {own : Nat → Prop} {n : Nat} {X : List Ent} {left : Int} {power : Bool} {vl : Value}
set_option maxRecDepth 100000 in
theorem Rf.c0 (h : Rf w g own n X left power vl) : w.cell? ⟨g, 0, none⟩ = some (.int .i64 n) := by rw [cell_of_row w g 0 _ _ (0, 0) h.row]; rfl
set_option maxRecDepth 100000 in
theorem Rf.c1 (h : Rf w g own n X left power vl) : w.cell? ⟨g, 1, none⟩ = some vl := by rw [cell_of_row w g 1 _ _ (0, 0) h.row]; rfl
set_option maxRecDepth 100000 in
theorem Rf.c2 (h : Rf w g own n X left power vl) : w.cell? ⟨g, 2, none⟩ = some (.int .i64 left) := by rw [cell_of_row w g 2 _ _ (0, 0) h.row]; rfl
set_option maxRecDepth 100000 in
theorem Rf.c3 (h : Rf w g own n X left power vl) : w.cell? ⟨g, 3, none⟩ = some (.bool power) := by rw [cell_of_row w g 3 _ _ (0, 0) h.row]; rfl
set_option maxRecDepth 100000 in
theorem Rf.fr (h : Rf w g own n X left power vl) (j : Nat) : w.frozen? ⟨g, j, none⟩ = false := frozen_of_row _ _ j _ _ h.row
set_option maxRecDepth 100000 in
theorem Rf.vl_ne (h : Rf w g own n X left power vl) {k : Nat} (hk : vl.ownBlock = some k) : k ≠ g := by
  rcases h.lst.2 with ⟨rfl, _⟩ | ⟨g', cap', cur, rfl, _, hh, _⟩
  · simp [Value.ownBlock] at hk
  · simp [Value.ownBlock] at hk
    subst hk
    intro e; subst e
    rw [h.row] at hh
    injection hh with hh; injection hh with _ h2 _; exact absurd h2 (by decide)
set_option maxRecDepth 100000 in
theorem Rf.keep (h : Rf w g own n X left power vl) (hb : ∀ k, own k → w'.heap[k]? = w.heap[k]?) (hs : w.heap.size ≤ w'.heap.size) : Rf w' g own n X left power vl := by
  refine ⟨(hb g h.og).trans h.row, ⟨h.lst.1, ?_⟩, fun x hx => (h.ents x hx).keep (fun k _ hk _ => hb k hk) (fun _ h => h), h.og, h.ol, fun k hk => Nat.lt_of_lt_of_le (h.lt k hk) hs, h.lb, h.nb⟩
  rcases h.lst.2 with h2 | ⟨g', cap', cur, hv, hg, hh, r⟩
  · exact .inl h2
  · exact .inr ⟨g', cap', cur, hv, hg, (hb g' (h.ol g' (by rw [hv]; rfl))).trans hh, r⟩
set_option maxRecDepth 100000 in
theorem Rf.below (h : Rf w g own n X left power vl) (hb : Below w.heap.size w w') : Rf w' g own n X left power vl := h.keep (fun k hk => hb.block k (h.lt k hk)) hb.size
set_option maxRecDepth 100000 in
theorem Rf.kept {own2 : Nat → Prop} (h : Rf w g own n X left power vl) (hb : Kept own2 w w') (hd : ∀ k, own k → ¬ own2 k) : Rf w' g own n X left power vl := h.keep (fun k hk => hb.block k (h.lt k hk) (hd k hk)) hb.size
set_option maxRecDepth 100000 in
theorem Rf.drewN (h : Rf w g own n X left power vl) (q : Nat) : Rf (w.drewN q) g own n X left power vl := h.keep (fun _ _ => rfl) (Nat.le_refl _)
set_option maxRecDepth 100000 in
/-- a store into the object -/
theorem Rf.rest (h : Rf w g own n X left power vl) (j : Nat) (v : Value) : (w.setCell ⟨g, j, none⟩ v).ownsRow 0 77 3 vl X.length (ecl X) ∧ (∀ x ∈ X, RowAt (w.setCell ⟨g, j, none⟩ v) own x) ∧ ∀ k, own k → k < (w.setCell ⟨g, j, none⟩ v).heap.size := by
  refine ⟨⟨h.lst.1, ?_⟩, fun x hx => (h.ents x hx).keep (fun k cs hk hc => heap_setCell_other w ⟨g, j, none⟩ k v (fun e => ?_)) (fun _ h => h), fun k hk => by have := h.lt k hk; simpa [World.setCell] using this⟩
  · rcases h.lst.2 with h2 | ⟨g', cap', cur, hv, hg, hh, r⟩
    · exact .inl h2
    · exact .inr ⟨g', cap', cur, hv, hg, (heap_setCell_other w ⟨g, j, none⟩ g' v (h.vl_ne (k := g') (by rw [hv]; rfl))).trans hh, r⟩
  · have e : k = g := e
    rw [e, h.row] at hc
    injection hc with hc; injection hc with _ h2 _; exact absurd h2 (by decide)
set_option maxRecDepth 100000 in
theorem Rf.setLeft (h : Rf w g own n X left power vl) (x : Int) (hx : -1 ≤ x ∧ x ≤ 9223372036854775807) : Rf (w.setCell ⟨g, 2, none⟩ (.int .i64 x)) g own n X x power vl := by
  obtain ⟨r1, r2, r3⟩ := h.rest 2 (.int .i64 x)
  exact ⟨heap_setCell_same w g 2 _ _ _ h.row, r1, r2, h.og, h.ol, r3, hx, h.nb⟩
set_option maxRecDepth 100000 in
theorem Rf.setPower (h : Rf w g own n X left power vl) (b : Bool) : Rf (w.setCell ⟨g, 3, none⟩ (.bool b)) g own n X left b vl := by
  obtain ⟨r1, r2, r3⟩ := h.rest 3 (.bool b)
  exact ⟨heap_setCell_same w g 3 _ _ _ h.row, r1, r2, h.og, h.ol, r3, h.lb, h.nb⟩
set_option maxRecDepth 100000 in
/-- another list: its row, and rows of bytes -/
theorem Rf.setList {own2 : Nat → Prop} {Y : List Ent} {v : Value} (h : Rf w g own n X left power vl) (hl : w.ownsRow 0 77 3 v Y.length (ecl Y)) (he : ∀ x ∈ Y, RowAt w own2 x) (ho : ∀ k, own k → own2 k) (hv : ∀ k, v.ownBlock = some k → own2 k) (hlt : ∀ k, own2 k → k < w.heap.size) : Rf (w.setCell ⟨g, 1, none⟩ v) g own2 n Y left power v := by
  refine ⟨heap_setCell_same w g 1 _ _ _ h.row, ⟨hl.1, ?_⟩, fun x hx => (he x hx).keep (fun k cs hk hc => heap_setCell_other w ⟨g, 1, none⟩ k v (fun e => ?_)) (fun _ h => h), ho g h.og, hv, fun k hk => by have := hlt k hk; simpa [World.setCell] using this, h.lb, h.nb⟩
  · rcases hl.2 with h2 | ⟨g', cap', cur, hv, hg, hh, r⟩
    · exact .inl h2
    · refine .inr ⟨g', cap', cur, hv, hg, (heap_setCell_other w ⟨g, 1, none⟩ g' v (fun e => ?_)).trans hh, r⟩
      have e : g' = g := e
      rw [e, h.row] at hh
      injection hh with hh; injection hh with _ h2 _; exact absurd h2 (by decide)
  · have e : k = g := e
    rw [e, h.row] at hc
    injection hc with hc; injection hc with _ h2 _; exact absurd h2 (by decide)
set_option maxRecDepth 100000 in
/-- the j-th write in memory -/
theorem ent_cells {base : Nat} {gl m cl : Nat} {Y : List Ent} (h : w.ownsRow base 77 3 (.slice (some ⟨gl, 0, none⟩) m cl) Y.length (ecl Y)) (j : Nat) (x : Ent) (hx : Y[j]? = some x) : w.cell? ⟨gl, j * 3, none⟩ = some (.int .i64 x.pos) ∧ w.cell? ⟨gl, j * 3 + 1, none⟩ = some x.v ∧ w.cell? ⟨gl, j * 3 + 2, none⟩ = some (.bool x.sure) := by
  have hlt : j < Y.length := (List.getElem?_eq_some_iff.1 hx).1
  rcases h.2 with ⟨h2, _⟩ | ⟨g', cap', cur, hv, _, hh, hnc, _, hcs, ht⟩
  · cases h2
  · cases hv
    have hc : ∀ i, i < 3 → w.cell? ⟨gl, j * 3 + i, none⟩ = x.cells[i]? := fun i hi => by
      rw [cell_of_row _ _ _ _ _ (0, 0) hh, ← ecl_get Y j x hx i hi, ← ht, List.getElem?_take, if_pos (by omega)]
      simp
    exact ⟨hc 0 (by decide), hc 1 (by decide), hc 2 (by decide)⟩
set_option maxRecDepth 100000 in
theorem Rf.nth {a : Option Addr} {m c : Nat} (h : Rf w g own n X left power (.slice a m c)) (j : Nat) (hj : j < X.length) : ∃ gl x, a = some ⟨gl, 0, none⟩ ∧ X[j]? = some x ∧ w.cell? ⟨gl, j * 3, none⟩ = some (.int .i64 x.pos) ∧ w.cell? ⟨gl, j * 3 + 1, none⟩ = some x.v ∧ w.cell? ⟨gl, j * 3 + 2, none⟩ = some (.bool x.sure) := by
  obtain ⟨gl, cap, hv, _, _⟩ := owns_form h.lst (by omega)
  injection hv with h1 h2 h3
  subst h1
  have hx : X[j]? = some X[j] := List.getElem?_eq_getElem hj
  have hl := h.lst
  exact ⟨gl, X[j], rfl, hx, ent_cells hl j X[j] hx⟩
end
set_option maxRecDepth 100000 in
theorem lstX_none (r : List Ent) (p : Int) (z : List Int) (h : anyX r p = false) : lstX r p z = z := by
  induction r generalizing z with
  | nil => rfl
  | cons y r ih =>
    have h1 : decide (y.pos = p) = false ∧ anyX r p = false := by
      unfold anyX at h ⊢
      rw [List.any_cons, Bool.or_eq_false_iff] at h
      exact h
    unfold lstX
    rw [if_neg (of_decide_eq_false h1.1)]
    exact ih z h1.2
set_option maxRecDepth 100000 in
theorem lstX_hit (X : List Ent) (j : Nat) (x : Ent) (p : Int) (z : List Int) (hx : X[j]? = some x) (hp : x.pos = p) (h : anyX (X.drop (j + 1)) p = false) : lstX X p z = x.l := by
  have hj : j < X.length := (List.getElem?_eq_some_iff.1 hx).1
  have hx2 : X[j] = x := (List.getElem?_eq_some_iff.1 hx).2
  have e : X = X.take j ++ (x :: X.drop (j + 1)) := by
    conv => lhs; rw [← List.take_append_drop j X, List.drop_eq_getElem_cons hj, hx2]
  rw [e, lstX_append]
  show lstX (X.drop (j + 1)) p (if x.pos = p then x.l else _) = _
  rw [if_pos hp]
  exact lstX_none _ _ _ h
/-- the document's disk says what s says; at most so many writes -/
def RS (w : World) (g : Nat) (own : Nat → Prop) (s : DS) (m : Nat) : Prop := ∃ X left power vl, Rf w g own s.F.length X left power vl ∧ Sim s X left power ∧ X.length ≤ m
set_option maxRecDepth 100000 in
theorem RS.below {w w' : World} {g : Nat} {own : Nat → Prop} {s : DS} {m : Nat} (h : RS w g own s m) (hb : Below w.heap.size w w') : RS w' g own s m := by
  obtain ⟨X, left, power, vl, h1, h2⟩ := h
  exact ⟨X, left, power, vl, h1.below hb, h2⟩
set_option maxRecDepth 100000 in
theorem RS.kept {w w' : World} {g : Nat} {own own2 : Nat → Prop} {s : DS} {m : Nat} (h : RS w g own s m) (hb : Kept own2 w w') (hd : ∀ k, own k → ¬ own2 k) : RS w' g own s m := by
  obtain ⟨X, left, power, vl, h1, h2⟩ := h
  exact ⟨X, left, power, vl, h1.kept hb hd, h2⟩
set_option maxRecDepth 100000 in
theorem RS.lt {w : World} {g : Nat} {own : Nat → Prop} {s : DS} {m : Nat} (h : RS w g own s m) : ∀ k, own k → k < w.heap.size := by
  obtain ⟨X, left, power, vl, h1, h2⟩ := h
  exact h1.lt
set_option maxRecDepth 100000 in
theorem RS.drewN {w : World} {g : Nat} {own : Nat → Prop} {s : DS} {m : Nat} (h : RS w g own s m) (q : Nat) : RS (w.drewN q) g own s m := by
  obtain ⟨X, left, power, vl, h1, h2⟩ := h
  exact ⟨X, left, power, vl, h1.drewN q, h2⟩
set_option maxRecDepth 100000 in
theorem RS.le {w : World} {g : Nat} {own : Nat → Prop} {s : DS} {m m' : Nat} (h : RS w g own s m) (hm : m ≤ m') : RS w g own s m' := by
  obtain ⟨X, left, power, vl, h1, h2, h3⟩ := h
  exact ⟨X, left, power, vl, h1, h2, Nat.le_trans h3 hm⟩
set_option maxRecDepth 100000 in
theorem ref_info : (Try.prog.info? 77).map (fun i => (i.zero, i.size, i.bytes)) = some (some (.agg #[.int .i64 0, .slice none 0 0, .bool false]), 3, 40) := by kernel_rfl
end Go.Proofs.Ytihmfnndnjhpbaa
