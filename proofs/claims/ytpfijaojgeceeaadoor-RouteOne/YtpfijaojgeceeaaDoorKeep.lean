/- What stays while an object changes: whose blocks are whose. No walk. -/
import Derived.Test.YtpfijaojgeceeaaDoorCut
import Derived.Deep.AppendLies
namespace Go.Proofs.YtpfijaojgeceeaaDoor
open Go.RowKit
set_option linter.unusedVariables false

/-- all but what is owned stays -/
structure Kept (own : Nat → Prop) (w w' : World) : Prop where
  os : w'.os = w.os
  tape : w'.tape = w.tape
  output : w'.output = w.output
  size : w.heap.size ≤ w'.heap.size
  block : ∀ k, k < w.heap.size → ¬ own k → w'.heap[k]? = w.heap[k]?
set_option maxRecDepth 100000 in
theorem Kept.refl (own : Nat → Prop) (w : World) : Kept own w w := ⟨rfl, rfl, rfl, Nat.le_refl _, fun _ _ _ => rfl⟩
set_option maxRecDepth 100000 in
theorem Kept.of_below {own : Nat → Prop} {w w' : World} (h : Below w.heap.size w w') : Kept own w w' := ⟨h.os, h.tape, h.output, h.size, fun k hk _ => h.block k hk⟩
set_option maxRecDepth 100000 in
theorem Kept.trans {own own' : Nat → Prop} {a b c : World} (h : Kept own a b) (k : Kept own' b c) (hn : ∀ k, own' k → own k ∨ a.heap.size ≤ k) : Kept own a c :=
  ⟨k.os.trans h.os, k.tape.trans h.tape, k.output.trans h.output, Nat.le_trans h.size k.size, fun j hj hg => (k.block j (Nat.lt_of_lt_of_le hj h.size) (fun ho => by rcases hn j ho with h1 | h1; exact hg h1; omega)).trans (h.block j hj hg)⟩
set_option maxRecDepth 100000 in
theorem Kept.trans' {own : Nat → Prop} {a b c : World} (h : Kept own a b) (k : Kept own b c) : Kept own a c := h.trans k (fun _ h => .inl h)
set_option maxRecDepth 100000 in
theorem Kept.below {own : Nat → Prop} {a b c : World} (h : Kept own a b) (k : Below b.heap.size b c) : Kept own a c := h.trans' (Kept.of_below k)
set_option maxRecDepth 100000 in
theorem Kept.low {own : Nat → Prop} {B : Nat} {w w' : World} (h : Kept own w w') (hB : ∀ k, own k → B ≤ k) (hs : B ≤ w.heap.size) : Below B w w' := ⟨h.os, h.tape, h.output, h.size, fun k hk => h.block k (Nat.lt_of_lt_of_le hk hs) (fun ho => by have := hB k ho; omega)⟩
set_option maxRecDepth 100000 in
theorem Kept.drewN {own : Nat → Prop} {a w : World} (h : Kept own a w) (n : Nat) : Kept own a (w.drewN n) := ⟨h.os, h.tape, h.output, h.size, h.block⟩
set_option maxRecDepth 100000 in
theorem Kept.drew {own : Nat → Prop} {a w : World} (h : Kept own a w) : Kept own a w.drew := ⟨h.os, h.tape, h.output, h.size, h.block⟩
set_option maxRecDepth 100000 in
theorem Kept.setCell {own : Nat → Prop} {a w : World} (h : Kept own a w) {g : Nat} (hg : own g ∨ a.heap.size ≤ g) (o : Nat) (v : Value) : Kept own a (w.setCell ⟨g, o, none⟩ v) := by
  have hb := (Below.refl 0 w).setCell (p := ⟨g, o, none⟩) (Nat.zero_le _) v
  refine ⟨hb.os.trans h.os, hb.tape.trans h.tape, hb.output.trans h.output, Nat.le_trans h.size hb.size, fun k hk ho => ?_⟩
  rw [heap_setCell_other w ⟨g, o, none⟩ k v (by intro e; subst e; rcases hg with h1 | h1; exact ho h1; exact absurd hk (Nat.not_lt.2 h1))]
  exact h.block k hk ho
set_option maxRecDepth 100000 in
theorem Kept.setCells {own : Nat → Prop} {a w : World} (h : Kept own a w) {g : Nat} (hg : own g ∨ a.heap.size ≤ g) : ∀ (vs : List Value) (o : Nat), Kept own a (w.setCells g o vs) := by
  intro vs
  induction vs generalizing w with
  | nil => intro o; exact h
  | cons v r ih => intro o; exact ih (h.setCell hg o v) (o + 1)
set_option maxRecDepth 100000 in
theorem Kept.grown {own : Nat → Prop} {a w w' : World} {row : Option Nat} (h : Kept own a w) (hg : w.grownBy w' row) (hr : ∀ k, row = some k → own k ∨ a.heap.size ≤ k) : Kept own a w' :=
  ⟨hg.os.trans h.os, hg.tape.trans h.tape, hg.output.trans h.output, Nat.le_trans h.size hg.size, fun k hk ho => (hg.block k (Nat.lt_of_lt_of_le hk h.size) (fun e => by rcases hr k e.symm with h1 | h1; exact ho h1; omega)).trans (h.block k hk ho)⟩
set_option maxRecDepth 100000 in
theorem Kept.alloc {own : Nat → Prop} {a w : World} (h : Kept own a w) (o : Obj) : Kept own a (w.alloc o) := h.below ((Below.refl _ _).alloc (Nat.le_refl _) o)
set_option maxRecDepth 100000 in
theorem Bts.kept {own : Nat → Prop} {w w' : World} {ao : Option Addr} {len cap : Nat} {l : List Int} (h : Bts w ao len cap l) (hb : Kept own w w') (ha : 0 < len → ∀ p, ao = some p → ¬ own p.block) : Bts w' ao len cap l :=
  ⟨h.len_eq, h.byt, h.le_cap, h.cap_le, h.nil, fun hp => by
    obtain ⟨b, off, e, hlt, hc⟩ := h.spot hp
    exact ⟨b, off, e, Nat.lt_of_lt_of_le hlt hb.size, fun i hi => (World.cell?_of_block (w := w) (hb.block b hlt (ha hp _ e))).trans (hc i hi)⟩⟩
set_option maxRecDepth 100000 in
theorem setCells_other {w : World} {b k : Nat} (h : k ≠ b) : ∀ (vs : List Value) (o : Nat), (w.setCells b o vs).heap[k]? = w.heap[k]? := by
  intro vs
  induction vs generalizing w with
  | nil => intro o; rfl
  | cons v r ih => intro o; exact (ih (w := w.setCell ⟨b, o, none⟩ v) (o + 1)).trans (heap_setCell_other w ⟨b, o, none⟩ k v h)
set_option maxRecDepth 100000 in
theorem setCells_size {w : World} {b : Nat} : ∀ (vs : List Value) (o : Nat), (w.setCells b o vs).heap.size = w.heap.size := by
  intro vs
  induction vs generalizing w with
  | nil => intro o; rfl
  | cons v r ih => intro o; exact (ih (w := w.setCell ⟨b, o, none⟩ v) (o + 1)).trans (by simp [World.setCell])

set_option maxRecDepth 100000 in
theorem bv_get (l : List Int) (i : Nat) : (bv l)[i]? = (l[i]?).map (Value.int .u8) := by unfold bv; rw [List.getElem?_map]
set_option maxRecDepth 100000 in
theorem owns_setCells {w : World} {b o : Nat} {vs : List Value} {base : Nat} {e : TypeId} {size m : Nat} {v : Value} {xs : List Value} (h : w.ownsRow base e size v m xs) (hb : ∀ k, v.ownBlock = some k → k ≠ b) : (w.setCells b o vs).ownsRow base e size v m xs := by
  refine ⟨h.1, ?_⟩
  rcases h.2 with h2 | ⟨g', cap', cur, hv, hg, hh, r⟩
  · exact .inl h2
  · exact .inr ⟨g', cap', cur, hv, hg, (setCells_other (hb g' (by rw [hv]; rfl)) vs o).trans hh, r⟩
/-- a call that may change what is owned: all else stays, what is owned besides is new -/
structure Did (own : Nat → Prop) (w w' : World) (own' : Nat → Prop) : Prop where
  kept : Kept own w w'
  new : ∀ k, own' k → own k ∨ (w.heap.size ≤ k ∧ k < w'.heap.size)
set_option maxRecDepth 100000 in
theorem Did.same {own : Nat → Prop} {w w' : World} (h : Kept own w w') : Did own w w' own := ⟨h, fun _ h => .inl h⟩
set_option maxRecDepth 100000 in
theorem Did.trans {own own1 own2 : Nat → Prop} {a b c : World} (h : Did own a b own1) (k : Did own1 b c own2) : Did own a c own2 := by
  have h1 := h.kept.size
  have h2 := k.kept.size
  refine ⟨h.kept.trans k.kept (fun j hj => ?_), fun j hj => ?_⟩
  · rcases h.new j hj with h3 | h3
    · exact .inl h3
    · exact .inr h3.1
  · rcases k.new j hj with h3 | h3
    · rcases h.new j h3 with h4 | h4
      · exact .inl h4
      · exact .inr ⟨h4.1, by omega⟩
    · exact .inr ⟨by omega, h3.2⟩
set_option maxRecDepth 100000 in
theorem Did.below {own own1 : Nat → Prop} {a b c : World} (h : Did own a b own1) (k : Below b.heap.size b c) : Did own a c own1 := h.trans (Did.same (Kept.of_below k))
set_option maxRecDepth 100000 in
theorem Bts.keep {w w' : World} {a : Option Addr} {n c : Nat} {l : List Int} (h : Bts w a n c l) (hb : 0 < n → ∀ p, a = some p → w'.heap[p.block]? = w.heap[p.block]?) (hs : w.heap.size ≤ w'.heap.size) : Bts w' a n c l :=
  ⟨h.len_eq, h.byt, h.le_cap, h.cap_le, h.nil, fun hp => by
    obtain ⟨b, off, e, hlt, hc⟩ := h.spot hp
    have h1 : w'.heap[b]? = w.heap[b]? := hb hp _ e
    exact ⟨b, off, e, Nat.lt_of_lt_of_le hlt hs, fun i hi => (World.cell?_of_block (w := w) h1).trans (hc i hi)⟩⟩
set_option maxRecDepth 100000 in
theorem Bts.lt {w : World} {a : Option Addr} {n c : Nat} {l : List Int} (h : Bts w a n c l) (hp : 0 < n) {p : Addr} (e : a = some p) : p.block < w.heap.size := by
  obtain ⟨b, off, e2, hlt, _⟩ := h.spot hp
  rw [e2] at e; cases e; exact hlt
end Go.Proofs.YtpfijaojgeceeaaDoor
