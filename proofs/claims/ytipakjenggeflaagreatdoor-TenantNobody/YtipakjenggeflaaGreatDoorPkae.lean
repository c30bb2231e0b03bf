/- What stays while an object changes: whose blocks are whose. No walk. Lists of plain structs in memory. No walk. Numbers and bools in memory. No walk. Events and operations in memory. No walk. What Ops answers. Instructions, depths and marks in memory. No walk. A disk in memory: no walk. What the small calls of a disk answer. Numbers in a block of their own. No walk. -/
import Derived.Test.YtipakjenggeflaaGreatDoorPkaa
import Derived.Deep.AppendLies
import Derived.BigQuiet
import Derived.Deep.CutRange
namespace Go.Proofs.YtipakjenggeflaaGreatDoor
open Go.RowKit
set_option linter.unusedVariables false

/-- all but what is owned stays -/
structure Kept (own : Nat → Prop) (w w' : World) : Prop where
  os : w'.os = w.os
  tape : w'.tape = w.tape
  output : w'.output = w.output
  size : w.heap.size ≤ w'.heap.size
  block : ∀ k, k < w.heap.size → ¬ own k → w'.heap[k]? = w.heap[k]?
set_option maxRecDepth 100000 in
theorem Kept.refl (own : Nat → Prop) (w : World) : Kept own w w := ⟨rfl, rfl, rfl, Nat.le_refl _, fun _ _ _ => rfl⟩
set_option maxRecDepth 100000 in
theorem Kept.of_below {own : Nat → Prop} {w w' : World} (h : Below w.heap.size w w') : Kept own w w' := ⟨h.os, h.tape, h.output, h.size, fun k hk _ => h.block k hk⟩
set_option maxRecDepth 100000 in
theorem Kept.trans {own own' : Nat → Prop} {a b c : World} (h : Kept own a b) (k : Kept own' b c) (hn : ∀ k, own' k → own k ∨ a.heap.size ≤ k) : Kept own a c :=
  ⟨k.os.trans h.os, k.tape.trans h.tape, k.output.trans h.output, Nat.le_trans h.size k.size, fun j hj hg => (k.block j (Nat.lt_of_lt_of_le hj h.size) (fun ho => by rcases hn j ho with h1 | h1; exact hg h1; omega)).trans (h.block j hj hg)⟩
set_option maxRecDepth 100000 in
theorem Kept.trans' {own : Nat → Prop} {a b c : World} (h : Kept own a b) (k : Kept own b c) : Kept own a c := h.trans k (fun _ h => .inl h)
set_option maxRecDepth 100000 in
theorem Kept.below {own : Nat → Prop} {a b c : World} (h : Kept own a b) (k : Below b.heap.size b c) : Kept own a c := h.trans' (Kept.of_below k)
set_option maxRecDepth 100000 in
theorem Kept.low {own : Nat → Prop} {B : Nat} {w w' : World} (h : Kept own w w') (hB : ∀ k, own k → B ≤ k) (hs : B ≤ w.heap.size) : Below B w w' := ⟨h.os, h.tape, h.output, h.size, fun k hk => h.block k (Nat.lt_of_lt_of_le hk hs) (fun ho => by have := hB k ho; omega)⟩
set_option maxRecDepth 100000 in
theorem Kept.drewN {own : Nat → Prop} {a w : World} (h : Kept own a w) (n : Nat) : Kept own a (w.drewN n) := ⟨h.os, h.tape, h.output, h.size, h.block⟩
set_option maxRecDepth 100000 in
theorem Kept.drew {own : Nat → Prop} {a w : World} (h : Kept own a w) : Kept own a w.drew := ⟨h.os, h.tape, h.output, h.size, h.block⟩
set_option maxRecDepth 100000 in
theorem Kept.setCell {own : Nat → Prop} {a w : World} (h : Kept own a w) {g : Nat} (hg : own g ∨ a.heap.size ≤ g) (o : Nat) (v : Value) : Kept own a (w.setCell ⟨g, o, none⟩ v) := by
  have hb := (Below.refl 0 w).setCell (p := ⟨g, o, none⟩) (Nat.zero_le _) v
  refine ⟨hb.os.trans h.os, hb.tape.trans h.tape, hb.output.trans h.output, Nat.le_trans h.size hb.size, fun k hk ho => ?_⟩
  rw [heap_setCell_other w ⟨g, o, none⟩ k v (by intro e; subst e; rcases hg with h1 | h1; exact ho h1; exact absurd hk (Nat.not_lt.2 h1))]
  exact h.block k hk ho
set_option maxRecDepth 100000 in
theorem Kept.setCells {own : Nat → Prop} {a w : World} (h : Kept own a w) {g : Nat} (hg : own g ∨ a.heap.size ≤ g) : ∀ (vs : List Value) (o : Nat), Kept own a (w.setCells g o vs) := by
  intro vs
  induction vs generalizing w with
  | nil => intro o; exact h
  | cons v r ih => intro o; exact ih (h.setCell hg o v) (o + 1)
set_option maxRecDepth 100000 in
theorem Kept.grown {own : Nat → Prop} {a w w' : World} {row : Option Nat} (h : Kept own a w) (hg : w.grownBy w' row) (hr : ∀ k, row = some k → own k ∨ a.heap.size ≤ k) : Kept own a w' :=
  ⟨hg.os.trans h.os, hg.tape.trans h.tape, hg.output.trans h.output, Nat.le_trans h.size hg.size, fun k hk ho => (hg.block k (Nat.lt_of_lt_of_le hk h.size) (fun e => by rcases hr k e.symm with h1 | h1; exact ho h1; omega)).trans (h.block k hk ho)⟩
set_option maxRecDepth 100000 in
theorem Bts.kept {own : Nat → Prop} {w w' : World} {ao : Option Addr} {len cap : Nat} {l : List Int} (h : Bts w ao len cap l) (hb : Kept own w w') (ha : 0 < len → ∀ p, ao = some p → ¬ own p.block) : Bts w' ao len cap l :=
  ⟨h.len_eq, h.byt, h.le_cap, h.cap_le, h.nil, fun hp => by
    obtain ⟨b, off, e, hlt, hc⟩ := h.spot hp
    exact ⟨b, off, e, Nat.lt_of_lt_of_le hlt hb.size, fun i hi => (World.cell?_of_block (w := w) (hb.block b hlt (ha hp _ e))).trans (hc i hi)⟩⟩
set_option maxRecDepth 100000 in
theorem setCells_other {w : World} {b k : Nat} (h : k ≠ b) : ∀ (vs : List Value) (o : Nat), (w.setCells b o vs).heap[k]? = w.heap[k]? := by
  intro vs
  induction vs generalizing w with
  | nil => intro o; rfl
  | cons v r ih => intro o; exact (ih (w := w.setCell ⟨b, o, none⟩ v) (o + 1)).trans (heap_setCell_other w ⟨b, o, none⟩ k v h)
set_option maxRecDepth 100000 in
theorem setCells_size {w : World} {b : Nat} : ∀ (vs : List Value) (o : Nat), (w.setCells b o vs).heap.size = w.heap.size := by
  intro vs
  induction vs generalizing w with
  | nil => intro o; rfl
  | cons v r ih => intro o; exact (ih (w := w.setCell ⟨b, o, none⟩ v) (o + 1)).trans (by simp [World.setCell])
set_option maxRecDepth 100000 in
theorem bv_get (l : List Int) (i : Nat) : (bv l)[i]? = (l[i]?).map (Value.int .u8) := by unfold bv; rw [List.getElem?_map]
set_option maxRecDepth 100000 in
theorem owns_setCells {w : World} {b o : Nat} {vs : List Value} {base : Nat} {e : TypeId} {size m : Nat} {v : Value} {xs : List Value} (h : w.ownsRow base e size v m xs) (hb : ∀ k, v.ownBlock = some k → k ≠ b) : (w.setCells b o vs).ownsRow base e size v m xs := by
  refine ⟨h.1, ?_⟩
  rcases h.2 with h2 | ⟨g', cap', cur, hv, hg, hh, r⟩
  · exact .inl h2
  · exact .inr ⟨g', cap', cur, hv, hg, (setCells_other (hb g' (by rw [hv]; rfl)) vs o).trans hh, r⟩
/-- a call that may change what is owned: all else stays, what is owned besides is new -/
structure Did (own : Nat → Prop) (w w' : World) (own' : Nat → Prop) : Prop where
  kept : Kept own w w'
  new : ∀ k, own' k → own k ∨ (w.heap.size ≤ k ∧ k < w'.heap.size)
set_option maxRecDepth 100000 in
theorem Did.same {own : Nat → Prop} {w w' : World} (h : Kept own w w') : Did own w w' own := ⟨h, fun _ h => .inl h⟩
set_option maxRecDepth 100000 in
theorem Did.trans {own own1 own2 : Nat → Prop} {a b c : World} (h : Did own a b own1) (k : Did own1 b c own2) : Did own a c own2 := by
  have h1 := h.kept.size
  have h2 := k.kept.size
  refine ⟨h.kept.trans k.kept (fun j hj => ?_), fun j hj => ?_⟩
  · rcases h.new j hj with h3 | h3
    · exact .inl h3
    · exact .inr h3.1
  · rcases k.new j hj with h3 | h3
    · rcases h.new j h3 with h4 | h4
      · exact .inl h4
      · exact .inr ⟨h4.1, by omega⟩
    · exact .inr ⟨by omega, h3.2⟩
set_option maxRecDepth 100000 in
theorem Did.below {own own1 : Nat → Prop} {a b c : World} (h : Did own a b own1) (k : Below b.heap.size b c) : Did own a c own1 := h.trans (Did.same (Kept.of_below k))
set_option maxRecDepth 100000 in
theorem Bts.keep {w w' : World} {a : Option Addr} {n c : Nat} {l : List Int} (h : Bts w a n c l) (hb : 0 < n → ∀ p, a = some p → w'.heap[p.block]? = w.heap[p.block]?) (hs : w.heap.size ≤ w'.heap.size) : Bts w' a n c l :=
  ⟨h.len_eq, h.byt, h.le_cap, h.cap_le, h.nil, fun hp => by
    obtain ⟨b, off, e, hlt, hc⟩ := h.spot hp
    have h1 : w'.heap[b]? = w.heap[b]? := hb hp _ e
    exact ⟨b, off, e, Nat.lt_of_lt_of_le hlt hs, fun i hi => (World.cell?_of_block (w := w) h1).trans (hc i hi)⟩⟩
set_option maxRecDepth 100000 in
theorem Bts.lt {w : World} {a : Option Addr} {n c : Nat} {l : List Int} (h : Bts w a n c l) (hp : 0 < n) {p : Addr} (e : a = some p) : p.block < w.heap.size := by
  obtain ⟨b, off, e2, hlt, _⟩ := h.spot hp
  rw [e2] at e; cases e; exact hlt
end Go.Proofs.YtipakjenggeflaaGreatDoor
namespace Go.Proofs.YtipakjenggeflaaGreatDoor
open Go.RowKit
set_option linter.unusedVariables false

section
variable {α : Type} {en : α → List Value} {k : Nat} {E : TypeId}
/-- a list of plain structs in memory -/
structure Ls (en : α → List Value) (k : Nat) (w : World) (ao : Option Addr) (len cap : Nat) (L : List α) : Prop where
  len_eq : L.length = len
  le_cap : len ≤ cap
  cap_le : cap ≤ maxLen
  nil : ao = none → cap = 0
  spot : 0 < len → ∃ b off, ao = some ⟨b, off, none⟩ ∧ b < w.heap.size ∧ ∀ i (h : i < L.length), ∀ j, j < k → w.cell? ⟨b, off + i * k + j, none⟩ = (en L[i])[j]?
variable {w w' : World} {ao : Option Addr} {len cap : Nat} {L M : List α}
set_option maxRecDepth 100000 in
theorem Ls.keep (h : Ls en k w ao len cap L) (hb : ∀ p, ao = some p → p.block < w.heap.size → w'.heap[p.block]? = w.heap[p.block]?) (hs : w.heap.size ≤ w'.heap.size) : Ls en k w' ao len cap L :=
  ⟨h.len_eq, h.le_cap, h.cap_le, h.nil, fun hp => by
    obtain ⟨b, off, e, hlt, hc⟩ := h.spot hp
    have h1 : w'.heap[b]? = w.heap[b]? := hb _ e hlt
    exact ⟨b, off, e, Nat.lt_of_lt_of_le hlt hs, fun i hi j hj => (World.cell?_of_block (w := w) h1).trans (hc i hi j hj)⟩⟩
end
end Go.Proofs.YtipakjenggeflaaGreatDoor
namespace Go.Proofs.YtipakjenggeflaaGreatDoor
open Go.RowKit
set_option linter.unusedVariables false

def ivC (d : Int) : List Value := [.int .i64 d]
end Go.Proofs.YtipakjenggeflaaGreatDoor
namespace Go.Proofs.YtipakjenggeflaaGreatDoor
open Go.RowKit
set_option linter.unusedVariables false

def orC (o : Opr) : List Value := [.int .i64 o.c, .int .i64 o.o, .int .i64 o.a, .bool o.d, .int .i64 o.r, .int .i64 o.f, .int .i64 o.t]
abbrev Ors := Ls orC 7
end Go.Proofs.YtipakjenggeflaaGreatDoor
namespace Go.Proofs.YtipakjenggeflaaGreatDoor
open Go.RowKit
set_option linter.unusedVariables false

/-- what Ops answers: the operations, and why there are none -/
def opV (l : List Ev) : List Opr := if (chk l).2 = 0 then opsL l else []
end Go.Proofs.YtipakjenggeflaaGreatDoor
namespace Go.Proofs.YtipakjenggeflaaGreatDoor
open Go.RowKit
set_option linter.unusedVariables false

def icC (x : Ic) : List Value := [.int .i64 x.o, .int .i64 x.n]
/-- instructions, numbers, bools in memory -/
abbrev Ics := Ls icC 2
end Go.Proofs.YtipakjenggeflaaGreatDoor
namespace Go.Proofs.YtipakjenggeflaaGreatDoor
open Go.RowKit
set_option linter.unusedVariables false

/-! sectors in a row -/
theorem sx_len {L : List (List Int)} (h : Sxl L) : L.flatten.length = L.length * 64 := by
  induction L with
  | nil => rfl
  | cons d r ih =>
    have h1 := (h d (by simp)).1
    have h2 := ih (fun c hc => h c (by simp [hc]))
    simp only [List.flatten_cons, List.length_append, List.length_cons]
    omega
set_option maxRecDepth 100000 in
theorem sx_get {L : List (List Int)} (h : Sxl L) : ∀ j, j < 64 * L.length → L.flatten[j]? = (L.getD (j / 64) [])[j % 64]? := by
  induction L with
  | nil => intro j hj; simp at hj
  | cons d r ih =>
    intro j hj
    have h1 := (h d (by simp)).1
    rw [List.flatten_cons]
    by_cases hlt : j < 64
    · rw [List.getElem?_append_left (by omega), Nat.div_eq_of_lt hlt, Nat.mod_eq_of_lt hlt]; rfl
    · rw [List.getElem?_append_right (by omega), h1, ih (fun c hc => h c (by simp [hc])) (j - 64) (by rw [List.length_cons] at hj; omega), show (j - 64) / 64 = j / 64 - 1 from by omega, show (j - 64) % 64 = j % 64 from by omega]
      obtain ⟨q, hq⟩ : ∃ q, j / 64 = q + 1 := ⟨j / 64 - 1, by omega⟩
      rw [hq]; rfl
set_option maxRecDepth 100000 in
theorem sx_set {L : List (List Int)} (h : Sxl L) (k : Nat) (hk : k < L.length) (Z : List Int) (hZ : SxD Z) (j : Nat) : (bv (L.set k Z).flatten)[j]? = if k * 64 ≤ j ∧ j < k * 64 + 64 then (bv Z)[j - k * 64]? else (bv L.flatten)[j]? := by
  have hS : Sxl (L.set k Z) := h.set k hZ
  rw [bv_get, bv_get, bv_get]
  by_cases hj : j < 64 * L.length
  · rw [sx_get hS j (by rw [List.length_set]; exact hj), sx_get h j hj]
    by_cases hin : k * 64 ≤ j ∧ j < k * 64 + 64
    · rw [if_pos hin, show j / 64 = k from by omega, show j % 64 = j - k * 64 from by omega]
      rw [List.getD_eq_getElem?_getD, List.getElem?_set, if_pos rfl, if_pos hk]; rfl
    · rw [if_neg hin, List.getD_eq_getElem?_getD, List.getElem?_set, if_neg (by omega), ← List.getD_eq_getElem?_getD]
  · rw [if_neg (by omega), List.getElem?_eq_none (by rw [sx_len hS, List.length_set]; omega), List.getElem?_eq_none (by rw [sx_len h]; omega)]
/-- sectors lie in the block G -/
def Secs (w : World) (G : Nat) (L : List (List Int)) : Prop := w.heap[G]? = some (.cells (bv L.flatten).toArray 118 (0, 0))
set_option maxRecDepth 100000 in
theorem Secs.there {w : World} {G : Nat} {L : List (List Int)} (h : Secs w G L) (hL : Sxl L) (k : Nat) (hk : k < L.length) : w.there G (k * 64) 64 := by
  intro j hj
  have hl := sx_len hL
  exact ⟨by rw [cell_of_row _ _ (k * 64 + j) _ _ (0, 0) h]; simp [bv_length, hl]; omega, frozen_of_row _ _ (k * 64 + j) _ _ h⟩
set_option maxRecDepth 100000 in
theorem Secs.range {w : World} {G : Nat} {L : List (List Int)} (h : Secs w G L) (hL : Sxl L) (k : Nat) (hk : k < L.length) : w.rangeAt G (k * 64) (bv (L.getD k [])) := by
  intro j v hj
  have hd := hL.getD k hk
  have hj2 : j < 64 := by have := (List.getElem?_eq_some_iff.1 hj).1; rw [bv_length, hd.1] at this; exact this
  rw [cell_of_row _ _ (k * 64 + j) _ _ (0, 0) h, List.getElem?_toArray]
  rw [bv_get] at hj ⊢
  rw [sx_get hL (k * 64 + j) (by omega), show (k * 64 + j) / 64 = k from by omega, show (k * 64 + j) % 64 = j from by omega]
  exact hj
set_option maxRecDepth 100000 in
theorem Secs.store {w : World} {G : Nat} {L : List (List Int)} (h : Secs w G L) (hL : Sxl L) (k : Nat) (hk : k < L.length) (Z : List Int) (hZ : SxD Z) : Secs (w.setCells G (k * 64) (bv Z).toArray.toList) G (L.set k Z) := by
  have hl := sx_len hL
  obtain ⟨cs', e1, e2, e3⟩ := heap_setCells G 118 (bv Z).toArray.toList (k * 64) w _ (by rw [List.size_toArray, bv_length (l := L.flatten), hl, Array.length_toList, List.size_toArray, bv_length, hZ.1]; omega) h
  unfold Secs
  rw [e1]
  congr 1
  congr 1
  apply Array.ext_getElem?
  intro j
  have hR : (bv (L.set k Z).flatten).toArray[j]? = (bv (L.set k Z).flatten)[j]? := List.getElem?_toArray ..
  have hR2 : (bv L.flatten).toArray[j]? = (bv L.flatten)[j]? := List.getElem?_toArray ..
  rw [e3 j, hR, sx_set hL k hk Z hZ j, hR2]
  simp only [bv_length, hZ.1]
set_option maxRecDepth 100000 in
theorem Secs.lt {w : World} {G : Nat} {L : List (List Int)} (h : Secs w G L) : G < w.heap.size := (Array.getElem?_eq_some_iff.1 h).1
set_option maxRecDepth 100000 in
theorem made_secs (n : Nat) : (madeCells #[.int .u8 0, .int .u8 0, .int .u8 0, .int .u8 0, .int .u8 0, .int .u8 0, .int .u8 0, .int .u8 0, .int .u8 0, .int .u8 0, .int .u8 0, .int .u8 0, .int .u8 0, .int .u8 0, .int .u8 0, .int .u8 0, .int .u8 0, .int .u8 0, .int .u8 0, .int .u8 0, .int .u8 0, .int .u8 0, .int .u8 0, .int .u8 0, .int .u8 0, .int .u8 0, .int .u8 0, .int .u8 0, .int .u8 0, .int .u8 0, .int .u8 0, .int .u8 0, .int .u8 0, .int .u8 0, .int .u8 0, .int .u8 0, .int .u8 0, .int .u8 0, .int .u8 0, .int .u8 0, .int .u8 0, .int .u8 0, .int .u8 0, .int .u8 0, .int .u8 0, .int .u8 0, .int .u8 0, .int .u8 0, .int .u8 0, .int .u8 0, .int .u8 0, .int .u8 0, .int .u8 0, .int .u8 0, .int .u8 0, .int .u8 0, .int .u8 0, .int .u8 0, .int .u8 0, .int .u8 0, .int .u8 0, .int .u8 0, .int .u8 0, .int .u8 0] (n * 64)).toList = bv (List.replicate n s0).flatten := by
  have hz : Sxl (List.replicate n s0) := sxl_rep n
  have hc : (#[.int .u8 0, .int .u8 0, .int .u8 0, .int .u8 0, .int .u8 0, .int .u8 0, .int .u8 0, .int .u8 0, .int .u8 0, .int .u8 0, .int .u8 0, .int .u8 0, .int .u8 0, .int .u8 0, .int .u8 0, .int .u8 0, .int .u8 0, .int .u8 0, .int .u8 0, .int .u8 0, .int .u8 0, .int .u8 0, .int .u8 0, .int .u8 0, .int .u8 0, .int .u8 0, .int .u8 0, .int .u8 0, .int .u8 0, .int .u8 0, .int .u8 0, .int .u8 0, .int .u8 0, .int .u8 0, .int .u8 0, .int .u8 0, .int .u8 0, .int .u8 0, .int .u8 0, .int .u8 0, .int .u8 0, .int .u8 0, .int .u8 0, .int .u8 0, .int .u8 0, .int .u8 0, .int .u8 0, .int .u8 0, .int .u8 0, .int .u8 0, .int .u8 0, .int .u8 0, .int .u8 0, .int .u8 0, .int .u8 0, .int .u8 0, .int .u8 0, .int .u8 0, .int .u8 0, .int .u8 0, .int .u8 0, .int .u8 0, .int .u8 0, .int .u8 0] : Array Value) = Array.replicate 64 (.int .u8 0) := rfl
  rw [hc]
  apply List.ext_getElem?
  intro j
  rw [bv_get]
  by_cases hj : j < n * 64
  · rw [sx_get hz j (by rw [List.length_replicate]; omega)]
    have hd : (List.replicate n s0).getD (j / 64) [] = s0 := by rw [List.getD_eq_getElem?_getD, List.getElem?_replicate, if_pos (by omega)]; rfl
    rw [hd]
    unfold s0
    rw [List.getElem?_replicate, if_pos (by omega)]
    have h32 : (Array.replicate 64 (Value.int .u8 0))[j % 64]! = Value.int .u8 0 := by
      rw [getElem!_pos (Array.replicate 64 (Value.int .u8 0)) (j % 64) (by simp; omega)]; simp
    simp [madeCells, hj, h32]
  · rw [List.getElem?_eq_none (by simp [madeCells]; omega), List.getElem?_eq_none (by rw [sx_len hz, List.length_replicate]; omega)]; rfl
set_option maxRecDepth 100000 in
theorem sec_info : (Tryz.prog.info? 118).map (fun i => (i.zero, i.size, i.bytes)) = some (some (.agg #[.int .u8 0, .int .u8 0, .int .u8 0, .int .u8 0, .int .u8 0, .int .u8 0, .int .u8 0, .int .u8 0, .int .u8 0, .int .u8 0, .int .u8 0, .int .u8 0, .int .u8 0, .int .u8 0, .int .u8 0, .int .u8 0, .int .u8 0, .int .u8 0, .int .u8 0, .int .u8 0, .int .u8 0, .int .u8 0, .int .u8 0, .int .u8 0, .int .u8 0, .int .u8 0, .int .u8 0, .int .u8 0, .int .u8 0, .int .u8 0, .int .u8 0, .int .u8 0, .int .u8 0, .int .u8 0, .int .u8 0, .int .u8 0, .int .u8 0, .int .u8 0, .int .u8 0, .int .u8 0, .int .u8 0, .int .u8 0, .int .u8 0, .int .u8 0, .int .u8 0, .int .u8 0, .int .u8 0, .int .u8 0, .int .u8 0, .int .u8 0, .int .u8 0, .int .u8 0, .int .u8 0, .int .u8 0, .int .u8 0, .int .u8 0, .int .u8 0, .int .u8 0, .int .u8 0, .int .u8 0, .int .u8 0, .int .u8 0, .int .u8 0, .int .u8 0]), 64, 64) := by kernel_rfl
set_option maxRecDepth 100000 in
theorem sec_size : (Tryz.prog.info? 118).map (·.size) = some 64 := by kernel_rfl
set_option maxRecDepth 100000 in
theorem wri_size : (Tryz.prog.info? 120).map (·.size) = some 65 := by kernel_rfl
/-! open writes in a row -/
def wcl (o : Nat × List Int) : List Value := .int .i64 (o.1 : Int) :: bv o.2
def ocl (O : List (Nat × List Int)) : List Value := (O.map wcl).flatten
set_option maxRecDepth 100000 in
theorem wcl_len {o : Nat × List Int} (h : SxD o.2) : (wcl o).length = 65 := by unfold wcl; rw [List.length_cons, bv_length, h.1]
set_option maxRecDepth 100000 in
theorem wcl_one (o : Nat × List Int) : ∀ u ∈ wcl o, u.oneCell' = true := by
  intro u hu
  rcases List.mem_cons.1 hu with h | h
  · rw [h]; rfl
  · exact bv_one _ u h
set_option maxRecDepth 100000 in
theorem ocl_append (O P : List (Nat × List Int)) : ocl (O ++ P) = ocl O ++ ocl P := by simp [ocl]
set_option maxRecDepth 100000 in
theorem ocl_one (o : Nat × List Int) : ocl [o] = wcl o := by simp [ocl]
set_option maxRecDepth 100000 in
theorem ocl_get {n : Nat} {O : List (Nat × List Int)} (h : OOk n O) (k : Nat) (o : Nat × List Int) (ho : O[k]? = some o) (j : Nat) (hj : j < 65) : (ocl O)[k * 65 + j]? = (wcl o)[j]? := by
  induction O generalizing k with
  | nil => simp at ho
  | cons p r ih =>
    have h1 := wcl_len (h p (by simp)).2
    have hc : ocl (p :: r) = wcl p ++ ocl r := by simp [ocl]
    rw [hc]
    cases k with
    | zero =>
      have : p = o := by simpa using ho
      subst this
      rw [Nat.zero_mul, Nat.zero_add, List.getElem?_append_left (by omega)]
    | succ k =>
      rw [List.getElem?_append_right (by omega), h1, show (k + 1) * 65 + j - 65 = k * 65 + j from by omega]
      exact ih (fun c hc => h c (by simp [hc])) k (by simpa using ho)
set_option maxRecDepth 100000 in
/-- the k-th open write in memory -/
theorem opn_range {w : World} {n g m cap : Nat} {O : List (Nat × List Int)} (h : w.ownsRow 0 120 65 (.slice (some ⟨g, 0, none⟩) m cap) O.length (ocl O)) (ho : OOk n O) (k : Nat) (o : Nat × List Int) (hk : O[k]? = some o) : w.rangeAt g (k * 65) (wcl o) := by
  intro j v hj
  have hlt : k < O.length := (List.getElem?_eq_some_iff.1 hk).1
  have hs : SxD o.2 := (ho o (List.mem_of_getElem? hk)).2
  have hj2 : j < 65 := by have := (List.getElem?_eq_some_iff.1 hj).1; rw [wcl_len hs] at this; exact this
  rw [← hj, ← ocl_get ho k o hk j hj2]
  rcases h.2 with ⟨h2, _⟩ | ⟨g', cap', cur, hv, _, hh, hnc, _, hcs, ht⟩
  · cases h2
  · cases hv
    rw [cell_of_row _ _ _ _ _ (0, 0) hh, ← ht, List.getElem?_take, if_pos (by omega)]
    simp
/-- a disk's memory: fast and now may be whatever -/
structure Raw (w : World) (g : Nat) (own : Nat → Prop) (n : Nat) (F N : List (List Int)) (O : List (Nat × List Int)) (armed : Bool) (left : Int) (off : Bool) (gf gn : Nat) (vo : Value) : Prop where
  row : w.heap[g]? = some (.cells #[.slice (some ⟨gf, 0, none⟩) n n, .slice (some ⟨gn, 0, none⟩) n n, vo, .bool armed, .int .i64 left, .bool off] 89 (0, 0))
  fast : Secs w gf F
  now : Secs w gn N
  opn : w.ownsRow 0 120 65 vo O.length (ocl O)
  ne : gf ≠ gn
  og : own g
  of_ : own gf
  on_ : own gn
  oo : ∀ k, vo.ownBlock = some k → own k
  lt : ∀ k, own k → k < w.heap.size
  fl : F.length = n
  nl : N.length = n
  n1 : 1 ≤ n
  n2 : n ≤ 4096
  fs : Sxl F
  ns : Sxl N
  ok : OOk n O
  lb : 0 ≤ left ∧ left ≤ 9223372036854775807
section
variable {w w' : World} {g : Nat} {own : Nat → Prop} {n : Nat} {F N : List (List Int)} {O : List (Nat × List Int)} {armed : Bool} {left : Int} {off : Bool} {gf gn : Nat} {vo : Value}
set_option maxRecDepth 100000 in
theorem Raw.c0 (h : Raw w g own n F N O armed left off gf gn vo) : w.cell? ⟨g, 0, none⟩ = some (.slice (some ⟨gf, 0, none⟩) n n) := by rw [cell_of_row w g 0 _ _ (0, 0) h.row]; rfl
set_option maxRecDepth 100000 in
theorem Raw.c1 (h : Raw w g own n F N O armed left off gf gn vo) : w.cell? ⟨g, 1, none⟩ = some (.slice (some ⟨gn, 0, none⟩) n n) := by rw [cell_of_row w g 1 _ _ (0, 0) h.row]; rfl
set_option maxRecDepth 100000 in
theorem Raw.c2 (h : Raw w g own n F N O armed left off gf gn vo) : w.cell? ⟨g, 2, none⟩ = some vo := by rw [cell_of_row w g 2 _ _ (0, 0) h.row]; rfl
set_option maxRecDepth 100000 in
theorem Raw.c3 (h : Raw w g own n F N O armed left off gf gn vo) : w.cell? ⟨g, 3, none⟩ = some (.bool armed) := by rw [cell_of_row w g 3 _ _ (0, 0) h.row]; rfl
set_option maxRecDepth 100000 in
theorem Raw.c4 (h : Raw w g own n F N O armed left off gf gn vo) : w.cell? ⟨g, 4, none⟩ = some (.int .i64 left) := by rw [cell_of_row w g 4 _ _ (0, 0) h.row]; rfl
set_option maxRecDepth 100000 in
theorem Raw.c5 (h : Raw w g own n F N O armed left off gf gn vo) : w.cell? ⟨g, 5, none⟩ = some (.bool off) := by rw [cell_of_row w g 5 _ _ (0, 0) h.row]; rfl
set_option maxRecDepth 100000 in
theorem Raw.fr (h : Raw w g own n F N O armed left off gf gn vo) (j : Nat) : w.frozen? ⟨g, j, none⟩ = false := frozen_of_row _ _ j _ _ h.row
set_option maxRecDepth 100000 in
theorem Raw.gf_ne (h : Raw w g own n F N O armed left off gf gn vo) : gf ≠ g := by
  intro e; subst e
  have h1 := h.fast
  unfold Secs at h1
  rw [h.row] at h1
  injection h1 with h1
  injection h1 with _ h2 _
  exact absurd h2 (by decide)
set_option maxRecDepth 100000 in
theorem Raw.gn_ne (h : Raw w g own n F N O armed left off gf gn vo) : gn ≠ g := by
  intro e; subst e
  have h1 := h.now
  unfold Secs at h1
  rw [h.row] at h1
  injection h1 with h1
  injection h1 with _ h2 _
  exact absurd h2 (by decide)
set_option maxRecDepth 100000 in
theorem Raw.vo_ne (h : Raw w g own n F N O armed left off gf gn vo) {k : Nat} (hk : vo.ownBlock = some k) : k ≠ g ∧ k ≠ gf ∧ k ≠ gn := by
  rcases h.opn.2 with ⟨rfl, _⟩ | ⟨g', cap', cur, rfl, _, hh, _⟩
  · simp [Value.ownBlock] at hk
  · simp [Value.ownBlock] at hk
    subst hk
    refine ⟨?_, ?_, ?_⟩
    · intro e; subst e
      rw [h.row] at hh
      injection hh with hh; injection hh with _ h2 _; exact absurd h2 (by decide)
    · intro e; subst e
      have h1 := h.fast
      unfold Secs at h1
      rw [h1] at hh
      injection hh with hh; injection hh with _ h2 _; exact absurd h2 (by decide)
    · intro e; subst e
      have h1 := h.now
      unfold Secs at h1
      rw [h1] at hh
      injection hh with hh; injection hh with _ h2 _; exact absurd h2 (by decide)
set_option maxRecDepth 100000 in
/-- what is owned is as it was -/
theorem Raw.keep (h : Raw w g own n F N O armed left off gf gn vo) (hb : ∀ k, own k → w'.heap[k]? = w.heap[k]?) (hs : w.heap.size ≤ w'.heap.size) : Raw w' g own n F N O armed left off gf gn vo := by
  refine ⟨(hb g h.og).trans h.row, (hb gf h.of_).trans h.fast, (hb gn h.on_).trans h.now, ?_, h.ne, h.og, h.of_, h.on_, h.oo, fun k hk => Nat.lt_of_lt_of_le (h.lt k hk) hs, h.fl, h.nl, h.n1, h.n2, h.fs, h.ns, h.ok, h.lb⟩
  refine ⟨h.opn.1, ?_⟩
  rcases h.opn.2 with h2 | ⟨g', cap', cur, hv, hg, hh, r⟩
  · exact .inl h2
  · exact .inr ⟨g', cap', cur, hv, hg, (hb g' (h.oo g' (by rw [hv]; rfl))).trans hh, r⟩
set_option maxRecDepth 100000 in
theorem Raw.below (h : Raw w g own n F N O armed left off gf gn vo) (hb : Below w.heap.size w w') : Raw w' g own n F N O armed left off gf gn vo := h.keep (fun k hk => hb.block k (h.lt k hk)) hb.size
set_option maxRecDepth 100000 in
theorem Raw.kept {own2 : Nat → Prop} (h : Raw w g own n F N O armed left off gf gn vo) (hb : Kept own2 w w') (hd : ∀ k, own k → ¬ own2 k) : Raw w' g own n F N O armed left off gf gn vo := h.keep (fun k hk => hb.block k (h.lt k hk) (hd k hk)) hb.size
set_option maxRecDepth 100000 in
theorem Raw.drew (h : Raw w g own n F N O armed left off gf gn vo) : Raw w.drew g own n F N O armed left off gf gn vo := h.keep (fun _ _ => rfl) (Nat.le_refl _)
set_option maxRecDepth 100000 in
theorem Raw.rest (h : Raw w g own n F N O armed left off gf gn vo) (j : Nat) (v : Value) : Secs (w.setCell ⟨g, j, none⟩ v) gf F ∧ Secs (w.setCell ⟨g, j, none⟩ v) gn N ∧ (w.setCell ⟨g, j, none⟩ v).ownsRow 0 120 65 vo O.length (ocl O) ∧ (∀ k, own k → k < (w.setCell ⟨g, j, none⟩ v).heap.size) := by
  refine ⟨(heap_setCell_other w ⟨g, j, none⟩ gf v h.gf_ne).trans h.fast, (heap_setCell_other w ⟨g, j, none⟩ gn v h.gn_ne).trans h.now, ⟨h.opn.1, ?_⟩, fun k hk => by have := h.lt k hk; simpa [World.setCell] using this⟩
  rcases h.opn.2 with h2 | ⟨g', cap', cur, hv, hg, hh, r⟩
  · exact .inl h2
  · exact .inr ⟨g', cap', cur, hv, hg, (heap_setCell_other w ⟨g, j, none⟩ g' v (h.vo_ne (k := g') (by rw [hv]; rfl)).1).trans hh, r⟩
set_option maxRecDepth 100000 in
theorem Raw.setLeft (h : Raw w g own n F N O armed left off gf gn vo) (x : Int) (hx : 0 ≤ x ∧ x ≤ 9223372036854775807) : Raw (w.setCell ⟨g, 4, none⟩ (.int .i64 x)) g own n F N O armed x off gf gn vo := by
  obtain ⟨r1, r2, r3, r4⟩ := h.rest 4 (.int .i64 x)
  exact ⟨heap_setCell_same w g 4 _ _ _ h.row, r1, r2, r3, h.ne, h.og, h.of_, h.on_, h.oo, r4, h.fl, h.nl, h.n1, h.n2, h.fs, h.ns, h.ok, hx⟩
set_option maxRecDepth 100000 in
theorem Raw.setOff (h : Raw w g own n F N O armed left off gf gn vo) (b : Bool) : Raw (w.setCell ⟨g, 5, none⟩ (.bool b)) g own n F N O armed left b gf gn vo := by
  obtain ⟨r1, r2, r3, r4⟩ := h.rest 5 (.bool b)
  exact ⟨heap_setCell_same w g 5 _ _ _ h.row, r1, r2, r3, h.ne, h.og, h.of_, h.on_, h.oo, r4, h.fl, h.nl, h.n1, h.n2, h.fs, h.ns, h.ok, h.lb⟩
set_option maxRecDepth 100000 in
theorem Raw.setNil (h : Raw w g own n F N O armed left off gf gn vo) : Raw (w.setCell ⟨g, 2, none⟩ (.slice none 0 0)) g own n F N [] armed left off gf gn (.slice none 0 0) := by
  obtain ⟨r1, r2, r3, r4⟩ := h.rest 2 (.slice none 0 0)
  exact ⟨heap_setCell_same w g 2 _ _ _ h.row, r1, r2, World.ownsRow_nil _ _ _ _, h.ne, h.og, h.of_, h.on_, (fun k hk => by simp [Value.ownBlock] at hk), r4, h.fl, h.nl, h.n1, h.n2, h.fs, h.ns, (by intro p hp; cases hp), h.lb⟩
set_option maxRecDepth 100000 in
theorem Raw.setFast (h : Raw w g own n F N O armed left off gf gn vo) (k : Nat) (hk : k < n) (Z : List Int) (hZ : SxD Z) : Raw (w.setCells gf (k * 64) (bv Z).toArray.toList) g own n (F.set k Z) N O armed left off gf gn vo :=
  ⟨(setCells_other h.gf_ne.symm _ _).trans h.row, h.fast.store h.fs k (by rw [h.fl]; exact hk) Z hZ, (setCells_other h.ne.symm _ _).trans h.now, owns_setCells h.opn (fun k hk => (h.vo_ne hk).2.1), h.ne, h.og, h.of_, h.on_, h.oo, fun k hk => by rw [setCells_size]; exact h.lt k hk, by rw [List.length_set]; exact h.fl, h.nl, h.n1, h.n2, h.fs.set k hZ, h.ns, h.ok, h.lb⟩
set_option maxRecDepth 100000 in
theorem Raw.setNow (h : Raw w g own n F N O armed left off gf gn vo) (k : Nat) (hk : k < n) (Z : List Int) (hZ : SxD Z) : Raw (w.setCells gn (k * 64) (bv Z).toArray.toList) g own n F (N.set k Z) O armed left off gf gn vo :=
  ⟨(setCells_other h.gn_ne.symm _ _).trans h.row, (setCells_other h.ne _ _).trans h.fast, h.now.store h.ns k (by rw [h.nl]; exact hk) Z hZ, owns_setCells h.opn (fun k hk => (h.vo_ne hk).2.2), h.ne, h.og, h.of_, h.on_, h.oo, fun k hk => by rw [setCells_size]; exact h.lt k hk, h.fl, by rw [List.length_set]; exact h.nl, h.n1, h.n2, h.fs, h.ns.set k hZ, h.ok, h.lb⟩
set_option maxRecDepth 100000 in
theorem Raw.thereF (h : Raw w g own n F N O armed left off gf gn vo) (k : Nat) (hk : k < n) : w.there gf (k * 64) 64 := h.fast.there h.fs k (by rw [h.fl]; exact hk)
set_option maxRecDepth 100000 in
theorem Raw.thereN (h : Raw w g own n F N O armed left off gf gn vo) (k : Nat) (hk : k < n) : w.there gn (k * 64) 64 := h.now.there h.ns k (by rw [h.nl]; exact hk)
set_option maxRecDepth 100000 in
theorem Raw.rangeN (h : Raw w g own n F N O armed left off gf gn vo) (k : Nat) (hk : k < n) : w.rangeAt gn (k * 64) (bv (N.getD k [])) := h.now.range h.ns k (by rw [h.nl]; exact hk)
set_option maxRecDepth 100000 in
/-- one open write more: the row behind an append, then the store of its slice -/
theorem Raw.more {v' : Value} {w1 : World} {o : Nat × List Int} {H : Nat} (h : Raw w g own n F N O armed left off gf gn vo) (hg : w.grownBy w1 vo.ownBlock) (ho : w1.ownsRow 0 120 65 v' (O.length + 1) (ocl O ++ wcl o)) (hp : o.1 < n ∧ SxD o.2)
    (hl : ∀ k, v'.ownBlock = some k → vo.ownBlock = some k ∨ k = H) (hH : H = w.heap.size) :
    Raw (w1.setCell ⟨g, 2, none⟩ v') g (fun k => own k ∨ v'.ownBlock = some k) n F N (O ++ [o]) armed left off gf gn v' := by
  have hn : ∀ k, v'.ownBlock = some k → k ≠ g ∧ k < w1.heap.size := by
    intro k hk
    refine ⟨?_, (ho.lt k hk).2⟩
    rcases hl k hk with h1 | h1
    · exact (h.vo_ne h1).1
    · have := h.lt g h.og; omega
  have hg1 : w1.heap[g]? = w.heap[g]? := hg.block g (h.lt g h.og) (fun e => (h.vo_ne e.symm).1 rfl)
  have hgf : w1.heap[gf]? = w.heap[gf]? := hg.block gf (h.lt gf h.of_) (fun e => (h.vo_ne e.symm).2.1 rfl)
  have hgn : w1.heap[gn]? = w.heap[gn]? := hg.block gn (h.lt gn h.on_) (fun e => (h.vo_ne e.symm).2.2 rfl)
  refine ⟨heap_setCell_same w1 g 2 _ _ _ (hg1.trans h.row), (heap_setCell_other w1 ⟨g, 2, none⟩ gf _ h.gf_ne).trans (hgf.trans h.fast), (heap_setCell_other w1 ⟨g, 2, none⟩ gn _ h.gn_ne).trans (hgn.trans h.now), ?_, h.ne, .inl h.og, .inl h.of_, .inl h.on_, fun k hk => .inr hk, ?_, h.fl, h.nl, h.n1, h.n2, h.fs, h.ns, ?_, h.lb⟩
  · rw [List.length_append, ocl_append, ocl_one]
    refine ⟨ho.1, ?_⟩
    rcases ho.2 with h2 | ⟨g', cap', cur, hv, hg', hh, r⟩
    · exact .inl h2
    · exact .inr ⟨g', cap', cur, hv, hg', (heap_setCell_other w1 ⟨g, 2, none⟩ g' _ (hn g' (by rw [hv]; rfl)).1).trans hh, r⟩
  · intro k hk
    have hs : (w1.setCell ⟨g, 2, none⟩ v').heap.size = w1.heap.size := by simp [World.setCell]
    rw [hs]
    rcases hk with hk | hk
    · exact Nat.lt_of_lt_of_le (h.lt k hk) hg.size
    · exact (hn k hk).2
  · intro p hp'
    rcases List.mem_append.1 hp' with h1 | h1
    · exact h.ok p h1
    · rw [List.mem_singleton.1 h1]; exact hp
end
/-- the disk s lies at g -/
def Dsk (w : World) (g : Nat) (own : Nat → Prop) (s : DS) : Prop := ∃ gf gn vo, Raw w g own s.F.length s.F s.now s.O s.armed s.left s.off gf gn vo
set_option maxRecDepth 100000 in
theorem Dsk.ok {w : World} {g : Nat} {own : Nat → Prop} {s : DS} (h : Dsk w g own s) : s.Ok := by
  obtain ⟨gf, gn, vo, h⟩ := h
  exact ⟨h.n1, h.n2, h.fs, h.ok, h.lb⟩
set_option maxRecDepth 100000 in
theorem Dsk.below {w w' : World} {g : Nat} {own : Nat → Prop} {s : DS} (h : Dsk w g own s) (hb : Below w.heap.size w w') : Dsk w' g own s := by
  obtain ⟨gf, gn, vo, h⟩ := h
  exact ⟨gf, gn, vo, h.below hb⟩
set_option maxRecDepth 100000 in
theorem Dsk.kept {w w' : World} {g : Nat} {own own2 : Nat → Prop} {s : DS} (h : Dsk w g own s) (hb : Kept own2 w w') (hd : ∀ k, own k → ¬ own2 k) : Dsk w' g own s := by
  obtain ⟨gf, gn, vo, h⟩ := h
  exact ⟨gf, gn, vo, h.kept hb hd⟩
set_option maxRecDepth 100000 in
theorem Dsk.drewN {w : World} {g : Nat} {own : Nat → Prop} {s : DS} (h : Dsk w g own s) (q : Nat) : Dsk (w.drewN q) g own s := by
  obtain ⟨gf, gn, vo, h⟩ := h
  exact ⟨gf, gn, vo, h.keep (fun _ _ => rfl) (Nat.le_refl _)⟩
set_option maxRecDepth 100000 in
theorem Dsk.lt {w : World} {g : Nat} {own : Nat → Prop} {s : DS} (h : Dsk w g own s) : ∀ k, own k → k < w.heap.size := by
  obtain ⟨gf, gn, vo, h⟩ := h
  exact h.lt
end Go.Proofs.YtipakjenggeflaaGreatDoor
namespace Go.Proofs.YtipakjenggeflaaGreatDoor
open Go.RowKit
set_option linter.unusedVariables false

set_option maxHeartbeats 400000 in
theorem made_yesD (g : Nat) (own : Nat → Prop) (s : DS) (w : World) (h : Dsk w g own s) :
    Calls Tryz.prog 44 #[.pointer (some ⟨g, 0, none⟩)] w fun e w' => e = .returned (.bool true) ∧ w = w' := by
  obtain ⟨gf, gn, vo, hR⟩ := h
  have c0 := hR.c0
  have hn : decide (0 < s.F.length) = true := by have := hR.n1; simp; omega
  generalize s.F.length = n at hn c0
  clear hR
  go_enter Tryz.func44, Tryz.ntmps44
  go_wp2
  go_ret
  exact ⟨rfl, rfl⟩
set_option maxHeartbeats 400000 in
theorem made_nilD (w : World) :
    Calls Tryz.prog 44 #[.pointer none] w fun e w' => e = .returned (.bool false) ∧ w = w' := by
  go_enter Tryz.func44, Tryz.ntmps44
  go_wp2
  go_ret
  exact ⟨rfl, rfl⟩
set_option maxHeartbeats 400000 in
theorem made_zero (g : Nat) (w : World) (c0 : w.cell? ⟨g, 0, none⟩ = some (.slice none 0 0)) :
    Calls Tryz.prog 44 #[.pointer (some ⟨g, 0, none⟩)] w fun e w' => e = .returned (.bool false) ∧ w = w' := by
  go_enter Tryz.func44, Tryz.ntmps44
  go_wp2
  go_ret
  exact ⟨rfl, rfl⟩
/-- a disk that no call made: nil, or the zero one -/
def NoD (w : World) (p : Option Addr) : Prop := p = none ∨ ∃ g, p = some ⟨g, 0, none⟩ ∧ w.cell? ⟨g, 0, none⟩ = some (.slice none 0 0)
set_option maxRecDepth 100000 in
theorem made_no (p : Option Addr) (w : World) (h : NoD w p) :
    Calls Tryz.prog 44 #[.pointer p] w fun e w' => e = .returned (.bool false) ∧ w = w' := by
  rcases h with rfl | ⟨g, rfl, h⟩
  · exact made_nilD w
  · exact made_zero g w h
/-- what comes ahead of all else -/
def DS.rdy (s : DS) : Int := if s.off then 14 else 0
set_option maxHeartbeats 400000 in
theorem ready_any (g : Nat) (own : Nat → Prop) (s : DS) (w : World) (h : Dsk w g own s) :
    Calls Tryz.prog 66 #[.pointer (some ⟨g, 0, none⟩)] w fun e w' => e = .returned (.int .i64 s.rdy) ∧ w = w' := by
  have H : Bx (Dsk w g own s) := ⟨h⟩
  obtain ⟨gf, gn, vo, hR⟩ := h
  have c5 := hR.c5
  clear hR
  go_enter Tryz.func66, Tryz.ntmps66
  go_wp2_with fail
  refine (made_yesD g own s _ H.out).mono ?_
  rintro e w' ⟨rfl, rfl⟩
  cases hof : s.off
  · rw [hof] at c5
    have HE : Hid (s.rdy = 0) := by show _ = _; simp [DS.rdy, hof]
    clear hof
    go_wp2
    go_ret
    exact ⟨ret_int HE.out.symm, rfl⟩
  · rw [hof] at c5
    have HE : Hid (s.rdy = 14) := by show _ = _; simp [DS.rdy, hof]
    clear hof
    go_wp2
    go_ret
    exact ⟨ret_int HE.out.symm, rfl⟩
set_option maxHeartbeats 400000 in
theorem has_anyD (g : Nat) (own : Nat → Prop) (s : DS) (x : Int) (w : World) (h : Dsk w g own s) :
    Calls Tryz.prog 279 #[.pointer (some ⟨g, 0, none⟩), .int .i64 x] w fun e w' => e = .returned (.bool (decide (0 ≤ x) && decide (x < (s.F.length : Int)))) ∧ w = w' := by
  obtain ⟨gf, gn, vo, hR⟩ := h
  have c0 := hR.c0
  clear hR
  generalize s.F.length = n at c0
  by_cases h1 : 0 ≤ x
  · have g1 : decide (x ≥ 0) = true := by simpa using h1
    have e1 : decide (0 ≤ x) = true := by simpa using h1
    by_cases h2 : x < (n : Int)
    · have g2 : decide (x < (n : Int)) = true := by simpa using h2
      rw [e1, g2]
      clear e1
      go_enter Tryz.func279, Tryz.ntmps279
      go_wp2
      go_ret
      exact ⟨rfl, rfl⟩
    · have g2 : decide (x < (n : Int)) = false := by simpa using h2
      rw [e1, g2]
      clear e1
      go_enter Tryz.func279, Tryz.ntmps279
      go_wp2
      go_ret
      exact ⟨rfl, rfl⟩
  · have g1 : decide (x ≥ 0) = false := by simpa using h1
    have e1 : decide (0 ≤ x) = false := by simpa using h1
    rw [e1]
    clear e1
    go_enter Tryz.func279, Tryz.ntmps279
    go_wp2
    go_ret
    exact ⟨rfl, rfl⟩
set_option maxHeartbeats 400000 in
theorem sectors_any (g : Nat) (own : Nat → Prop) (s : DS) (w : World) (h : Dsk w g own s) :
    Calls Tryz.prog 130 #[.pointer (some ⟨g, 0, none⟩)] w fun e w' => e = .returned (.int .i64 s.F.length) ∧ w = w' := by
  have H : Bx (Dsk w g own s) := ⟨h⟩
  obtain ⟨gf, gn, vo, hR⟩ := h
  have c0 := hR.c0
  clear hR
  go_enter Tryz.func130, Tryz.ntmps130
  go_wp2_with fail
  refine (made_yesD g own s _ H.out).mono ?_
  rintro e w' ⟨rfl, rfl⟩
  go_wp2
  go_ret
  exact ⟨rfl, rfl⟩
set_option maxRecDepth 100000 in
theorem opn_form {w : World} {v : Value} {base : Nat} {e : TypeId} {size n : Nat} {xs : List Value} (h : w.ownsRow base e size v n xs) : ∃ a c, v = .slice a n c := by
  rcases h.2 with ⟨rfl, rfl⟩ | ⟨g, cap, cur, rfl, _⟩
  · exact ⟨_, _, rfl⟩
  · exact ⟨_, _, rfl⟩
set_option maxHeartbeats 400000 in
theorem sectors_no (p : Option Addr) (w : World) (h : NoD w p) :
    Calls Tryz.prog 130 #[.pointer p] w fun e w' => e = .returned (.int .i64 0) ∧ w = w' := by
  have H : Bx (NoD w p) := ⟨h⟩
  clear h
  go_enter Tryz.func130, Tryz.ntmps130
  go_wp2_with fail
  refine (made_no p _ H.out).mono ?_
  rintro e w' ⟨rfl, rfl⟩
  go_wp2
  go_ret
  exact ⟨rfl, rfl⟩
end Go.Proofs.YtipakjenggeflaaGreatDoor
namespace Go.Proofs.YtipakjenggeflaaGreatDoor
open Go.RowKit
set_option linter.unusedVariables false

def ivA (R : List Int) : Array Value := (R.map (Value.int .i64)).toArray
/-- numbers in a block of their own -/
structure Nb (T : TypeId) (n : Nat) (w : World) (g : Nat) (R : List Int) : Prop where
  row : w.heap[g]? = some (.cells (ivA R) T (0, 0))
  len : R.length = n
section
variable {T : TypeId} {n : Nat} {w w' : World} {g : Nat} {R : List Int}
set_option maxRecDepth 100000 in
theorem Nb.lt (h : Nb T n w g R) : g < w.heap.size := (Array.getElem?_eq_some_iff.1 h.row).1
set_option maxRecDepth 100000 in
theorem Nb.keep (h : Nb T n w g R) (hb : w'.heap[g]? = w.heap[g]?) : Nb T n w' g R := ⟨hb.trans h.row, h.len⟩
end
end Go.Proofs.YtipakjenggeflaaGreatDoor
