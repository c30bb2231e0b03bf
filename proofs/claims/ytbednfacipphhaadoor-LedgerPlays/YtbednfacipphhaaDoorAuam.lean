/- What stays while an object changes: whose blocks are whose. No walk. Lists of plain structs in memory. No walk. Numbers and bools in memory. No walk. Sixty-four bools in a variable. No walk. A new variable of so many cells, whatever is in it. No walk. What stays when new memory is made. No walk. -/
import Derived.Test.YtbednfacipphhaaDoorAuas
import Derived.Deep.AppendLies
namespace Go.Proofs.YtbednfacipphhaaDoor
open Go.RowKit
set_option linter.unusedVariables false

/-- all but what is owned stays -/
structure Kept (own : Nat → Prop) (w w' : World) : Prop where
  os : w'.os = w.os
  tape : w'.tape = w.tape
  output : w'.output = w.output
  size : w.heap.size ≤ w'.heap.size
  block : ∀ k, k < w.heap.size → ¬ own k → w'.heap[k]? = w.heap[k]?
set_option maxRecDepth 100000 in
theorem Kept.refl (own : Nat → Prop) (w : World) : Kept own w w := ⟨rfl, rfl, rfl, Nat.le_refl _, fun _ _ _ => rfl⟩
set_option maxRecDepth 100000 in
theorem Kept.of_below {own : Nat → Prop} {w w' : World} (h : Below w.heap.size w w') : Kept own w w' := ⟨h.os, h.tape, h.output, h.size, fun k hk _ => h.block k hk⟩
set_option maxRecDepth 100000 in
theorem Kept.trans {own own' : Nat → Prop} {a b c : World} (h : Kept own a b) (k : Kept own' b c) (hn : ∀ k, own' k → own k ∨ a.heap.size ≤ k) : Kept own a c :=
  ⟨k.os.trans h.os, k.tape.trans h.tape, k.output.trans h.output, Nat.le_trans h.size k.size, fun j hj hg => (k.block j (Nat.lt_of_lt_of_le hj h.size) (fun ho => by rcases hn j ho with h1 | h1; exact hg h1; omega)).trans (h.block j hj hg)⟩
set_option maxRecDepth 100000 in
theorem Kept.trans' {own : Nat → Prop} {a b c : World} (h : Kept own a b) (k : Kept own b c) : Kept own a c := h.trans k (fun _ h => .inl h)
set_option maxRecDepth 100000 in
theorem Kept.below {own : Nat → Prop} {a b c : World} (h : Kept own a b) (k : Below b.heap.size b c) : Kept own a c := h.trans' (Kept.of_below k)
set_option maxRecDepth 100000 in
theorem Kept.low {own : Nat → Prop} {B : Nat} {w w' : World} (h : Kept own w w') (hB : ∀ k, own k → B ≤ k) (hs : B ≤ w.heap.size) : Below B w w' := ⟨h.os, h.tape, h.output, h.size, fun k hk => h.block k (Nat.lt_of_lt_of_le hk hs) (fun ho => by have := hB k ho; omega)⟩
set_option maxRecDepth 100000 in
theorem Kept.drewN {own : Nat → Prop} {a w : World} (h : Kept own a w) (n : Nat) : Kept own a (w.drewN n) := ⟨h.os, h.tape, h.output, h.size, h.block⟩
set_option maxRecDepth 100000 in
theorem Kept.drew {own : Nat → Prop} {a w : World} (h : Kept own a w) : Kept own a w.drew := ⟨h.os, h.tape, h.output, h.size, h.block⟩
set_option maxRecDepth 100000 in
theorem Kept.setCell {own : Nat → Prop} {a w : World} (h : Kept own a w) {g : Nat} (hg : own g ∨ a.heap.size ≤ g) (o : Nat) (v : Value) : Kept own a (w.setCell ⟨g, o, none⟩ v) := by
  have hb := (Below.refl 0 w).setCell (p := ⟨g, o, none⟩) (Nat.zero_le _) v
  refine ⟨hb.os.trans h.os, hb.tape.trans h.tape, hb.output.trans h.output, Nat.le_trans h.size hb.size, fun k hk ho => ?_⟩
  rw [heap_setCell_other w ⟨g, o, none⟩ k v (by intro e; subst e; rcases hg with h1 | h1; exact ho h1; exact absurd hk (Nat.not_lt.2 h1))]
  exact h.block k hk ho
set_option maxRecDepth 100000 in
theorem Kept.setCells {own : Nat → Prop} {a w : World} (h : Kept own a w) {g : Nat} (hg : own g ∨ a.heap.size ≤ g) : ∀ (vs : List Value) (o : Nat), Kept own a (w.setCells g o vs) := by
  intro vs
  induction vs generalizing w with
  | nil => intro o; exact h
  | cons v r ih => intro o; exact ih (h.setCell hg o v) (o + 1)
set_option maxRecDepth 100000 in
theorem Kept.grown {own : Nat → Prop} {a w w' : World} {row : Option Nat} (h : Kept own a w) (hg : w.grownBy w' row) (hr : ∀ k, row = some k → own k ∨ a.heap.size ≤ k) : Kept own a w' :=
  ⟨hg.os.trans h.os, hg.tape.trans h.tape, hg.output.trans h.output, Nat.le_trans h.size hg.size, fun k hk ho => (hg.block k (Nat.lt_of_lt_of_le hk h.size) (fun e => by rcases hr k e.symm with h1 | h1; exact ho h1; omega)).trans (h.block k hk ho)⟩
set_option maxRecDepth 100000 in
theorem Kept.alloc {own : Nat → Prop} {a w : World} (h : Kept own a w) (o : Obj) : Kept own a (w.alloc o) := h.below ((Below.refl _ _).alloc (Nat.le_refl _) o)
set_option maxRecDepth 100000 in
theorem Bts.kept {own : Nat → Prop} {w w' : World} {ao : Option Addr} {len cap : Nat} {l : List Int} (h : Bts w ao len cap l) (hb : Kept own w w') (ha : 0 < len → ∀ p, ao = some p → ¬ own p.block) : Bts w' ao len cap l :=
  ⟨h.len_eq, h.byt, h.le_cap, h.cap_le, h.nil, fun hp => by
    obtain ⟨b, off, e, hlt, hc⟩ := h.spot hp
    exact ⟨b, off, e, Nat.lt_of_lt_of_le hlt hb.size, fun i hi => (World.cell?_of_block (w := w) (hb.block b hlt (ha hp _ e))).trans (hc i hi)⟩⟩
set_option maxRecDepth 100000 in
theorem setCells_other {w : World} {b k : Nat} (h : k ≠ b) : ∀ (vs : List Value) (o : Nat), (w.setCells b o vs).heap[k]? = w.heap[k]? := by
  intro vs
  induction vs generalizing w with
  | nil => intro o; rfl
  | cons v r ih => intro o; exact (ih (w := w.setCell ⟨b, o, none⟩ v) (o + 1)).trans (heap_setCell_other w ⟨b, o, none⟩ k v h)
set_option maxRecDepth 100000 in
theorem setCells_size {w : World} {b : Nat} : ∀ (vs : List Value) (o : Nat), (w.setCells b o vs).heap.size = w.heap.size := by
  intro vs
  induction vs generalizing w with
  | nil => intro o; rfl
  | cons v r ih => intro o; exact (ih (w := w.setCell ⟨b, o, none⟩ v) (o + 1)).trans (by simp [World.setCell])

set_option maxRecDepth 100000 in
theorem bv_get (l : List Int) (i : Nat) : (bv l)[i]? = (l[i]?).map (Value.int .u8) := by unfold bv; rw [List.getElem?_map]
set_option maxRecDepth 100000 in
theorem owns_setCells {w : World} {b o : Nat} {vs : List Value} {base : Nat} {e : TypeId} {size m : Nat} {v : Value} {xs : List Value} (h : w.ownsRow base e size v m xs) (hb : ∀ k, v.ownBlock = some k → k ≠ b) : (w.setCells b o vs).ownsRow base e size v m xs := by
  refine ⟨h.1, ?_⟩
  rcases h.2 with h2 | ⟨g', cap', cur, hv, hg, hh, r⟩
  · exact .inl h2
  · exact .inr ⟨g', cap', cur, hv, hg, (setCells_other (hb g' (by rw [hv]; rfl)) vs o).trans hh, r⟩
/-- a call that may change what is owned: all else stays, what is owned besides is new -/
structure Did (own : Nat → Prop) (w w' : World) (own' : Nat → Prop) : Prop where
  kept : Kept own w w'
  new : ∀ k, own' k → own k ∨ (w.heap.size ≤ k ∧ k < w'.heap.size)
set_option maxRecDepth 100000 in
theorem Did.same {own : Nat → Prop} {w w' : World} (h : Kept own w w') : Did own w w' own := ⟨h, fun _ h => .inl h⟩
set_option maxRecDepth 100000 in
theorem Did.trans {own own1 own2 : Nat → Prop} {a b c : World} (h : Did own a b own1) (k : Did own1 b c own2) : Did own a c own2 := by
  have h1 := h.kept.size
  have h2 := k.kept.size
  refine ⟨h.kept.trans k.kept (fun j hj => ?_), fun j hj => ?_⟩
  · rcases h.new j hj with h3 | h3
    · exact .inl h3
    · exact .inr h3.1
  · rcases k.new j hj with h3 | h3
    · rcases h.new j h3 with h4 | h4
      · exact .inl h4
      · exact .inr ⟨h4.1, by omega⟩
    · exact .inr ⟨by omega, h3.2⟩
set_option maxRecDepth 100000 in
theorem Did.below {own own1 : Nat → Prop} {a b c : World} (h : Did own a b own1) (k : Below b.heap.size b c) : Did own a c own1 := h.trans (Did.same (Kept.of_below k))
set_option maxRecDepth 100000 in
theorem Bts.keep {w w' : World} {a : Option Addr} {n c : Nat} {l : List Int} (h : Bts w a n c l) (hb : 0 < n → ∀ p, a = some p → w'.heap[p.block]? = w.heap[p.block]?) (hs : w.heap.size ≤ w'.heap.size) : Bts w' a n c l :=
  ⟨h.len_eq, h.byt, h.le_cap, h.cap_le, h.nil, fun hp => by
    obtain ⟨b, off, e, hlt, hc⟩ := h.spot hp
    have h1 : w'.heap[b]? = w.heap[b]? := hb hp _ e
    exact ⟨b, off, e, Nat.lt_of_lt_of_le hlt hs, fun i hi => (World.cell?_of_block (w := w) h1).trans (hc i hi)⟩⟩
set_option maxRecDepth 100000 in
theorem Bts.lt {w : World} {a : Option Addr} {n c : Nat} {l : List Int} (h : Bts w a n c l) (hp : 0 < n) {p : Addr} (e : a = some p) : p.block < w.heap.size := by
  obtain ⟨b, off, e2, hlt, _⟩ := h.spot hp
  rw [e2] at e; cases e; exact hlt
end Go.Proofs.YtbednfacipphhaaDoor
namespace Go.Proofs.YtbednfacipphhaaDoor
open Go.RowKit
set_option linter.unusedVariables false

section
variable {α : Type} {en : α → List Value} {k : Nat} {E : TypeId}
set_option maxRecDepth 100000 in
theorem flatE_len (hk : ∀ z, (en z).length = k) (Z : List α) : (Z.flatMap en).length = Z.length * k := by
  induction Z with
  | nil => simp
  | cons z t ih => rw [List.flatMap_cons, List.length_append, ih, hk, List.length_cons, Nat.succ_mul]; omega
set_option maxRecDepth 100000 in
theorem flatE_get (hk : ∀ z, (en z).length = k) (Z : List α) (i j : Nat) (hi : i < Z.length) (hj : j < k) : (Z.flatMap en)[i * k + j]? = (en Z[i])[j]? := by
  induction Z generalizing i with
  | nil => simp at hi
  | cons z t ih =>
    rw [List.flatMap_cons]
    cases i with
    | zero => rw [Nat.zero_mul, Nat.zero_add, List.getElem?_append_left (by rw [hk]; exact hj)]; rfl
    | succ i =>
      rw [List.getElem?_append_right (by rw [hk, Nat.succ_mul]; omega), hk, show (i + 1) * k + j - k = i * k + j from by rw [Nat.succ_mul]; omega, ih i (by simpa using hi)]; rfl
set_option maxRecDepth 100000 in
theorem flatE_one (h1 : ∀ z, ∀ u ∈ en z, u.oneCell' = true) (Z : List α) : ∀ u ∈ Z.flatMap en, u.oneCell' = true := fun u hu => by
  obtain ⟨z, _, h⟩ := List.mem_flatMap.1 hu
  exact h1 z u h
/-- a list of plain structs in memory -/
structure Ls (en : α → List Value) (k : Nat) (w : World) (ao : Option Addr) (len cap : Nat) (L : List α) : Prop where
  len_eq : L.length = len
  le_cap : len ≤ cap
  cap_le : cap ≤ maxLen
  nil : ao = none → cap = 0
  spot : 0 < len → ∃ b off, ao = some ⟨b, off, none⟩ ∧ b < w.heap.size ∧ ∀ i (h : i < L.length), ∀ j, j < k → w.cell? ⟨b, off + i * k + j, none⟩ = (en L[i])[j]?
variable {w w' : World} {ao : Option Addr} {len cap : Nat} {L M : List α}
set_option maxRecDepth 100000 in
theorem Ls.keep (h : Ls en k w ao len cap L) (hb : ∀ p, ao = some p → p.block < w.heap.size → w'.heap[p.block]? = w.heap[p.block]?) (hs : w.heap.size ≤ w'.heap.size) : Ls en k w' ao len cap L :=
  ⟨h.len_eq, h.le_cap, h.cap_le, h.nil, fun hp => by
    obtain ⟨b, off, e, hlt, hc⟩ := h.spot hp
    have h1 : w'.heap[b]? = w.heap[b]? := hb _ e hlt
    exact ⟨b, off, e, Nat.lt_of_lt_of_le hlt hs, fun i hi j hj => (World.cell?_of_block (w := w) h1).trans (hc i hi j hj)⟩⟩
set_option maxRecDepth 100000 in
theorem Ls.below (h : Ls en k w ao len cap L) (hb : Below w.heap.size w w') : Ls en k w' ao len cap L := h.keep (fun p _ hlt => hb.block p.block hlt) hb.size
set_option maxRecDepth 100000 in
theorem Ls.drewN (h : Ls en k w ao len cap L) (n : Nat) : Ls en k (w.drewN n) ao len cap L := h.keep (fun _ _ _ => rfl) (Nat.le_refl _)
set_option maxRecDepth 100000 in
theorem Ls.list (h : Ls en k w ao len cap L) (e : L = M) : Ls en k w ao len cap M := by rw [← e]; exact h
set_option maxRecDepth 100000 in
theorem Ls.empty (w : World) : Ls en k w none 0 0 [] := ⟨rfl, Nat.le_refl _, Nat.zero_le _, fun _ => rfl, fun hp => absurd hp (Nat.lt_irrefl _)⟩
set_option maxRecDepth 100000 in
/-- its beginning -/
theorem Ls.take (h : Ls en k w ao len cap L) (m : Nat) (hm : m ≤ len) : Ls en k w ao m cap (L.take m) :=
  ⟨by rw [List.length_take, h.len_eq]; omega, Nat.le_trans hm h.le_cap, h.cap_le, h.nil, fun hp => by
    obtain ⟨b, off, e, hlt, hc⟩ := h.spot (by omega)
    refine ⟨b, off, e, hlt, fun i hi j hj => ?_⟩
    have hi2 : i < m ∧ i < L.length := by rw [List.length_take] at hi; omega
    rw [hc i hi2.2 j hj, List.getElem_take]⟩
set_option maxRecDepth 100000 in
/-- its cells, one behind the other -/
theorem Ls.cells (hk : ∀ z, (en z).length = k) (h : Ls en k w ao len cap L) {ad : Addr} (ha : ao = some ad) : ∀ j u, (L.flatMap en)[j]? = some u → w.cell? (ad.add j) = some u := by
  intro j u hu
  have hj : j < L.length * k := by have := (List.getElem?_eq_some_iff.1 hu).1; rwa [flatE_len hk] at this
  have hl := h.len_eq
  have hk0 : 0 < k := by rcases Nat.eq_zero_or_pos k with e | e; (rw [e, Nat.mul_zero] at hj; omega); exact e
  have hi : j / k < L.length := (Nat.div_lt_iff_lt_mul hk0).2 hj
  have hp : 0 < len := by rw [← hl]; exact Nat.lt_of_le_of_lt (Nat.zero_le _) hi
  obtain ⟨b, off, e, hlt, hc⟩ := h.spot hp
  rw [ha] at e
  cases e
  have e1 : j / k * k + j % k = j := by rw [Nat.mul_comm]; exact Nat.div_add_mod j k
  have h1 := flatE_get hk L (j / k) (j % k) hi (Nat.mod_lt _ hk0)
  rw [e1, hu] at h1
  rw [Addr.add_lit, h1, ← hc (j / k) hi (j % k) (Nat.mod_lt _ hk0), Nat.add_assoc, e1]
set_option maxRecDepth 100000 in
/-- what is owned reads as the list -/
theorem Ls.of_owns (hk : ∀ z, (en z).length = k) {base n : Nat} {v : Value} (h : w.ownsRow base E k v n (L.flatMap en)) (hn : L.length = n) : ∃ ao cap, v = .slice ao n cap ∧ Ls en k w ao n cap L := by
  rcases h.2 with ⟨rfl, h0⟩ | ⟨g, cap, cur, rfl, hb, hg, hnc, hcm, hcs, ht⟩
  · subst h0
    exact ⟨none, 0, rfl, hn, Nat.le_refl _, Nat.zero_le _, fun _ => rfl, fun hp => absurd hp (Nat.lt_irrefl _)⟩
  · refine ⟨some ⟨g, 0, none⟩, cap, rfl, hn, hnc, hcm, (fun hh => by cases hh), fun _ => ⟨g, 0, rfl, (Array.getElem?_eq_some_iff.1 hg).1, fun i hi j hj => ?_⟩⟩
    have h1 : (i + 1) * k ≤ n * k := Nat.mul_le_mul_right _ (by omega)
    rw [Nat.succ_mul] at h1
    rw [Nat.zero_add, h.cellAt (i * k + j) (by omega), flatE_get hk L i j hi hj]
end
end Go.Proofs.YtbednfacipphhaaDoor
namespace Go.Proofs.YtbednfacipphhaaDoor
open Go.RowKit
set_option linter.unusedVariables false

def ivC (d : Int) : List Value := [.int .i64 d]
def bvC (g : Bool) : List Value := [.bool g]
set_option maxRecDepth 100000 in
theorem ivC_len (d : Int) : (ivC d).length = 1 := rfl
set_option maxRecDepth 100000 in
theorem bvC_len (g : Bool) : (bvC g).length = 1 := rfl
set_option maxRecDepth 100000 in
theorem ivC_one (d : Int) : ∀ u ∈ ivC d, u.oneCell' = true := by intro u hu; simp [ivC] at hu; subst hu; rfl
set_option maxRecDepth 100000 in
theorem bvC_one (g : Bool) : ∀ u ∈ bvC g, u.oneCell' = true := by intro u hu; simp [bvC] at hu; subst hu; rfl
abbrev Ivs := Ls ivC 1
abbrev Bvs := Ls bvC 1
set_option maxRecDepth 100000 in
theorem Ls.iv {w : World} {ao : Option Addr} {len cap : Nat} {L : List Int} (h : Ivs w ao len cap L) (i : Nat) (hi : i < len) (z : Int) : ∃ b off, ao = some ⟨b, off, none⟩ ∧ b < w.heap.size ∧ w.cell? ⟨b, off + i, none⟩ = some (.int .i64 (L.getD i z)) := by
  obtain ⟨b, off, e, hlt, hc⟩ := h.spot (by omega)
  have hi2 : i < L.length := by rw [h.len_eq]; exact hi
  have e1 : L.getD i z = L[i] := by rw [List.getD_eq_getElem?_getD, List.getElem?_eq_getElem hi2]; rfl
  have h1 := hc i hi2 0 (by decide)
  rw [Nat.mul_one, Nat.add_zero] at h1
  exact ⟨b, off, e, hlt, by rw [e1]; exact h1⟩
set_option maxRecDepth 100000 in
theorem iv_map (D : List Int) : D.flatMap ivC = D.map (Value.int .i64) := by
  induction D with
  | nil => rfl
  | cons d t ih => rw [List.flatMap_cons, ih]; rfl
set_option maxRecDepth 100000 in
theorem bv_map (G : List Bool) : G.flatMap bvC = G.map Value.bool := by
  induction G with
  | nil => rfl
  | cons d t ih => rw [List.flatMap_cons, ih]; rfl
set_option maxRecDepth 100000 in
theorem iv_set (D : List Int) (j : Nat) (d : Int) : (D.flatMap ivC).set j (.int .i64 d) = (D.set j d).flatMap ivC := by rw [iv_map, iv_map, List.map_set]
set_option maxRecDepth 100000 in
theorem bv_set (G : List Bool) (j : Nat) (g : Bool) : (G.flatMap bvC).set j (.bool g) = (G.set j g).flatMap bvC := by rw [bv_map, bv_map, List.map_set]
set_option maxRecDepth 100000 in
theorem iv_get (D : List Int) (j : Nat) (h : j < D.length) (z : Int) : (D.flatMap ivC)[j]? = some (.int .i64 (D.getD j z)) := by rw [iv_map, List.getElem?_map, List.getElem?_eq_getElem h, List.getD_eq_getElem?_getD, List.getElem?_eq_getElem h]; rfl
set_option maxRecDepth 100000 in
theorem bv_get' (G : List Bool) (j : Nat) (h : j < G.length) (z : Bool) : (G.flatMap bvC)[j]? = some (.bool (G.getD j z)) := by rw [bv_map, List.getElem?_map, List.getElem?_eq_getElem h, List.getD_eq_getElem?_getD, List.getElem?_eq_getElem h]; rfl
end Go.Proofs.YtbednfacipphhaaDoor
namespace Go.Proofs.YtbednfacipphhaaDoor
open Go.RowKit
set_option linter.unusedVariables false

/-- who stands there: sixty-four bools in a variable -/
def WC (w : World) (g : Nat) (W : Int → Bool) : Prop := ∃ cs : Array Value, w.heap[g]? = some (.cells cs 144 (0, 0)) ∧ cs.size = 64 ∧ ∀ c : Nat, c < 64 → cs[c]? = some (.bool (W c))
set_option maxRecDepth 100000 in
theorem WC.cell {w : World} {g : Nat} {W : Int → Bool} (h : WC w g W) (c : Nat) (hc : c < 64) : w.cell? ⟨g, c, none⟩ = some (.bool (W c)) ∧ w.frozen? ⟨g, c, none⟩ = false := by
  obtain ⟨cs, h1, _, h3⟩ := h
  exact ⟨by rw [cell_of_row _ _ c cs _ (0, 0) h1]; exact h3 c hc, frozen_of_row _ _ c cs _ h1⟩
set_option maxRecDepth 100000 in
theorem WC.lt {w : World} {g : Nat} {W : Int → Bool} (h : WC w g W) : g < w.heap.size := by
  obtain ⟨cs, h1, _⟩ := h
  exact (Array.getElem?_eq_some_iff.1 h1).1
set_option maxRecDepth 100000 in
theorem WC.below {w w' : World} {g : Nat} {W : Int → Bool} (h : WC w g W) (hb : Below w.heap.size w w') : WC w' g W := by
  have hlt := h.lt
  obtain ⟨cs, h1, h2⟩ := h
  exact ⟨cs, (hb.block g hlt).trans h1, h2⟩
set_option maxRecDepth 100000 in
theorem WC.set {w : World} {g : Nat} {W W' : Int → Bool} (h : WC w g W) (c : Nat) (hc : c < 64) (k : Bool) (hW : ∀ d : Int, W' d = if d = (c : Int) then k else W d) : WC (w.setCell ⟨g, c, none⟩ (.bool k)) g W' := by
  obtain ⟨cs, h1, h2, h3⟩ := h
  refine ⟨cs.setIfInBounds c (.bool k), heap_setCell_same w g c cs _ _ h1, by simp [h2], fun d hd => ?_⟩
  rw [Array.getElem?_setIfInBounds, hW d]
  by_cases e : c = d
  · subst e; rw [if_pos rfl, if_pos (by omega), if_pos rfl]
  · rw [if_neg e, if_neg (by omega)]; exact h3 d hd
set_option maxRecDepth 100000 in
theorem wc_get (c : Nat) (hc : c < 64) : (#[.bool false, .bool false, .bool false, .bool false, .bool false, .bool false, .bool false, .bool false, .bool false, .bool false, .bool false, .bool false, .bool false, .bool false, .bool false, .bool false, .bool false, .bool false, .bool false, .bool false, .bool false, .bool false, .bool false, .bool false, .bool false, .bool false, .bool false, .bool false, .bool false, .bool false, .bool false, .bool false, .bool false, .bool false, .bool false, .bool false, .bool false, .bool false, .bool false, .bool false, .bool false, .bool false, .bool false, .bool false, .bool false, .bool false, .bool false, .bool false, .bool false, .bool false, .bool false, .bool false, .bool false, .bool false, .bool false, .bool false, .bool false, .bool false, .bool false, .bool false, .bool false, .bool false, .bool false, .bool false] : Array Value)[c]? = some (.bool false) := by
  rw [show (#[.bool false, .bool false, .bool false, .bool false, .bool false, .bool false, .bool false, .bool false, .bool false, .bool false, .bool false, .bool false, .bool false, .bool false, .bool false, .bool false, .bool false, .bool false, .bool false, .bool false, .bool false, .bool false, .bool false, .bool false, .bool false, .bool false, .bool false, .bool false, .bool false, .bool false, .bool false, .bool false, .bool false, .bool false, .bool false, .bool false, .bool false, .bool false, .bool false, .bool false, .bool false, .bool false, .bool false, .bool false, .bool false, .bool false, .bool false, .bool false, .bool false, .bool false, .bool false, .bool false, .bool false, .bool false, .bool false, .bool false, .bool false, .bool false, .bool false, .bool false, .bool false, .bool false, .bool false, .bool false] : Array Value) = Array.replicate 64 (.bool false) from rfl, Array.getElem?_replicate, if_pos hc]
set_option maxRecDepth 100000 in
theorem wc_new (w : World) : WC (w.alloc (.cells #[.bool false, .bool false, .bool false, .bool false, .bool false, .bool false, .bool false, .bool false, .bool false, .bool false, .bool false, .bool false, .bool false, .bool false, .bool false, .bool false, .bool false, .bool false, .bool false, .bool false, .bool false, .bool false, .bool false, .bool false, .bool false, .bool false, .bool false, .bool false, .bool false, .bool false, .bool false, .bool false, .bool false, .bool false, .bool false, .bool false, .bool false, .bool false, .bool false, .bool false, .bool false, .bool false, .bool false, .bool false, .bool false, .bool false, .bool false, .bool false, .bool false, .bool false, .bool false, .bool false, .bool false, .bool false, .bool false, .bool false, .bool false, .bool false, .bool false, .bool false, .bool false, .bool false, .bool false, .bool false] 144)) w.heap.size (fun _ => false) :=
  ⟨_, heap_alloc_new w _, rfl, fun c hc => wc_get c hc⟩
set_option maxRecDepth 100000 in
theorem take_iv (C : List Int) (m : Nat) (h : m < C.length) : C.take (m + 1) = C.take m ++ [C.getD m 0] := by
  rw [List.take_add_one, List.getElem?_eq_getElem h, List.getD_eq_getElem?_getD, List.getElem?_eq_getElem h]; rfl
set_option maxRecDepth 100000 in
theorem all_snoc {p : Nat → Bool} {m : Nat} (h : (List.range m).all p = true) (h2 : p m = true) : (List.range (m + 1)).all p = true := by
  rw [List.range_succ, List.all_append, h, Bool.true_and]; simp [h2]
end Go.Proofs.YtbednfacipphhaaDoor
namespace Go.Proofs.YtbednfacipphhaaDoor
open Go.RowKit
set_option linter.unusedVariables false

/-- a new variable -/
structure NV (T : TypeId) (sz N0 g : Nat) (wr : World) : Prop where
  ge : N0 ≤ g
  row : ∃ cs : Array Value, cs.size = sz ∧ wr.heap[g]? = some (.cells cs T (0, 0))
set_option maxRecDepth 100000 in
theorem NV.lt {T : TypeId} {sz N0 g : Nat} {wr : World} (h : NV T sz N0 g wr) : g < wr.heap.size := by obtain ⟨cs, _, e⟩ := h.row; exact (Array.getElem?_eq_some_iff.1 e).1
set_option maxRecDepth 100000 in
theorem NV.step {T : TypeId} {sz N0 g : Nat} {wr w1 : World} (h : NV T sz N0 g wr) (hb : Below wr.heap.size wr w1) : NV T sz N0 g w1 := by
  have hlt := h.lt
  obtain ⟨cs, hs, e⟩ := h.row
  exact ⟨h.ge, cs, hs, (hb.block g hlt).trans e⟩
set_option maxRecDepth 100000 in
theorem NV.new {T : TypeId} {sz N0 : Nat} {wr : World} {cs : Array Value} (hN : N0 ≤ wr.heap.size) (hs : cs.size = sz) : NV T sz N0 wr.heap.size (wr.alloc (.cells cs T)) := ⟨hN, cs, hs, heap_alloc_new _ _⟩
set_option maxRecDepth 100000 in
theorem NV.there {T : TypeId} {sz N0 g : Nat} {wr : World} (h : NV T sz N0 g wr) {D : Array Value} (hD : D.size = sz) : wr.there g 0 D.size := by
  obtain ⟨cs, hs, e⟩ := h.row
  have := there_row e
  rw [hs, ← hD] at this
  exact this
set_option maxRecDepth 100000 in
theorem NV.put {T : TypeId} {sz N0 g : Nat} {wr : World} (h : NV T sz N0 g wr) {D : Array Value} (hD : D.size = sz) : (wr.setCells g 0 D.toList).heap[g]? = some (.cells D T (0, 0)) := by
  obtain ⟨cs, hs, e⟩ := h.row
  exact heap_stored e (by rw [hs, hD])
set_option maxRecDepth 100000 in
theorem NV.but {T : TypeId} {sz N0 g h : Nat} {wr : World} (k : NV T sz N0 g wr) (hne : g ≠ h) (vs : List Value) : NV T sz N0 g (wr.setCells h 0 vs) := by
  obtain ⟨cs, hs, e⟩ := k.row
  exact ⟨k.ge, cs, hs, (setCells_other hne vs 0).trans e⟩
set_option maxRecDepth 100000 in
theorem nv_but {wr : World} {g h : Nat} {T : TypeId} {D : Array Value} (k : wr.heap[g]? = some (.cells D T (0, 0))) (hne : g ≠ h) (vs : List Value) : (wr.setCells h 0 vs).heap[g]? = some (.cells D T (0, 0)) := (setCells_other hne vs 0).trans k
set_option maxRecDepth 100000 in
theorem nv_range {w w' : World} {b o : Nat} {vs : List Value} (h : w.rangeAt b o vs) (hb : Below w.heap.size w w') (hlt : b < w.heap.size) : w'.rangeAt b o vs := fun j v hj => (hb.cell hlt).trans (h j v hj)
end Go.Proofs.YtbednfacipphhaaDoor
namespace Go.Proofs.YtbednfacipphhaaDoor
open Go.RowKit
set_option linter.unusedVariables false

/-- what stays when new memory is made -/
def Up (Q : World → Prop) : Prop := ∀ W W', Q W → Below W.heap.size W W' → Q W'
/-- held, and new memory changes it not -/
structure HX (Q : World → Prop) (w W : World) : Prop where
  low : Below w.heap.size w W
  up : Up Q
  q : Q W
set_option maxRecDepth 100000 in
theorem HX.step {Q : World → Prop} {w W W' : World} (h : HX Q w W) (hb : Below W.heap.size W W') : HX Q w W' := ⟨bstep h.low hb, h.up, h.up _ _ h.q hb⟩
set_option maxRecDepth 100000 in
theorem up_row {g : Nat} {o : Obj} : Up (fun W => W.heap[g]? = some o) := fun W W' h hb => (hb.block g (Array.getElem?_eq_some_iff.1 h).1).trans h
set_option maxRecDepth 100000 in
theorem up_size {N : Nat} : Up (fun W => N ≤ W.heap.size) := fun W W' h hb => Nat.le_trans h hb.size
set_option maxRecDepth 100000 in
theorem Up.and {P Q : World → Prop} (h : Up P) (k : Up Q) : Up (fun W => P W ∧ Q W) := fun W W' q hb => ⟨h _ _ q.1 hb, k _ _ q.2 hb⟩
end Go.Proofs.YtbednfacipphhaaDoor
