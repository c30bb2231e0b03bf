/- What stays while an object changes: whose blocks are whose. No walk. Lists of plain structs in memory. No walk. Numbers and bools in memory. No walk. A new variable of so many cells, whatever is in it. No walk. A reader of bodies in chunks, in memory; what Put answers and makes. No walk. -/
import Derived.Test.YtpfijaojgeceeaaGreatDoorCut
import Derived.Deep.AppendLies
import Derived.Test.YtpfijaojgeceeaaGreatDoorAuar
import Derived.Test.YtpfijaojgeceeaaGreatDoorChunkMath2
namespace Go.Proofs.YtpfijaojgeceeaaGreatDoor
open Go.RowKit
set_option linter.unusedVariables false

/-- all but what is owned stays -/
structure Kept (own : Nat → Prop) (w w' : World) : Prop where
  os : w'.os = w.os
  tape : w'.tape = w.tape
  output : w'.output = w.output
  size : w.heap.size ≤ w'.heap.size
  block : ∀ k, k < w.heap.size → ¬ own k → w'.heap[k]? = w.heap[k]?
set_option maxRecDepth 100000 in
theorem Kept.refl (own : Nat → Prop) (w : World) : Kept own w w := ⟨rfl, rfl, rfl, Nat.le_refl _, fun _ _ _ => rfl⟩
set_option maxRecDepth 100000 in
theorem Kept.of_below {own : Nat → Prop} {w w' : World} (h : Below w.heap.size w w') : Kept own w w' := ⟨h.os, h.tape, h.output, h.size, fun k hk _ => h.block k hk⟩
set_option maxRecDepth 100000 in
theorem Kept.trans {own own' : Nat → Prop} {a b c : World} (h : Kept own a b) (k : Kept own' b c) (hn : ∀ k, own' k → own k ∨ a.heap.size ≤ k) : Kept own a c :=
  ⟨k.os.trans h.os, k.tape.trans h.tape, k.output.trans h.output, Nat.le_trans h.size k.size, fun j hj hg => (k.block j (Nat.lt_of_lt_of_le hj h.size) (fun ho => by rcases hn j ho with h1 | h1; exact hg h1; omega)).trans (h.block j hj hg)⟩
set_option maxRecDepth 100000 in
theorem Kept.trans' {own : Nat → Prop} {a b c : World} (h : Kept own a b) (k : Kept own b c) : Kept own a c := h.trans k (fun _ h => .inl h)
set_option maxRecDepth 100000 in
theorem Kept.below {own : Nat → Prop} {a b c : World} (h : Kept own a b) (k : Below b.heap.size b c) : Kept own a c := h.trans' (Kept.of_below k)
set_option maxRecDepth 100000 in
theorem Kept.low {own : Nat → Prop} {B : Nat} {w w' : World} (h : Kept own w w') (hB : ∀ k, own k → B ≤ k) (hs : B ≤ w.heap.size) : Below B w w' := ⟨h.os, h.tape, h.output, h.size, fun k hk => h.block k (Nat.lt_of_lt_of_le hk hs) (fun ho => by have := hB k ho; omega)⟩
set_option maxRecDepth 100000 in
theorem Kept.drewN {own : Nat → Prop} {a w : World} (h : Kept own a w) (n : Nat) : Kept own a (w.drewN n) := ⟨h.os, h.tape, h.output, h.size, h.block⟩
set_option maxRecDepth 100000 in
theorem Kept.drew {own : Nat → Prop} {a w : World} (h : Kept own a w) : Kept own a w.drew := ⟨h.os, h.tape, h.output, h.size, h.block⟩
set_option maxRecDepth 100000 in
theorem Kept.setCell {own : Nat → Prop} {a w : World} (h : Kept own a w) {g : Nat} (hg : own g ∨ a.heap.size ≤ g) (o : Nat) (v : Value) : Kept own a (w.setCell ⟨g, o, none⟩ v) := by
  have hb := (Below.refl 0 w).setCell (p := ⟨g, o, none⟩) (Nat.zero_le _) v
  refine ⟨hb.os.trans h.os, hb.tape.trans h.tape, hb.output.trans h.output, Nat.le_trans h.size hb.size, fun k hk ho => ?_⟩
  rw [heap_setCell_other w ⟨g, o, none⟩ k v (by intro e; subst e; rcases hg with h1 | h1; exact ho h1; exact absurd hk (Nat.not_lt.2 h1))]
  exact h.block k hk ho
set_option maxRecDepth 100000 in
theorem Kept.setCells {own : Nat → Prop} {a w : World} (h : Kept own a w) {g : Nat} (hg : own g ∨ a.heap.size ≤ g) : ∀ (vs : List Value) (o : Nat), Kept own a (w.setCells g o vs) := by
  intro vs
  induction vs generalizing w with
  | nil => intro o; exact h
  | cons v r ih => intro o; exact ih (h.setCell hg o v) (o + 1)
set_option maxRecDepth 100000 in
theorem Kept.grown {own : Nat → Prop} {a w w' : World} {row : Option Nat} (h : Kept own a w) (hg : w.grownBy w' row) (hr : ∀ k, row = some k → own k ∨ a.heap.size ≤ k) : Kept own a w' :=
  ⟨hg.os.trans h.os, hg.tape.trans h.tape, hg.output.trans h.output, Nat.le_trans h.size hg.size, fun k hk ho => (hg.block k (Nat.lt_of_lt_of_le hk h.size) (fun e => by rcases hr k e.symm with h1 | h1; exact ho h1; omega)).trans (h.block k hk ho)⟩
set_option maxRecDepth 100000 in
theorem Kept.alloc {own : Nat → Prop} {a w : World} (h : Kept own a w) (o : Obj) : Kept own a (w.alloc o) := h.below ((Below.refl _ _).alloc (Nat.le_refl _) o)
set_option maxRecDepth 100000 in
theorem Bts.kept {own : Nat → Prop} {w w' : World} {ao : Option Addr} {len cap : Nat} {l : List Int} (h : Bts w ao len cap l) (hb : Kept own w w') (ha : 0 < len → ∀ p, ao = some p → ¬ own p.block) : Bts w' ao len cap l :=
  ⟨h.len_eq, h.byt, h.le_cap, h.cap_le, h.nil, fun hp => by
    obtain ⟨b, off, e, hlt, hc⟩ := h.spot hp
    exact ⟨b, off, e, Nat.lt_of_lt_of_le hlt hb.size, fun i hi => (World.cell?_of_block (w := w) (hb.block b hlt (ha hp _ e))).trans (hc i hi)⟩⟩
set_option maxRecDepth 100000 in
theorem setCells_other {w : World} {b k : Nat} (h : k ≠ b) : ∀ (vs : List Value) (o : Nat), (w.setCells b o vs).heap[k]? = w.heap[k]? := by
  intro vs
  induction vs generalizing w with
  | nil => intro o; rfl
  | cons v r ih => intro o; exact (ih (w := w.setCell ⟨b, o, none⟩ v) (o + 1)).trans (heap_setCell_other w ⟨b, o, none⟩ k v h)
set_option maxRecDepth 100000 in
theorem setCells_size {w : World} {b : Nat} : ∀ (vs : List Value) (o : Nat), (w.setCells b o vs).heap.size = w.heap.size := by
  intro vs
  induction vs generalizing w with
  | nil => intro o; rfl
  | cons v r ih => intro o; exact (ih (w := w.setCell ⟨b, o, none⟩ v) (o + 1)).trans (by simp [World.setCell])

set_option maxRecDepth 100000 in
theorem bv_get (l : List Int) (i : Nat) : (bv l)[i]? = (l[i]?).map (Value.int .u8) := by unfold bv; rw [List.getElem?_map]
set_option maxRecDepth 100000 in
theorem owns_setCells {w : World} {b o : Nat} {vs : List Value} {base : Nat} {e : TypeId} {size m : Nat} {v : Value} {xs : List Value} (h : w.ownsRow base e size v m xs) (hb : ∀ k, v.ownBlock = some k → k ≠ b) : (w.setCells b o vs).ownsRow base e size v m xs := by
  refine ⟨h.1, ?_⟩
  rcases h.2 with h2 | ⟨g', cap', cur, hv, hg, hh, r⟩
  · exact .inl h2
  · exact .inr ⟨g', cap', cur, hv, hg, (setCells_other (hb g' (by rw [hv]; rfl)) vs o).trans hh, r⟩
/-- a call that may change what is owned: all else stays, what is owned besides is new -/
structure Did (own : Nat → Prop) (w w' : World) (own' : Nat → Prop) : Prop where
  kept : Kept own w w'
  new : ∀ k, own' k → own k ∨ (w.heap.size ≤ k ∧ k < w'.heap.size)
set_option maxRecDepth 100000 in
theorem Did.same {own : Nat → Prop} {w w' : World} (h : Kept own w w') : Did own w w' own := ⟨h, fun _ h => .inl h⟩
set_option maxRecDepth 100000 in
theorem Did.trans {own own1 own2 : Nat → Prop} {a b c : World} (h : Did own a b own1) (k : Did own1 b c own2) : Did own a c own2 := by
  have h1 := h.kept.size
  have h2 := k.kept.size
  refine ⟨h.kept.trans k.kept (fun j hj => ?_), fun j hj => ?_⟩
  · rcases h.new j hj with h3 | h3
    · exact .inl h3
    · exact .inr h3.1
  · rcases k.new j hj with h3 | h3
    · rcases h.new j h3 with h4 | h4
      · exact .inl h4
      · exact .inr ⟨h4.1, by omega⟩
    · exact .inr ⟨by omega, h3.2⟩
set_option maxRecDepth 100000 in
theorem Did.below {own own1 : Nat → Prop} {a b c : World} (h : Did own a b own1) (k : Below b.heap.size b c) : Did own a c own1 := h.trans (Did.same (Kept.of_below k))
set_option maxRecDepth 100000 in
theorem Bts.keep {w w' : World} {a : Option Addr} {n c : Nat} {l : List Int} (h : Bts w a n c l) (hb : 0 < n → ∀ p, a = some p → w'.heap[p.block]? = w.heap[p.block]?) (hs : w.heap.size ≤ w'.heap.size) : Bts w' a n c l :=
  ⟨h.len_eq, h.byt, h.le_cap, h.cap_le, h.nil, fun hp => by
    obtain ⟨b, off, e, hlt, hc⟩ := h.spot hp
    have h1 : w'.heap[b]? = w.heap[b]? := hb hp _ e
    exact ⟨b, off, e, Nat.lt_of_lt_of_le hlt hs, fun i hi => (World.cell?_of_block (w := w) h1).trans (hc i hi)⟩⟩
set_option maxRecDepth 100000 in
theorem Bts.lt {w : World} {a : Option Addr} {n c : Nat} {l : List Int} (h : Bts w a n c l) (hp : 0 < n) {p : Addr} (e : a = some p) : p.block < w.heap.size := by
  obtain ⟨b, off, e2, hlt, _⟩ := h.spot hp
  rw [e2] at e; cases e; exact hlt
end Go.Proofs.YtpfijaojgeceeaaGreatDoor
namespace Go.Proofs.YtpfijaojgeceeaaGreatDoor
open Go.RowKit
set_option linter.unusedVariables false

section
variable {α : Type} {en : α → List Value} {k : Nat} {E : TypeId}
set_option maxRecDepth 100000 in
theorem flatE_len (hk : ∀ z, (en z).length = k) (Z : List α) : (Z.flatMap en).length = Z.length * k := by
  induction Z with
  | nil => simp
  | cons z t ih => rw [List.flatMap_cons, List.length_append, ih, hk, List.length_cons, Nat.succ_mul]; omega
set_option maxRecDepth 100000 in
theorem flatE_get (hk : ∀ z, (en z).length = k) (Z : List α) (i j : Nat) (hi : i < Z.length) (hj : j < k) : (Z.flatMap en)[i * k + j]? = (en Z[i])[j]? := by
  induction Z generalizing i with
  | nil => simp at hi
  | cons z t ih =>
    rw [List.flatMap_cons]
    cases i with
    | zero => rw [Nat.zero_mul, Nat.zero_add, List.getElem?_append_left (by rw [hk]; exact hj)]; rfl
    | succ i =>
      rw [List.getElem?_append_right (by rw [hk, Nat.succ_mul]; omega), hk, show (i + 1) * k + j - k = i * k + j from by rw [Nat.succ_mul]; omega, ih i (by simpa using hi)]; rfl
set_option maxRecDepth 100000 in
theorem flatE_one (h1 : ∀ z, ∀ u ∈ en z, u.oneCell' = true) (Z : List α) : ∀ u ∈ Z.flatMap en, u.oneCell' = true := fun u hu => by
  obtain ⟨z, _, h⟩ := List.mem_flatMap.1 hu
  exact h1 z u h
/-- a list of plain structs in memory -/
structure Ls (en : α → List Value) (k : Nat) (w : World) (ao : Option Addr) (len cap : Nat) (L : List α) : Prop where
  len_eq : L.length = len
  le_cap : len ≤ cap
  cap_le : cap ≤ maxLen
  nil : ao = none → cap = 0
  spot : 0 < len → ∃ b off, ao = some ⟨b, off, none⟩ ∧ b < w.heap.size ∧ ∀ i (h : i < L.length), ∀ j, j < k → w.cell? ⟨b, off + i * k + j, none⟩ = (en L[i])[j]?
variable {w w' : World} {ao : Option Addr} {len cap : Nat} {L M : List α}
set_option maxRecDepth 100000 in
theorem Ls.keep (h : Ls en k w ao len cap L) (hb : ∀ p, ao = some p → p.block < w.heap.size → w'.heap[p.block]? = w.heap[p.block]?) (hs : w.heap.size ≤ w'.heap.size) : Ls en k w' ao len cap L :=
  ⟨h.len_eq, h.le_cap, h.cap_le, h.nil, fun hp => by
    obtain ⟨b, off, e, hlt, hc⟩ := h.spot hp
    have h1 : w'.heap[b]? = w.heap[b]? := hb _ e hlt
    exact ⟨b, off, e, Nat.lt_of_lt_of_le hlt hs, fun i hi j hj => (World.cell?_of_block (w := w) h1).trans (hc i hi j hj)⟩⟩
set_option maxRecDepth 100000 in
theorem Ls.below (h : Ls en k w ao len cap L) (hb : Below w.heap.size w w') : Ls en k w' ao len cap L := h.keep (fun p _ hlt => hb.block p.block hlt) hb.size
set_option maxRecDepth 100000 in
theorem Ls.drewN (h : Ls en k w ao len cap L) (n : Nat) : Ls en k (w.drewN n) ao len cap L := h.keep (fun _ _ _ => rfl) (Nat.le_refl _)
set_option maxRecDepth 100000 in
theorem Ls.list (h : Ls en k w ao len cap L) (e : L = M) : Ls en k w ao len cap M := by rw [← e]; exact h
set_option maxRecDepth 100000 in
theorem Ls.empty (w : World) : Ls en k w none 0 0 [] := ⟨rfl, Nat.le_refl _, Nat.zero_le _, fun _ => rfl, fun hp => absurd hp (Nat.lt_irrefl _)⟩
set_option maxRecDepth 100000 in
/-- its beginning -/
theorem Ls.take (h : Ls en k w ao len cap L) (m : Nat) (hm : m ≤ len) : Ls en k w ao m cap (L.take m) :=
  ⟨by rw [List.length_take, h.len_eq]; omega, Nat.le_trans hm h.le_cap, h.cap_le, h.nil, fun hp => by
    obtain ⟨b, off, e, hlt, hc⟩ := h.spot (by omega)
    refine ⟨b, off, e, hlt, fun i hi j hj => ?_⟩
    have hi2 : i < m ∧ i < L.length := by rw [List.length_take] at hi; omega
    rw [hc i hi2.2 j hj, List.getElem_take]⟩
set_option maxRecDepth 100000 in
/-- its cells, one behind the other -/
theorem Ls.cells (hk : ∀ z, (en z).length = k) (h : Ls en k w ao len cap L) {ad : Addr} (ha : ao = some ad) : ∀ j u, (L.flatMap en)[j]? = some u → w.cell? (ad.add j) = some u := by
  intro j u hu
  have hj : j < L.length * k := by have := (List.getElem?_eq_some_iff.1 hu).1; rwa [flatE_len hk] at this
  have hl := h.len_eq
  have hk0 : 0 < k := by rcases Nat.eq_zero_or_pos k with e | e; (rw [e, Nat.mul_zero] at hj; omega); exact e
  have hi : j / k < L.length := (Nat.div_lt_iff_lt_mul hk0).2 hj
  have hp : 0 < len := by rw [← hl]; exact Nat.lt_of_le_of_lt (Nat.zero_le _) hi
  obtain ⟨b, off, e, hlt, hc⟩ := h.spot hp
  rw [ha] at e
  cases e
  have e1 : j / k * k + j % k = j := by rw [Nat.mul_comm]; exact Nat.div_add_mod j k
  have h1 := flatE_get hk L (j / k) (j % k) hi (Nat.mod_lt _ hk0)
  rw [e1, hu] at h1
  rw [Addr.add_lit, h1, ← hc (j / k) hi (j % k) (Nat.mod_lt _ hk0), Nat.add_assoc, e1]
set_option maxRecDepth 100000 in
/-- what is owned reads as the list -/
theorem Ls.of_owns (hk : ∀ z, (en z).length = k) {base n : Nat} {v : Value} (h : w.ownsRow base E k v n (L.flatMap en)) (hn : L.length = n) : ∃ ao cap, v = .slice ao n cap ∧ Ls en k w ao n cap L := by
  rcases h.2 with ⟨rfl, h0⟩ | ⟨g, cap, cur, rfl, hb, hg, hnc, hcm, hcs, ht⟩
  · subst h0
    exact ⟨none, 0, rfl, hn, Nat.le_refl _, Nat.zero_le _, fun _ => rfl, fun hp => absurd hp (Nat.lt_irrefl _)⟩
  · refine ⟨some ⟨g, 0, none⟩, cap, rfl, hn, hnc, hcm, (fun hh => by cases hh), fun _ => ⟨g, 0, rfl, (Array.getElem?_eq_some_iff.1 hg).1, fun i hi j hj => ?_⟩⟩
    have h1 : (i + 1) * k ≤ n * k := Nat.mul_le_mul_right _ (by omega)
    rw [Nat.succ_mul] at h1
    rw [Nat.zero_add, h.cellAt (i * k + j) (by omega), flatE_get hk L i j hi hj]
end
end Go.Proofs.YtpfijaojgeceeaaGreatDoor
namespace Go.Proofs.YtpfijaojgeceeaaGreatDoor
open Go.RowKit
set_option linter.unusedVariables false

def ivC (d : Int) : List Value := [.int .i64 d]
def bvC (g : Bool) : List Value := [.bool g]
set_option maxRecDepth 100000 in
theorem ivC_len (d : Int) : (ivC d).length = 1 := rfl
set_option maxRecDepth 100000 in
theorem bvC_len (g : Bool) : (bvC g).length = 1 := rfl
set_option maxRecDepth 100000 in
theorem ivC_one (d : Int) : ∀ u ∈ ivC d, u.oneCell' = true := by intro u hu; simp [ivC] at hu; subst hu; rfl
set_option maxRecDepth 100000 in
theorem bvC_one (g : Bool) : ∀ u ∈ bvC g, u.oneCell' = true := by intro u hu; simp [bvC] at hu; subst hu; rfl
abbrev Ivs := Ls ivC 1
abbrev Bvs := Ls bvC 1
set_option maxRecDepth 100000 in
theorem Ls.iv {w : World} {ao : Option Addr} {len cap : Nat} {L : List Int} (h : Ivs w ao len cap L) (i : Nat) (hi : i < len) (z : Int) : ∃ b off, ao = some ⟨b, off, none⟩ ∧ b < w.heap.size ∧ w.cell? ⟨b, off + i, none⟩ = some (.int .i64 (L.getD i z)) := by
  obtain ⟨b, off, e, hlt, hc⟩ := h.spot (by omega)
  have hi2 : i < L.length := by rw [h.len_eq]; exact hi
  have e1 : L.getD i z = L[i] := by rw [List.getD_eq_getElem?_getD, List.getElem?_eq_getElem hi2]; rfl
  have h1 := hc i hi2 0 (by decide)
  rw [Nat.mul_one, Nat.add_zero] at h1
  exact ⟨b, off, e, hlt, by rw [e1]; exact h1⟩
set_option maxRecDepth 100000 in
theorem iv_map (D : List Int) : D.flatMap ivC = D.map (Value.int .i64) := by
  induction D with
  | nil => rfl
  | cons d t ih => rw [List.flatMap_cons, ih]; rfl
set_option maxRecDepth 100000 in
theorem bv_map (G : List Bool) : G.flatMap bvC = G.map Value.bool := by
  induction G with
  | nil => rfl
  | cons d t ih => rw [List.flatMap_cons, ih]; rfl
set_option maxRecDepth 100000 in
theorem iv_set (D : List Int) (j : Nat) (d : Int) : (D.flatMap ivC).set j (.int .i64 d) = (D.set j d).flatMap ivC := by rw [iv_map, iv_map, List.map_set]
set_option maxRecDepth 100000 in
theorem bv_set (G : List Bool) (j : Nat) (g : Bool) : (G.flatMap bvC).set j (.bool g) = (G.set j g).flatMap bvC := by rw [bv_map, bv_map, List.map_set]
set_option maxRecDepth 100000 in
theorem iv_get (D : List Int) (j : Nat) (h : j < D.length) (z : Int) : (D.flatMap ivC)[j]? = some (.int .i64 (D.getD j z)) := by rw [iv_map, List.getElem?_map, List.getElem?_eq_getElem h, List.getD_eq_getElem?_getD, List.getElem?_eq_getElem h]; rfl
set_option maxRecDepth 100000 in
theorem bv_get' (G : List Bool) (j : Nat) (h : j < G.length) (z : Bool) : (G.flatMap bvC)[j]? = some (.bool (G.getD j z)) := by rw [bv_map, List.getElem?_map, List.getElem?_eq_getElem h, List.getD_eq_getElem?_getD, List.getElem?_eq_getElem h]; rfl
end Go.Proofs.YtpfijaojgeceeaaGreatDoor
namespace Go.Proofs.YtpfijaojgeceeaaGreatDoor
open Go.RowKit
set_option linter.unusedVariables false

/-- a new variable -/
structure NV (T : TypeId) (sz N0 g : Nat) (wr : World) : Prop where
  ge : N0 ≤ g
  row : ∃ cs : Array Value, cs.size = sz ∧ wr.heap[g]? = some (.cells cs T (0, 0))
set_option maxRecDepth 100000 in
theorem NV.lt {T : TypeId} {sz N0 g : Nat} {wr : World} (h : NV T sz N0 g wr) : g < wr.heap.size := by obtain ⟨cs, _, e⟩ := h.row; exact (Array.getElem?_eq_some_iff.1 e).1
set_option maxRecDepth 100000 in
theorem NV.step {T : TypeId} {sz N0 g : Nat} {wr w1 : World} (h : NV T sz N0 g wr) (hb : Below wr.heap.size wr w1) : NV T sz N0 g w1 := by
  have hlt := h.lt
  obtain ⟨cs, hs, e⟩ := h.row
  exact ⟨h.ge, cs, hs, (hb.block g hlt).trans e⟩
set_option maxRecDepth 100000 in
theorem NV.new {T : TypeId} {sz N0 : Nat} {wr : World} {cs : Array Value} (hN : N0 ≤ wr.heap.size) (hs : cs.size = sz) : NV T sz N0 wr.heap.size (wr.alloc (.cells cs T)) := ⟨hN, cs, hs, heap_alloc_new _ _⟩
set_option maxRecDepth 100000 in
theorem NV.there {T : TypeId} {sz N0 g : Nat} {wr : World} (h : NV T sz N0 g wr) {D : Array Value} (hD : D.size = sz) : wr.there g 0 D.size := by
  obtain ⟨cs, hs, e⟩ := h.row
  have := there_row e
  rw [hs, ← hD] at this
  exact this
set_option maxRecDepth 100000 in
theorem NV.put {T : TypeId} {sz N0 g : Nat} {wr : World} (h : NV T sz N0 g wr) {D : Array Value} (hD : D.size = sz) : (wr.setCells g 0 D.toList).heap[g]? = some (.cells D T (0, 0)) := by
  obtain ⟨cs, hs, e⟩ := h.row
  exact heap_stored e (by rw [hs, hD])
set_option maxRecDepth 100000 in
theorem NV.but {T : TypeId} {sz N0 g h : Nat} {wr : World} (k : NV T sz N0 g wr) (hne : g ≠ h) (vs : List Value) : NV T sz N0 g (wr.setCells h 0 vs) := by
  obtain ⟨cs, hs, e⟩ := k.row
  exact ⟨k.ge, cs, hs, (setCells_other hne vs 0).trans e⟩
set_option maxRecDepth 100000 in
theorem nv_but {wr : World} {g h : Nat} {T : TypeId} {D : Array Value} (k : wr.heap[g]? = some (.cells D T (0, 0))) (hne : g ≠ h) (vs : List Value) : (wr.setCells h 0 vs).heap[g]? = some (.cells D T (0, 0)) := (setCells_other hne vs 0).trans k
set_option maxRecDepth 100000 in
theorem nv_range {w w' : World} {b o : Nat} {vs : List Value} (h : w.rangeAt b o vs) (hb : Below w.heap.size w w') (hlt : b < w.heap.size) : w'.rangeAt b o vs := fun j v hj => (hb.cell hlt).trans (h j v hj)
end Go.Proofs.YtpfijaojgeceeaaGreatDoor
namespace Go.Proofs.YtpfijaojgeceeaaGreatDoor
open Go.RowKit
set_option linter.unusedVariables false

/-- where a reader stands, by its number in the program (11: there was an error) -/
def atN (ph : Nat) : Int := if ph = 0 then 1 else if ph = 1 then 7 else if ph ≤ 6 then (ph : Int) else (ph : Int) + 1
/-- what holds of a reader at all times -/
structure CI (most : Nat) (s : CS) : Prop where
  m : most ≤ 2048
  p : s.ph ≤ 11
  b : s.body.length ≤ most
  byt : Byt s.body
  z : s.ph ≤ 10 → ¬ (2 ≤ s.ph ∧ s.ph ≤ 4) → s.n = 0
  y : 2 ≤ s.ph → s.ph ≤ 4 → 1 ≤ s.n ∧ s.body.length + s.n ≤ most
  n : s.n ≤ 2048
/-- what Put makes of a reader -/
def ptS (most : Nat) (s : CS) (b : Int) : CS := if 10 ≤ s.ph then s else if (stp most s b).2 ≠ 0 then ⟨11, s.n, s.body⟩ else (stp most s b).1
/-- whether the body is whole with it -/
def ptD (most : Nat) (s : CS) (b : Int) : Bool := decide (s.ph < 10 ∧ (stp most s b).2 = 0 ∧ (stp most s b).1.ph = 10)
set_option maxRecDepth 100000 in
theorem CI.new {most : Nat} (h : most ≤ 2048) : CI most ⟨0, 0, []⟩ := ⟨h, by decide, by simp, Byt.nil, fun _ _ => rfl, fun h => by simp at h, by simp⟩
set_option maxRecDepth 100000 in
theorem CI.fail {most : Nat} {s : CS} (h : CI most s) : CI most ⟨11, s.n, s.body⟩ := ⟨h.m, Nat.le_refl _, h.b, h.byt, fun h => by simp at h, fun _ h => by simp at h, h.n⟩
set_option maxRecDepth 100000 in
theorem CI.stp {most : Nat} {s : CS} (h : CI most s) {b : Int} (hb : 0 ≤ b ∧ b ≤ 255) (h0 : (stp most s b).2 = 0) : CI most (stp most s b).1 ∧ (stp most s b).1.ph ≤ 10 := by
  obtain ⟨ph, n, body⟩ := s
  obtain ⟨hm, hp, hbl, hby, hz, hy, hn⟩ := h
  simp only at hp hbl hby hz hy hn
  have hd := dgt_le b
  have F : ∀ p k, p ≤ 10 → (¬ (2 ≤ p ∧ p ≤ 4) → k = 0) → (2 ≤ p → p ≤ 4 → 1 ≤ k ∧ body.length + k ≤ most) → CI most ⟨p, k, body⟩ ∧ (⟨p, k, body⟩ : CS).ph ≤ 10 := fun p k h1 h2 h3 =>
    ⟨⟨hm, by show p ≤ 11; omega, hbl, hby, fun _ h => h2 h, h3, by
      by_cases h4 : 2 ≤ p ∧ p ≤ 4
      · have := h3 h4.1 h4.2; show k ≤ 2048; omega
      · rw [show (⟨p, k, body⟩ : CS).n = 0 from h2 h4]; omega⟩, h1⟩
  match ph, hp with
  | 0, _ =>
    simp only [Go.Proofs.YtpfijaojgeceeaaGreatDoor.stp] at h0 ⊢
    split
    · rename_i h1; rw [if_pos h1] at h0; simp at h0
    · rename_i h1; rw [if_neg h1] at h0
      split
      · exact F 1 0 (by decide) (fun _ => rfl) (fun h => by omega)
      · rename_i h2; rw [if_neg h2] at h0
        split
        · rename_i h3; rw [if_pos h3] at h0; simp at h0
        · exact F 2 _ (by decide) (fun h => by omega) (fun _ _ => by omega)
  | 1, _ =>
    simp only [Go.Proofs.YtpfijaojgeceeaaGreatDoor.stp] at h0 ⊢
    split
    · exact F 7 0 (by decide) (fun _ => rfl) (fun _ h => by omega)
    · rename_i h1; rw [if_neg h1] at h0; simp at h0
  | 2, _ =>
    have hy2 := hy (by decide) (by decide)
    simp only [Go.Proofs.YtpfijaojgeceeaaGreatDoor.stp] at h0 ⊢
    split
    · exact F 3 _ (by decide) (fun h => by omega) (fun _ _ => hy2)
    · rename_i h1; rw [if_neg h1] at h0
      split
      · rename_i h2; rw [if_pos h2] at h0; simp at h0
      · rename_i h2; rw [if_neg h2] at h0
        split
        · rename_i h3; rw [if_pos h3] at h0; simp at h0
        · exact F 2 _ (by decide) (fun h => by omega) (fun _ _ => by omega)
  | 3, _ =>
    have hy2 := hy (by decide) (by decide)
    simp only [Go.Proofs.YtpfijaojgeceeaaGreatDoor.stp] at h0 ⊢
    split
    · exact F 4 _ (by decide) (fun h => by omega) (fun _ _ => hy2)
    · rename_i h1; rw [if_neg h1] at h0; simp at h0
  | 4, _ =>
    have hy2 := hy (by decide) (by decide)
    have hb2 : Byt (body ++ [b]) := hby.append (Byt.cons hb Byt.nil)
    simp only [Go.Proofs.YtpfijaojgeceeaaGreatDoor.stp]
    split
    · rename_i h1
      exact ⟨⟨hm, (by show 5 ≤ 11; decide), by simp only [List.length_append, List.length_cons, List.length_nil]; omega, hb2, fun _ _ => rfl, fun _ h => by simp at h, by simp⟩, (by show 5 ≤ 10; decide)⟩
    · rename_i h1
      exact ⟨⟨hm, by simp, by simp only [List.length_append, List.length_cons, List.length_nil]; omega, hb2, fun _ h => by simp at h, fun _ _ => by simp only [List.length_append, List.length_cons, List.length_nil]; omega, by show n - 1 ≤ 2048; omega⟩, (by show 4 ≤ 10; decide)⟩
  | 5, _ =>
    simp only [Go.Proofs.YtpfijaojgeceeaaGreatDoor.stp] at h0 ⊢
    split
    · exact F 6 0 (by decide) (fun _ => rfl) (fun _ h => by omega)
    · rename_i h1; rw [if_neg h1] at h0; simp at h0
  | 6, _ =>
    simp only [Go.Proofs.YtpfijaojgeceeaaGreatDoor.stp] at h0 ⊢
    split
    · exact F 0 0 (by decide) (fun _ => rfl) (fun h => by omega)
    · rename_i h1; rw [if_neg h1] at h0; simp at h0
  | 7, _ =>
    simp only [Go.Proofs.YtpfijaojgeceeaaGreatDoor.stp] at h0 ⊢
    split
    · exact F 8 0 (by decide) (fun _ => rfl) (fun _ h => by omega)
    · rename_i h1; rw [if_neg h1] at h0; simp at h0
  | 8, _ =>
    simp only [Go.Proofs.YtpfijaojgeceeaaGreatDoor.stp] at h0 ⊢
    split
    · exact F 9 0 (by decide) (fun _ => rfl) (fun _ h => by omega)
    · rename_i h1; rw [if_neg h1] at h0; simp at h0
  | 9, _ =>
    simp only [Go.Proofs.YtpfijaojgeceeaaGreatDoor.stp] at h0 ⊢
    split
    · exact F 10 0 (by decide) (fun _ => rfl) (fun _ h => by omega)
    · rename_i h1; rw [if_neg h1] at h0; simp at h0
  | 10, _ => simp [Go.Proofs.YtpfijaojgeceeaaGreatDoor.stp] at h0
  | 11, _ => simp [Go.Proofs.YtpfijaojgeceeaaGreatDoor.stp] at h0
  | (k + 12), h => omega
set_option maxRecDepth 100000 in
theorem ptS_over {most : Nat} {s : CS} (b : Int) (h : 10 ≤ s.ph) : ptS most s b = s := by unfold ptS; rw [if_pos h]
set_option maxRecDepth 100000 in
theorem ptS_err {most : Nat} {s : CS} {b : Int} (h : ¬ 10 ≤ s.ph) (h0 : (stp most s b).2 ≠ 0) : ptS most s b = ⟨11, s.n, s.body⟩ := by unfold ptS; rw [if_neg h, if_pos h0]
set_option maxRecDepth 100000 in
theorem ptS_ok {most : Nat} {s : CS} {b : Int} (h : ¬ 10 ≤ s.ph) (h0 : (stp most s b).2 = 0) : ptS most s b = (stp most s b).1 := by unfold ptS; rw [if_neg h, if_neg (by rw [h0]; simp)]
set_option maxRecDepth 100000 in
theorem stp_over {most : Nat} {s : CS} (b : Int) (h : 10 ≤ s.ph) : stp most s b = (s, 20) := by
  obtain ⟨ph, n, body⟩ := s
  match ph, h with
  | (k + 10), _ => rfl

set_option maxRecDepth 100000 in
theorem stp_err {most : Nat} {s : CS} {b : Int} (h : (stp most s b).2 ≠ 0) : (stp most s b).1 = s := by
  obtain ⟨ph, n, body⟩ := s
  by_cases hp : 10 ≤ ph
  · rw [stp_over b hp]
  · match ph, hp with
    | 0, _ | 1, _ | 2, _ | 3, _ | 4, _ | 5, _ | 6, _ | 7, _ | 8, _ | 9, _ =>
      simp only [Go.Proofs.YtpfijaojgeceeaaGreatDoor.stp] at h ⊢
      repeat' split
      all_goals first | rfl | (exfalso; simp_all)
    | (k + 10), h => exact absurd (Nat.le_add_left 10 k) h

/-- a reader in memory, field by field -/
structure RdR (w : World) (g : Nat) (own : Nat → Prop) (x most n : Int) (body : List Int) (v : Value) : Prop where
  byt : Byt body
  og : own g
  lt : ∀ k, own k → k < w.heap.size
  row : w.heap[g]? = some (.cells #[.int .i64 x, .int .i64 most, .int .i64 n, v] 99 (0, 0))
  vr : w.ownsRow 0 5 1 v body.length (bv body)
  ov : ∀ k, v.ownBlock = some k → own k
variable {w w' : World} {g : Nat} {own : Nat → Prop} {x most n : Int} {body : List Int} {v : Value}
set_option maxRecDepth 100000 in
theorem RdR.c0 (h : RdR w g own x most n body v) : w.cell? ⟨g, 0, none⟩ = some (.int .i64 x) := by rw [cell_of_row w g 0 _ _ (0, 0) h.row]; rfl
set_option maxRecDepth 100000 in
theorem RdR.c1 (h : RdR w g own x most n body v) : w.cell? ⟨g, 1, none⟩ = some (.int .i64 most) := by rw [cell_of_row w g 1 _ _ (0, 0) h.row]; rfl
set_option maxRecDepth 100000 in
theorem RdR.c2 (h : RdR w g own x most n body v) : w.cell? ⟨g, 2, none⟩ = some (.int .i64 n) := by rw [cell_of_row w g 2 _ _ (0, 0) h.row]; rfl
set_option maxRecDepth 100000 in
theorem RdR.c3 (h : RdR w g own x most n body v) : w.cell? ⟨g, 3, none⟩ = some v := by rw [cell_of_row w g 3 _ _ (0, 0) h.row]; rfl
set_option maxRecDepth 100000 in
theorem RdR.fr (h : RdR w g own x most n body v) (j : Nat) : w.frozen? ⟨g, j, none⟩ = false := frozen_of_row _ _ j _ _ h.row
set_option maxRecDepth 100000 in
theorem RdR.ne (h : RdR w g own x most n body v) {k : Nat} (hk : v.ownBlock = some k) : k ≠ g := by
  rintro rfl
  rcases h.vr.2 with ⟨rfl, _⟩ | ⟨g', cap, cur, rfl, _, hg, _⟩
  · cases hk
  · obtain rfl : g' = k := by simpa [Value.ownBlock] using hk
    rw [h.row] at hg
    cases hg
set_option maxRecDepth 100000 in
theorem RdR.keep (h : RdR w g own x most n body v) (hb : ∀ k, own k → w'.heap[k]? = w.heap[k]?) (hs : w.heap.size ≤ w'.heap.size) : RdR w' g own x most n body v := by
  refine ⟨h.byt, h.og, fun k hk => Nat.lt_of_lt_of_le (h.lt k hk) hs, by rw [hb g h.og]; exact h.row, ⟨h.vr.1, ?_⟩, h.ov⟩
  rcases h.vr.2 with h2 | ⟨g', cap, cur, hv, hg, hh, r⟩
  · exact .inl h2
  · exact .inr ⟨g', cap, cur, hv, hg, by rw [hb g' (h.ov g' (by rw [hv]; rfl))]; exact hh, r⟩
set_option maxRecDepth 100000 in
theorem RdR.below (h : RdR w g own x most n body v) (hb : Below w.heap.size w w') : RdR w' g own x most n body v := h.keep (fun k hk => hb.block k (h.lt k hk)) hb.size
set_option maxRecDepth 100000 in
theorem RdR.setAt (h : RdR w g own x most n body v) (x2 : Int) : RdR (w.setCell ⟨g, 0, none⟩ (.int .i64 x2)) g own x2 most n body v :=
  ⟨h.byt, h.og, fun k hk => by have := h.lt k hk; simpa [World.setCell] using this, heap_setCell_same w g 0 _ _ _ h.row, owns_setCells (vs := [.int .i64 x2]) (o := 0) h.vr (fun k hk => h.ne hk), h.ov⟩
set_option maxRecDepth 100000 in
theorem RdR.setLeft (h : RdR w g own x most n body v) (n2 : Int) : RdR (w.setCell ⟨g, 2, none⟩ (.int .i64 n2)) g own x most n2 body v :=
  ⟨h.byt, h.og, fun k hk => by have := h.lt k hk; simpa [World.setCell] using this, heap_setCell_same w g 2 _ _ _ h.row, owns_setCells (vs := [.int .i64 n2]) (o := 2) h.vr (fun k hk => h.ne hk), h.ov⟩
set_option maxRecDepth 100000 in
theorem RdR.kset (h : RdR w g own x most n body v) (j : Nat) (z : Value) : Kept own w (w.setCell ⟨g, j, none⟩ z) := (Kept.refl own w).setCell (.inl h.og) j z
set_option maxRecDepth 100000 in
/-- one byte more is said -/
theorem RdR.more {b : Int} {g4 cap4 H : Nat} {wA w4 : World} (h : RdR w g own x most n body v) (hb : 0 ≤ b ∧ b ≤ 255) (hA : wA = w.alloc (.cells #[.int .u8 b] 5)) (ho : w4.ownsRow 0 5 1 (.slice (some ⟨g4, 0, none⟩) (body.length + 1) cap4) (body.length + 1) (bv body ++ [.int .u8 b])) (hg : wA.grownBy w4 v.ownBlock) (hl : v.ownBlock = some g4 ∨ g4 = H) (hH : H = w.heap.size + 1) (hlt : g4 < w4.heap.size) :
    w4.heap[g]? = some (.cells #[.int .i64 x, .int .i64 most, .int .i64 n, v] 99 (0, 0)) ∧ RdR (w4.setCell ⟨g, 3, none⟩ (.slice (some ⟨g4, 0, none⟩) (body.length + 1) cap4)) g (fun k => own k ∨ (w.heap.size ≤ k ∧ k < w4.heap.size)) x most n (body ++ [b]) (.slice (some ⟨g4, 0, none⟩) (body.length + 1) cap4) ∧ Kept own w (w4.setCell ⟨g, 3, none⟩ (.slice (some ⟨g4, 0, none⟩) (body.length + 1) cap4)) := by
  have hgl := h.lt g h.og
  have hsA : wA.heap.size = w.heap.size + 1 := by rw [hA]; simp
  have hrA : wA.heap[g]? = w.heap[g]? := by rw [hA]; exact ((Below.refl w.heap.size w).alloc (Nat.le_refl _) _).block g hgl
  have hr4 : w4.heap[g]? = some (.cells #[.int .i64 x, .int .i64 most, .int .i64 n, v] 99 (0, 0)) := by
    rw [hg.block g (by omega) (fun e => h.ne e.symm rfl), hrA]; exact h.row
  have hK : Kept own w w4 := by
    refine Kept.grown (w := wA) (by rw [hA]; exact (Kept.refl own w).alloc _) hg (fun k hk => .inl (h.ov k hk))
  have hg4 : g4 ≠ g := by
    rcases hl with h1 | h1
    · exact h.ne h1
    · omega
  have hsz : ∀ z : Value, (w4.setCell ⟨g, 3, none⟩ z).heap.size = w4.heap.size := fun z => by simp [World.setCell]
  refine ⟨hr4, ⟨?_, .inl h.og, fun k hk => ?_, heap_setCell_same w4 g 3 _ _ _ hr4, ?_, fun k hk => ?_⟩, hK.setCell (.inl h.og) 3 _⟩
  · exact h.byt.append (Byt.cons hb Byt.nil)
  · rw [hsz]
    rcases hk with hk | hk
    · have := h.lt k hk; have := hK.size; omega
    · exact hk.2
  · rw [bv_append, List.length_append]
    exact owns_setCells (vs := [_]) (o := 3) ho (fun k hk => by
      obtain rfl : g4 = k := by simpa [Value.ownBlock] using hk
      exact hg4)
  · obtain rfl : g4 = k := by simpa [Value.ownBlock] using hk
    rcases hl with h1 | h1
    · exact .inl (h.ov _ h1)
    · exact .inr ⟨by omega, hlt⟩
def Rd (w : World) (g : Nat) (own : Nat → Prop) (most : Nat) (s : CS) : Prop := CI most s ∧ ∃ v, RdR w g own (atN s.ph) (most : Int) (s.n : Int) s.body v
set_option maxRecDepth 100000 in
theorem Rd.og {most : Nat} {s : CS} (h : Rd w g own most s) : own g := by obtain ⟨_, v, h⟩ := h; exact h.og
set_option maxRecDepth 100000 in
theorem Rd.lt {most : Nat} {s : CS} (h : Rd w g own most s) : ∀ k, own k → k < w.heap.size := by obtain ⟨_, v, h⟩ := h; exact h.lt
set_option maxRecDepth 100000 in
theorem Rd.keep {most : Nat} {s : CS} (h : Rd w g own most s) (hb : ∀ k, own k → w'.heap[k]? = w.heap[k]?) (hs : w.heap.size ≤ w'.heap.size) : Rd w' g own most s := by obtain ⟨hc, v, h⟩ := h; exact ⟨hc, v, h.keep hb hs⟩
set_option maxRecDepth 100000 in
theorem Rd.below {most : Nat} {s : CS} (h : Rd w g own most s) (hb : Below w.heap.size w w') : Rd w' g own most s := h.keep (fun k hk => hb.block k (h.lt k hk)) hb.size
set_option maxRecDepth 100000 in
theorem Rd.kept {own2 : Nat → Prop} {most : Nat} {s : CS} (h : Rd w g own most s) (hb : Kept own2 w w') (hd : ∀ k, own k → ¬ own2 k) : Rd w' g own most s := h.keep (fun k hk => hb.block k (h.lt k hk) (hd k hk)) hb.size
set_option maxRecDepth 100000 in
theorem Rd.drewN {most : Nat} {s : CS} (h : Rd w g own most s) (q : Nat) : Rd (w.drewN q) g own most s := h.keep (fun _ _ => rfl) (Nat.le_refl _)
end Go.Proofs.YtpfijaojgeceeaaGreatDoor
