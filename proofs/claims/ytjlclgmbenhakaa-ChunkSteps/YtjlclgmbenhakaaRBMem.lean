/- The document's own reader in memory; its Body. -/
import Derived.Test.YtjlclgmbenhakaaRBMath
namespace Go.Proofs.Ytjlclgmbenhakaa
open Go.RowKit
set_option linter.unusedVariables false

/-- the document's own reader in memory, field by field -/
structure XR (w : World) (g : Nat) (own : Nat → Prop) (m : Nat) (B : List Int) (ended : Bool) (v : Value) : Prop where
  byt : Byt B
  og : own g
  lt : ∀ k, own k → k < w.heap.size
  row : w.heap[g]? = some (.cells #[.int .i64 (m : Int), v, .bool ended] 38 (0, 0))
  vr : w.ownsRow 0 5 1 v B.length (bv B)
  ov : ∀ k, v.ownBlock = some k → own k
variable {w w' : World} {g : Nat} {own : Nat → Prop} {m : Nat} {B : List Int} {ended : Bool} {v : Value}
set_option maxRecDepth 100000 in
theorem XR.c0 (h : XR w g own m B ended v) : w.cell? ⟨g, 0, none⟩ = some (.int .i64 (m : Int)) := by rw [cell_of_row w g 0 _ _ (0, 0) h.row]; rfl
set_option maxRecDepth 100000 in
theorem XR.c1 (h : XR w g own m B ended v) : w.cell? ⟨g, 1, none⟩ = some v := by rw [cell_of_row w g 1 _ _ (0, 0) h.row]; rfl
set_option maxRecDepth 100000 in
theorem XR.c2 (h : XR w g own m B ended v) : w.cell? ⟨g, 2, none⟩ = some (.bool ended) := by rw [cell_of_row w g 2 _ _ (0, 0) h.row]; rfl
set_option maxRecDepth 100000 in
theorem XR.fr (h : XR w g own m B ended v) (j : Nat) : w.frozen? ⟨g, j, none⟩ = false := frozen_of_row _ _ j _ _ h.row
set_option maxRecDepth 100000 in
theorem XR.ne (h : XR w g own m B ended v) {k : Nat} (hk : v.ownBlock = some k) : k ≠ g := by
  rintro rfl
  rcases h.vr.2 with ⟨rfl, _⟩ | ⟨g', cap, cur, rfl, _, hg, _⟩
  · cases hk
  · obtain rfl : g' = k := by simpa [Value.ownBlock] using hk
    rw [h.row] at hg
    cases hg
set_option maxRecDepth 100000 in
theorem XR.keep (h : XR w g own m B ended v) (hb : ∀ k, own k → w'.heap[k]? = w.heap[k]?) (hs : w.heap.size ≤ w'.heap.size) : XR w' g own m B ended v := by
  refine ⟨h.byt, h.og, fun k hk => Nat.lt_of_lt_of_le (h.lt k hk) hs, by rw [hb g h.og]; exact h.row, ⟨h.vr.1, ?_⟩, h.ov⟩
  rcases h.vr.2 with h2 | ⟨g', cap, cur, hv, hg, hh, r⟩
  · exact .inl h2
  · exact .inr ⟨g', cap, cur, hv, hg, by rw [hb g' (h.ov g' (by rw [hv]; rfl))]; exact hh, r⟩
set_option maxRecDepth 100000 in
theorem XR.below (h : XR w g own m B ended v) (hb : Below w.heap.size w w') : XR w' g own m B ended v := h.keep (fun k hk => hb.block k (h.lt k hk)) hb.size
set_option maxRecDepth 100000 in
theorem XR.setEnd (h : XR w g own m B ended v) (e2 : Bool) : XR (w.setCell ⟨g, 2, none⟩ (.bool e2)) g own m B e2 v :=
  ⟨h.byt, h.og, fun k hk => by have := h.lt k hk; simpa [World.setCell] using this, heap_setCell_same w g 2 _ _ _ h.row, owns_setCells (vs := [.bool e2]) (o := 2) h.vr (fun k hk => h.ne hk), h.ov⟩
set_option maxRecDepth 100000 in
theorem XR.kset (h : XR w g own m B ended v) (j : Nat) (z : Value) : Kept own w (w.setCell ⟨g, j, none⟩ z) := (Kept.refl own w).setCell (.inl h.og) j z
set_option maxRecDepth 100000 in
theorem XR.more {b : Int} {g4 cap4 H : Nat} {wA w4 : World} (h : XR w g own m B ended v) (hb : 0 ≤ b ∧ b ≤ 255) (hA : wA = w.alloc (.cells #[.int .u8 b] 5)) (ho : w4.ownsRow 0 5 1 (.slice (some ⟨g4, 0, none⟩) (B.length + 1) cap4) (B.length + 1) (bv B ++ [.int .u8 b])) (hg : wA.grownBy w4 v.ownBlock) (hl : v.ownBlock = some g4 ∨ g4 = H) (hH : H = w.heap.size + 1) (hlt : g4 < w4.heap.size) :
    w4.heap[g]? = some (.cells #[.int .i64 (m : Int), v, .bool ended] 38 (0, 0)) ∧ XR (w4.setCell ⟨g, 1, none⟩ (.slice (some ⟨g4, 0, none⟩) (B.length + 1) cap4)) g (fun k => own k ∨ (w.heap.size ≤ k ∧ k < w4.heap.size)) m (B ++ [b]) ended (.slice (some ⟨g4, 0, none⟩) (B.length + 1) cap4) ∧ Kept own w (w4.setCell ⟨g, 1, none⟩ (.slice (some ⟨g4, 0, none⟩) (B.length + 1) cap4)) := by
  have hgl := h.lt g h.og
  have hsA : wA.heap.size = w.heap.size + 1 := by rw [hA]; simp
  have hrA : wA.heap[g]? = w.heap[g]? := by rw [hA]; exact ((Below.refl w.heap.size w).alloc (Nat.le_refl _) _).block g hgl
  have hr4 : w4.heap[g]? = some (.cells #[.int .i64 (m : Int), v, .bool ended] 38 (0, 0)) := by
    rw [hg.block g (by omega) (fun e => h.ne e.symm rfl), hrA]; exact h.row
  have hK : Kept own w w4 := by
    refine Kept.grown (w := wA) (by rw [hA]; exact (Kept.refl own w).alloc _) hg (fun k hk => .inl (h.ov k hk))
  have hg4 : g4 ≠ g := by
    rcases hl with h1 | h1
    · exact h.ne h1
    · omega
  have hsz : ∀ z : Value, (w4.setCell ⟨g, 1, none⟩ z).heap.size = w4.heap.size := fun z => by simp [World.setCell]
  refine ⟨hr4, ⟨?_, .inl h.og, fun k hk => ?_, heap_setCell_same w4 g 1 _ _ _ hr4, ?_, fun k hk => ?_⟩, hK.setCell (.inl h.og) 1 _⟩
  · exact h.byt.append (Byt.cons hb Byt.nil)
  · rw [hsz]
    rcases hk with hk | hk
    · have := h.lt k hk; have := hK.size; omega
    · exact hk.2
  · rw [bv_append, List.length_append]
    exact owns_setCells (vs := [_]) (o := 1) ho (fun k hk => by
      obtain rfl : g4 = k := by simpa [Value.ownBlock] using hk
      exact hg4)
  · obtain rfl : g4 = k := by simpa [Value.ownBlock] using hk
    rcases hl with h1 | h1
    · exact .inl (h.ov _ h1)
    · exact .inr ⟨by omega, hlt⟩
/-- .. that says what a reader of the program says -/
def Xd (w : World) (g : Nat) (own : Nat → Prop) (m : Nat) (s : CS) (N : Nat) : Prop := m ≤ 2048 ∧ ∃ B ended v, XR w g own m B ended v ∧ XI m B ended s ∧ B.length ≤ N
set_option maxRecDepth 100000 in
theorem Xd.og {s : CS} {N : Nat} (h : Xd w g own m s N) : own g := by obtain ⟨_, B, e, v, h, _⟩ := h; exact h.og
set_option maxRecDepth 100000 in
theorem Xd.lt {s : CS} {N : Nat} (h : Xd w g own m s N) : ∀ k, own k → k < w.heap.size := by obtain ⟨_, B, e, v, h, _⟩ := h; exact h.lt
set_option maxRecDepth 100000 in
theorem Xd.keep {s : CS} {N : Nat} (h : Xd w g own m s N) (hb : ∀ k, own k → w'.heap[k]? = w.heap[k]?) (hs : w.heap.size ≤ w'.heap.size) : Xd w' g own m s N := by obtain ⟨hm, B, e, v, h, hi, hn⟩ := h; exact ⟨hm, B, e, v, h.keep hb hs, hi, hn⟩
set_option maxRecDepth 100000 in
theorem Xd.below {s : CS} {N : Nat} (h : Xd w g own m s N) (hb : Below w.heap.size w w') : Xd w' g own m s N := h.keep (fun k hk => hb.block k (h.lt k hk)) hb.size
set_option maxRecDepth 100000 in
theorem Xd.kept {own2 : Nat → Prop} {s : CS} {N : Nat} (h : Xd w g own m s N) (hb : Kept own2 w w') (hd : ∀ k, own k → ¬ own2 k) : Xd w' g own m s N := h.keep (fun k hk => hb.block k (h.lt k hk) (hd k hk)) hb.size
set_option maxRecDepth 100000 in
theorem Xd.drewN {s : CS} {N : Nat} (h : Xd w g own m s N) (q : Nat) : Xd (w.drewN q) g own m s N := h.keep (fun _ _ => rfl) (Nat.le_refl _)
/-- the state of Body's loop -/
structure BL (w wr : World) (m : Nat) (B body : List Int) (v : Value) (p f : Nat) (T : List Int) : Prop where
  own : wr.ownsRow w.heap.size 5 1 v body.length (bv body)
  len : body.length ≤ p
  bel : Below w.heap.size w wr
  fl : B.length < f + p
  run : bdR (m : Int) B f p body = T
end Go.Proofs.Ytjlclgmbenhakaa
