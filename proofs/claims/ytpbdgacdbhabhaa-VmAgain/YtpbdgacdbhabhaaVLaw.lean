/- What a law holds of the operation that it was handed. No walk. -/
import Derived.Test.YtpbdgacdbhabhaaVLives
import Derived.Test.YtpbdgacdbhabhaaVEq
import Derived.Test.YtpbdgacdbhabhaaNewVar
namespace Go.Proofs.Ytpbdgacdbhabhaa
open Go.RowKit
set_option linter.unusedVariables false

/-- what stays when new memory is made -/
def Up (Q : World → Prop) : Prop := ∀ W W', Q W → Below W.heap.size W W' → Q W'
/-- the operation that came in lies in a variable; what else is held -/
structure CX (Q : World → Prop) (gb : Nat) (c : Cl) (w W : World) : Prop where
  low : Below w.heap.size w W
  row : W.heap[gb]? = some (.cells #[.int .i64 c.s0, .int .i64 c.s1, .int .i64 c.s2, .int .i64 c.s3, .int .i64 c.k, .int .i64 c.f, .int .i64 c.g] 26 (0, 0))
  up : Up Q
  q : Q W
section
variable {Q : World → Prop} {gb : Nat} {c : Cl} {w W W' : World}
set_option maxRecDepth 100000 in
theorem CX.step (h : CX Q gb c w W) (hb : Below W.heap.size W W') : CX Q gb c w W' := ⟨bstep h.low hb, (hb.block gb (Array.getElem?_eq_some_iff.1 h.row).1).trans h.row, h.up, h.up _ _ h.q hb⟩
set_option maxRecDepth 100000 in
theorem CX.drew (h : CX Q gb c w W) : CX Q gb c w W.drew := h.step (Below.refl _ _).drew
set_option maxRecDepth 100000 in
theorem CX.c0 (h : CX Q gb c w W) : W.cell? ⟨gb, 0, none⟩ = some (.int .i64 c.s0) := cell_of_row _ gb 0 _ _ (0, 0) h.row
set_option maxRecDepth 100000 in
theorem CX.c1 (h : CX Q gb c w W) : W.cell? ⟨gb, 1, none⟩ = some (.int .i64 c.s1) := cell_of_row _ gb 1 _ _ (0, 0) h.row
set_option maxRecDepth 100000 in
theorem CX.c2 (h : CX Q gb c w W) : W.cell? ⟨gb, 2, none⟩ = some (.int .i64 c.s2) := cell_of_row _ gb 2 _ _ (0, 0) h.row
set_option maxRecDepth 100000 in
theorem CX.c3 (h : CX Q gb c w W) : W.cell? ⟨gb, 3, none⟩ = some (.int .i64 c.s3) := cell_of_row _ gb 3 _ _ (0, 0) h.row
set_option maxRecDepth 100000 in
theorem CX.c4 (h : CX Q gb c w W) : W.cell? ⟨gb, 4, none⟩ = some (.int .i64 c.k) := cell_of_row _ gb 4 _ _ (0, 0) h.row
set_option maxRecDepth 100000 in
theorem CX.c5 (h : CX Q gb c w W) : W.cell? ⟨gb, 5, none⟩ = some (.int .i64 c.f) := cell_of_row _ gb 5 _ _ (0, 0) h.row
set_option maxRecDepth 100000 in
theorem CX.c6 (h : CX Q gb c w W) : W.cell? ⟨gb, 6, none⟩ = some (.int .i64 c.g) := cell_of_row _ gb 6 _ _ (0, 0) h.row
set_option maxRecDepth 100000 in
theorem cx_new (w : World) (c : Cl) : CX (fun _ => True) w.heap.size c w (w.alloc (.cells #[.int .i64 c.s0, .int .i64 c.s1, .int .i64 c.s2, .int .i64 c.s3, .int .i64 c.k, .int .i64 c.f, .int .i64 c.g] 26)) := ⟨(Below.refl _ _).alloc (Nat.le_refl _) _, heap_alloc_new _ _, fun _ _ _ _ => trivial, trivial⟩
end
set_option maxRecDepth 100000 in
theorem do1_len (x : Ic) (k g : Int) (v : VS) : (do1 x k g v).1.c.length = v.c.length := by
  unfold do1
  by_cases h0 : x.o = 0
  · rw [if_pos h0]
  rw [if_neg h0]
  by_cases h1 : x.o = 1
  · rw [if_pos h1]
  rw [if_neg h1]
  by_cases h2 : x.o = 2
  · rw [if_pos h2]
  rw [if_neg h2]
  by_cases h3 : x.o = 3
  · rw [if_pos h3]
  rw [if_neg h3]
  by_cases h4 : x.o = 4
  · rw [if_pos h4]
  rw [if_neg h4]
  by_cases h5 : x.o = 5
  · rw [if_pos h5]; exact List.length_set
  rw [if_neg h5]
  by_cases h6 : x.o = 6
  · rw [if_pos h6]
  rw [if_neg h6]
  by_cases h7 : x.o = 7
  · rw [if_pos h7]
  rw [if_neg h7]
  by_cases h15 : x.o = 15
  · rw [if_pos h15]
  rw [if_neg h15]
  by_cases h16 : x.o = 16
  · rw [if_pos h16]
  rw [if_neg h16]
  by_cases h17 : x.o = 17
  · rw [if_pos h17]
  rw [if_neg h17]
  by_cases h18 : x.o = 18
  · rw [if_pos h18]
  rw [if_neg h18]
  by_cases h19 : x.o = 19
  · rw [if_pos h19]
  rw [if_neg h19]
  cases jnd x.o (tpA v) (tpB v) with
  | some y => rfl
  | none => rfl
set_option maxRecDepth 100000 in
theorem vmF_len (l : List Ic) (k g : Int) : ∀ (f : Nat) (v : VS) (u : Nat), (vmF l k g f v u).2.1.length = v.c.length
  | 0, v, u => rfl
  | f + 1, v, u => by
    rcases do1_over (l.getD v.p ic0) k g v with h | h | h
    · rw [vmF_go h, vmF_len l k g f _ _, do1_len]
    · rw [vmF_ans h]; exact do1_len _ _ _ _
    · rw [vmF_ref h]
set_option maxRecDepth 100000 in
/-- a step, number by number -/
theorem stpV_form {l : List Ic} (h : (thr l).2.2 = 0) (s0 s1 s2 s3 k g f : Int) : ∃ K a b c d r u, stpV l [s0, s1, s2, s3] k g f = (K, [a, b, c, d], r, u) := by
  rw [stpV_yes h]
  unfold stpO'
  split
  · obtain ⟨a, b, c, d, e⟩ := four_list (vmF_len l k g f.toNat (vs0 [s0, s1, s2, s3]) 0)
    rw [e]; exact ⟨_, _, _, _, _, _, _, rfl⟩
  · exact ⟨_, _, _, _, _, _, _, rfl⟩
/-- a step as its seven numbers -/
def agS (K a b c d r u : Int) : Value := .agg #[.int .i64 K, .int .i64 a, .int .i64 b, .int .i64 c, .int .i64 d, .int .i64 r, .int .i64 u]
set_option maxRecDepth 100000 in
theorem stC_form (K a b c d r u : Int) : stC (K, [a, b, c, d], r, u) = .agg #[.int .i64 K, .int .i64 a, .int .i64 b, .int .i64 c, .int .i64 d, .int .i64 r, .int .i64 u] := rfl
set_option maxRecDepth 100000 in
theorem st_zero : (Try.prog.info? 38).map (fun i => i.zero.map (·.cells.size)) = some (some 7) := by kernel_rfl
set_option maxRecDepth 100000 in
theorem st_info : (Try.prog.info? 38).map (·.size) = some 7 := by kernel_rfl
set_option maxRecDepth 100000 in
theorem st_one (K a b c d r u : Int) : (#[Value.int .i64 K, .int .i64 a, .int .i64 b, .int .i64 c, .int .i64 d, .int .i64 r, .int .i64 u]).all (·.oneCell') = true := by simp [Value.oneCell']
/-- held, and new memory changes it not -/
structure HX (Q : World → Prop) (w W : World) : Prop where
  low : Below w.heap.size w W
  up : Up Q
  q : Q W
set_option maxRecDepth 100000 in
theorem HX.step {Q : World → Prop} {w W W' : World} (h : HX Q w W) (hb : Below W.heap.size W W') : HX Q w W' := ⟨bstep h.low hb, h.up, h.up _ _ h.q hb⟩
set_option maxRecDepth 100000 in
theorem up_row {g : Nat} {o : Obj} : Up (fun W => W.heap[g]? = some o) := fun W W' h hb => (hb.block g (Array.getElem?_eq_some_iff.1 h).1).trans h
set_option maxRecDepth 100000 in
theorem up_mc {gm gc cc : Nat} {l : List Ic} : Up (fun W => Mc W gm gc cc l) := fun W W' h hb => h.below hb
set_option maxRecDepth 100000 in
theorem up_size {N : Nat} : Up (fun W => N ≤ W.heap.size) := fun W W' h hb => Nat.le_trans h hb.size
set_option maxRecDepth 100000 in
theorem Up.and {P Q : World → Prop} (h : Up P) (k : Up Q) : Up (fun W => P W ∧ Q W) := fun W W' q hb => ⟨h _ _ q.1 hb, k _ _ q.2 hb⟩
set_option maxRecDepth 100000 in
theorem CX.put {Q : World → Prop} {gb : Nat} {c : Cl} {w W : World} (h : CX Q gb c w W) {z : Nat} {vs : List Value} (hz : w.heap.size ≤ z) (hne : gb ≠ z) (hq : Q (W.setCells z 0 vs)) : CX Q gb c w (W.setCells z 0 vs) := ⟨below_setCells h.low z hz vs 0, (setCells_other hne vs 0).trans h.row, h.up, hq⟩
set_option maxRecDepth 100000 in
theorem Mc.put {W : World} {gm gc cc : Nat} {l : List Ic} (h : Mc W gm gc cc l) {z : Nat} {vs : List Value} (h1 : gm ≠ z) (h2 : gc ≠ z) : Mc (W.setCells z 0 vs) gm gc cc l := h.keep (setCells_other h1 vs 0) (setCells_other h2 vs 0) (by rw [setCells_size]; exact Nat.le_refl _)
set_option maxRecDepth 100000 in
theorem CX.more {Q Q' : World → Prop} {gb : Nat} {c : Cl} {w W : World} (h : CX Q gb c w W) (hu : Up Q') (hq : Q' W) : CX Q' gb c w W := ⟨h.low, h.row, hu, hq⟩
end Go.Proofs.Ytpbdgacdbhabhaa
