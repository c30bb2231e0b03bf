/- What stays when new memory is made; steps as values. No walk. -/
import Derived.Test.YtckgplemdmgekaaVStep
import Derived.Test.YtckgplemdmgekaaUpMem
namespace Go.Proofs.Ytckgplemdmgekaa
open Go.RowKit
set_option linter.unusedVariables false

set_option maxRecDepth 100000 in
theorem do1_len (x : Ic) (k g : Int) (v : VS) : (do1 x k g v).1.c.length = v.c.length := by
  unfold do1
  by_cases h0 : x.o = 0
  · rw [if_pos h0]
  rw [if_neg h0]
  by_cases h1 : x.o = 1
  · rw [if_pos h1]
  rw [if_neg h1]
  by_cases h2 : x.o = 2
  · rw [if_pos h2]
  rw [if_neg h2]
  by_cases h3 : x.o = 3
  · rw [if_pos h3]
  rw [if_neg h3]
  by_cases h4 : x.o = 4
  · rw [if_pos h4]
  rw [if_neg h4]
  by_cases h5 : x.o = 5
  · rw [if_pos h5]; exact List.length_set
  rw [if_neg h5]
  by_cases h6 : x.o = 6
  · rw [if_pos h6]
  rw [if_neg h6]
  by_cases h7 : x.o = 7
  · rw [if_pos h7]
  rw [if_neg h7]
  by_cases h15 : x.o = 15
  · rw [if_pos h15]
  rw [if_neg h15]
  by_cases h16 : x.o = 16
  · rw [if_pos h16]
  rw [if_neg h16]
  by_cases h17 : x.o = 17
  · rw [if_pos h17]
  rw [if_neg h17]
  by_cases h18 : x.o = 18
  · rw [if_pos h18]
  rw [if_neg h18]
  by_cases h19 : x.o = 19
  · rw [if_pos h19]
  rw [if_neg h19]
  cases jnd x.o (tpA v) (tpB v) with
  | some y => rfl
  | none => rfl
set_option maxRecDepth 100000 in
theorem vmF_len (l : List Ic) (k g : Int) : ∀ (f : Nat) (v : VS) (u : Nat), (vmF l k g f v u).2.1.length = v.c.length
  | 0, v, u => rfl
  | f + 1, v, u => by
    rcases do1_over (l.getD v.p ic0) k g v with h | h | h
    · rw [vmF_go h, vmF_len l k g f _ _, do1_len]
    · rw [vmF_ans h]; exact do1_len _ _ _ _
    · rw [vmF_ref h]
set_option maxRecDepth 100000 in
/-- a step, number by number -/
theorem stpV_form {l : List Ic} (h : (thr l).2.2 = 0) (s0 s1 s2 s3 k g f : Int) : ∃ K a b c d r u, stpV l [s0, s1, s2, s3] k g f = (K, [a, b, c, d], r, u) := by
  rw [stpV_yes h]
  unfold stpO'
  split
  · obtain ⟨a, b, c, d, e⟩ := four_list (vmF_len l k g f.toNat (vs0 [s0, s1, s2, s3]) 0)
    rw [e]; exact ⟨_, _, _, _, _, _, _, rfl⟩
  · exact ⟨_, _, _, _, _, _, _, rfl⟩
/-- a step as its seven numbers -/
def agS (K a b c d r u : Int) : Value := .agg #[.int .i64 K, .int .i64 a, .int .i64 b, .int .i64 c, .int .i64 d, .int .i64 r, .int .i64 u]
set_option maxRecDepth 100000 in
theorem stC_form (K a b c d r u : Int) : stC (K, [a, b, c, d], r, u) = .agg #[.int .i64 K, .int .i64 a, .int .i64 b, .int .i64 c, .int .i64 d, .int .i64 r, .int .i64 u] := rfl
set_option maxRecDepth 100000 in
theorem st_zero : (Try.prog.info? 63).map (fun i => i.zero.map (·.cells.size)) = some (some 7) := by kernel_rfl
set_option maxRecDepth 100000 in
theorem st_info : (Try.prog.info? 63).map (·.size) = some 7 := by kernel_rfl
set_option maxRecDepth 100000 in
theorem st_one (K a b c d r u : Int) : (#[Value.int .i64 K, .int .i64 a, .int .i64 b, .int .i64 c, .int .i64 d, .int .i64 r, .int .i64 u]).all (·.oneCell') = true := by simp [Value.oneCell']
set_option maxRecDepth 100000 in
theorem up_mc {gm gc cc : Nat} {l : List Ic} : Up (fun W => Mc W gm gc cc l) := fun W W' h hb => h.below hb
set_option maxRecDepth 100000 in
theorem Mc.put {W : World} {gm gc cc : Nat} {l : List Ic} (h : Mc W gm gc cc l) {z : Nat} {vs : List Value} (h1 : gm ≠ z) (h2 : gc ≠ z) : Mc (W.setCells z 0 vs) gm gc cc l := h.keep (setCells_other h1 vs 0) (setCells_other h2 vs 0) (by rw [setCells_size]; exact Nat.le_refl _)
end Go.Proofs.Ytckgplemdmgekaa
