/- The cells that a step leaves are int64s. No walk. -/
import Derived.Test.YtckgplemdmgekaaVmLaws
namespace Go.Proofs.Ytckgplemdmgekaa
open Go.RowKit
set_option linter.unusedVariables false

set_option maxRecDepth 100000 in
theorem do1_c (x : Ic) (k g : Int) (v : VS) : (do1 x k g v).1.c = v.c ∨ (do1 x k g v).1.c = v.c.set x.n.toNat (tpB v) := by
  unfold do1
  by_cases h0 : x.o = 0
  · rw [if_pos h0]; exact .inl rfl
  rw [if_neg h0]
  by_cases h1 : x.o = 1
  · rw [if_pos h1]; exact .inl rfl
  rw [if_neg h1]
  by_cases h2 : x.o = 2
  · rw [if_pos h2]; exact .inl rfl
  rw [if_neg h2]
  by_cases h3 : x.o = 3
  · rw [if_pos h3]; exact .inl rfl
  rw [if_neg h3]
  by_cases h4 : x.o = 4
  · rw [if_pos h4]; exact .inl rfl
  rw [if_neg h4]
  by_cases h5 : x.o = 5
  · rw [if_pos h5]; exact .inr rfl
  rw [if_neg h5]
  by_cases h6 : x.o = 6
  · rw [if_pos h6]; exact .inl rfl
  rw [if_neg h6]
  by_cases h7 : x.o = 7
  · rw [if_pos h7]; exact .inl rfl
  rw [if_neg h7]
  by_cases h15 : x.o = 15
  · rw [if_pos h15]; exact .inl rfl
  rw [if_neg h15]
  by_cases h16 : x.o = 16
  · rw [if_pos h16]; exact .inl rfl
  rw [if_neg h16]
  by_cases h17 : x.o = 17
  · rw [if_pos h17]; exact .inl rfl
  rw [if_neg h17]
  by_cases h18 : x.o = 18
  · rw [if_pos h18]; exact .inl rfl
  rw [if_neg h18]
  by_cases h19 : x.o = 19
  · rw [if_pos h19]; exact .inl rfl
  rw [if_neg h19]
  cases jnd x.o (tpA v) (tpB v) with
  | some y => exact .inl rfl
  | none => exact .inl rfl
set_option maxRecDepth 100000 in
theorem do1_cv {x : Ic} {k g : Int} {v : VS} (h1 : ∀ y ∈ v.c, V64 y) (h2 : ∀ y ∈ v.s, V64 y) : ∀ y ∈ (do1 x k g v).1.c, V64 y := by
  intro y hy
  rcases do1_c x k g v with e | e
  · rw [e] at hy; exact h1 y hy
  · rw [e] at hy
    rcases List.mem_or_eq_of_mem_set hy with hy | rfl
    · exact h1 y hy
    · exact tpB_in h2
set_option maxRecDepth 100000 in
theorem vmF_cv {l : List Ic} {D : List Int} {k g : Int} (hF : Flow l D) (hc : ∀ q, q < l.length → canI l.length (l.getD q ic0) = true) (hn : ∀ q, q < l.length → V64 (l.getD q ic0).n) (hk : V64 k) (hg : V64 g) : ∀ (f : Nat) (v : VS) (u : Nat), VI l D v → ∀ y ∈ (vmF l k g f v u).2.1, V64 y
  | 0, v, u, h => h.cv
  | f + 1, v, u, h => by
    rcases do1_over (l.getD v.p ic0) k g v with e | e | e
    · rw [vmF_go e]; exact vmF_cv hF hc hn hk hg f _ _ (h.step hF hc hn hk hg e)
    · rw [vmF_ans e]; exact do1_cv h.cv h.sv
    · rw [vmF_ref e]; exact h.cv
set_option maxRecDepth 100000 in
/-- the cells behind a step -/
theorem stpV_cv {l : List Ic} (h : (thr l).2.2 = 0) (hl : ∀ x ∈ l, V64 x.n) {S : List Int} (hS : S.length = 4) (hv : ∀ y ∈ S, V64 y) {k g : Int} (hk : V64 k) (hg : V64 g) (f : Int) : ∀ y ∈ (stpV l S k g f).2.1, V64 y := by
  obtain ⟨h1, _, h3, h4⟩ := thr_flow h
  rw [stpV_yes h]
  unfold stpO'
  split
  · exact vmF_cv h4 h3 (fun q hq => by rw [List.getD_eq_getElem?_getD, List.getElem?_eq_getElem hq]; exact hl _ (List.getElem_mem hq)) hk hg _ _ _ (vi_zero h4 h1 hS hv)
  · exact hv
set_option maxRecDepth 100000 in
theorem four_in {a b c d : Int} (h : ∀ y ∈ [a, b, c, d], V64 y) : V64 a ∧ V64 b ∧ V64 c ∧ V64 d := ⟨h a (by simp), h b (by simp), h c (by simp), h d (by simp)⟩
set_option maxRecDepth 100000 in
theorem in_four {a b c d : Int} (h : V64 a ∧ V64 b ∧ V64 c ∧ V64 d) : ∀ y ∈ [a, b, c, d], V64 y := fun y hy => by
  simp only [List.mem_cons, List.not_mem_nil, or_false] at hy
  rcases hy with rfl | rfl | rfl | rfl
  · exact h.1
  · exact h.2.1
  · exact h.2.2.1
  · exact h.2.2.2
end Go.Proofs.Ytckgplemdmgekaa
