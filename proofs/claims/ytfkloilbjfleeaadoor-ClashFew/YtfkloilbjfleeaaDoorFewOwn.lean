/- Few's answer as a row of its own; sums of no bits. -/
import Derived.Test.YtfkloilbjfleeaaDoorSme
import Derived.Test.YtfkloilbjfleeaaDoorLaw7
namespace Go.Proofs.YtfkloilbjfleeaaDoor
open Go.RowKit
set_option linter.unusedVariables false

set_option maxRecDepth 100000 in
set_option maxHeartbeats 400000 in
theorem few_own (a : Option Addr) (len cap n : Nat) (L : List (List Int)) (w : World) (hL : Dgs w a len cap L) (hn : n ≤ 1000) :
    Calls Tryd.prog 13 #[.slice a len cap, .int .i64 n] w fun e w' => ∃ v, e = .returned v ∧ ∃ M, Dgl M ∧ M.length ≤ n ∧ w'.ownsRow w.heap.size 42 32 v M.length (bv M.flatten) ∧ Below w.heap.size w w' := by
  have hll := hL.len_eq
  have hcc := hL.le_cap
  have hcm := hL.cap_le
  unfold maxLen at hcm
  have hnil : w.ownsRow w.heap.size 42 32 (.slice none 0 0) 0 (bv (([] : List (List Int)).flatten)) := World.ownsRow_nil _ _ _ _
  by_cases hgt : (n : Int) < (len : Int)
  · have hT := hL.take n (by omega)
    obtain ⟨b, off, rfl, _, _⟩ := hL.spot (by omega)
    have hsl := dgs_cut b off len cap n (by omega)
    have HTL : Hid ((L.take n).length = n) := hT.len_eq
    have HTD : Hid (Dgl (L.take n)) := hT.dig
    clear hL hll
    go_enter Tryd.func13, Tryd.ntmps13
    go_wp2_with (at_builtin; refine wpList_append_dgs rfl (.tmp 13) (.tmp 14) rfl w.heap.size 0 _ [] rfl hnil _ n cap (L.take n) rfl hT (by omega) (Nat.le_refl _) ?_; intro v' w' ho' hb' _; rw [List.nil_append, Nat.zero_add] at ho'; clear hT)
    go_ret
    exact ⟨_, rfl, L.take n, HTD.out, by rw [HTL.out]; exact Nat.le_refl _, by rw [HTL.out]; exact ho', hb'⟩
  · have HTL : Hid (L.length = len) := hll
    have HTD : Hid (Dgl L) := hL.dig
    clear hll
    go_enter Tryd.func13, Tryd.ntmps13
    go_wp2_with (at_builtin; refine wpList_append_dgs rfl (.tmp 13) (.tmp 14) rfl w.heap.size 0 _ [] rfl hnil a len cap L rfl hL (by omega) (Nat.le_refl _) ?_; intro v' w' ho' hb' _; rw [List.nil_append, Nat.zero_add] at ho'; clear hL)
    go_ret
    exact ⟨_, rfl, L, HTD.out, by rw [HTL.out]; omega, by rw [HTL.out]; exact ho', hb'⟩
set_option maxRecDepth 100000 in
theorem cut_zero {d : List Int} (hd : Dg d) : cutL d 0 = List.replicate 32 0 := cutN_zero d hd
set_option maxRecDepth 100000 in
theorem leaf_zero (b : List Int) : leafL b 0 = List.replicate 32 0 := cut_zero ⟨sumL_length _, sum_byt _⟩
set_option maxRecDepth 100000 in
theorem node_zero (x y : List Int) : nodeL x y 0 = List.replicate 32 0 := cut_zero ⟨sumL_length _, sum_byt _⟩
set_option maxRecDepth 100000 in
theorem up_zero : ∀ (rs : List Bool) (ps : List (List Int)), upL 0 rs ps (List.replicate 32 0) = List.replicate 32 0 := by
  intro rs
  induction rs with
  | nil => intro ps; rw [upL_nil]
  | cons c r ih =>
    intro ps
    cases ps with
    | nil => rfl
    | cons q qs =>
      show upL 0 r qs _ = _
      have h : (if c then nodeL q (List.replicate 32 0) 0 else nodeL (List.replicate 32 0) q 0) = List.replicate 32 0 := by split <;> exact node_zero _ _
      rw [h]; exact ih qs
set_option maxRecDepth 100000 in
theorem root_zero (T : List (List Int)) (h : 1 ≤ T.length) : rootL (leavesL T 0) 0 = List.replicate 32 0 := by
  have hl := leavesL_len T 0
  by_cases h1 : T.length = 1
  · rw [rootL_one _ _ (by omega), leavesL_getD T 0 0 (by omega), leaf_zero]
  · rw [rootL_more _ _ (by omega), node_zero]
set_option maxRecDepth 100000 in
theorem must_zero (T : List (List Int)) (j : Nat) (lf : List Int) (P : List (List Int)) (hj : j < T.length) (hP : P.length = (stepsL T.length j).length) : mustP T (j : Int) lf P 0 = !decide (lf = T.getD j []) := by
  unfold mustP chkP
  rw [show ((j : Int)).toNat = j from by omega, show ((T.length : Int)).toNat = T.length from by omega, leaf_zero, up_zero, root_zero T (by omega), hP]
  by_cases h : lf = T.getD j []
  · rw [decide_eq_false (p := 0 ≤ (j : Int) ∧ (j : Int) < (T.length : Int) ∧ T.getD j [] ≠ lf) (fun k => k.2.2 h.symm), decide_eq_true h]; rfl
  · rw [decide_eq_true (p := 0 ≤ (j : Int) ∧ (j : Int) < (T.length : Int) ∧ T.getD j [] ≠ lf) ⟨by omega, by omega, fun k => h k.symm⟩, decide_eq_false h]
    simp; omega
end Go.Proofs.YtfkloilbjfleeaaDoor
