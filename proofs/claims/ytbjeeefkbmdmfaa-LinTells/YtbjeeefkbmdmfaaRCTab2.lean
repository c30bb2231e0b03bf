/- What the document's own Takes, Puts, number answer. -/
import Derived.Test.YtbjeeefkbmdmfaaRCTab
namespace Go.Proofs.Ytbjeeefkbmdmfaa
open Go.RowKit
set_option linter.unusedVariables false

set_option maxRecDepth 100000 in
theorem row_fld (a b c d : Int) (w : World) : (Instr.field 144 (.agg #[.int .i64 a, .int .i64 b, .int .i64 c, .int .i64 d]) 0).run Try.prog w = .ok (.int .i64 a) w ∧ (Instr.field 144 (.agg #[.int .i64 a, .int .i64 b, .int .i64 c, .int .i64 d]) 1).run Try.prog w = .ok (.int .i64 b) w ∧ (Instr.field 144 (.agg #[.int .i64 a, .int .i64 b, .int .i64 c, .int .i64 d]) 2).run Try.prog w = .ok (.int .i64 c) w ∧ (Instr.field 144 (.agg #[.int .i64 a, .int .i64 b, .int .i64 c, .int .i64 d]) 3).run Try.prog w = .ok (.int .i64 d) w := by
  refine ⟨?_, ?_, ?_, ?_⟩
  · kernel_rfl
  · kernel_rfl
  · kernel_rfl
  · kernel_rfl
set_option maxRecDepth 100000 in
theorem opNat {o : Int} (h : isO o = true) : ∃ k : Nat, o = (k : Int) ∧ k ≤ 19 := by
  have := (isO_iff o).1 h
  exact ⟨o.toNat, by omega, by omega⟩

set_option maxHeartbeats 2000000 in
theorem number_any (o : Nat) (n : Int) (m : Nat) (w : World) (ho : o ≤ 19) (hm : m ≤ 1000000) :
    Calls Try.prog 71 #[.agg #[.int .i64 o, .int .i64 n], .int .i64 m] w fun e w' => e = .returned (.bool (numB ⟨o, n⟩ m)) ∧ Below w.heap.size w w' := by
  have hbl : Below w.heap.size w (w.alloc (.cells #[.int .i64 (o : Int), .int .i64 n] 77)) := (Below.refl _ _).alloc (Nat.le_refl _) _
  have HB := Bx.mk hbl
  have HR := Bx.mk (heap_alloc_new w (.cells #[.int .i64 (o : Int), .int .i64 n] 77))
  obtain ⟨g, HG⟩ : ∃ g, Bx (w.heap.size = g) := ⟨_, ⟨rfl⟩⟩
  have hbd := tbl_bd ((isO_iff (o : Int)).2 (by omega))
  clear hbl
  rcases (by omega : nkO o = 0 ∨ nkO o = 1 ∨ nkO o = 2 ∨ nkO o = 3) with hk | hk | hk | hk
  · have HF : Bx (numB ⟨o, n⟩ m = (n == 0)) := ⟨by unfold numB; rw [hk]; by_cases h : n = 0 <;> simp [h]⟩
    rw [HF.out]
    rw [HG.out] at HR
    -- by cases of what N may be
    go_enter Try.func71, Try.ntmps71
    go_wp2_with fail
    rw [HG.out]
    generalize w.alloc (.cells #[.int .i64 (o : Int), .int .i64 n] 77) = w0 at HB HR ⊢
    refine (table_any o _ ho).mono ?_
    rintro e w1 ⟨rfl, hb1⟩
    have hr1 : w1.heap[g]? = _ := (hb1.block g (Array.getElem?_eq_some_iff.1 HR.out).1).trans HR.out
    have x1 := cell_of_row _ _ 1 _ _ (0, 0) hr1
    have HB1 := Bx.mk (bstep HB.out hb1)
    rw [hk]
    have hf := fun w => (row_fld 0 (tkO o) (ptO o) (thO o) w).1
    clear hr1 hb1 HR HB
    go_wp2_with fail
    go_ret
    exact ⟨rfl, HB1.out⟩
  · have HF : Bx (numB ⟨o, n⟩ m = true) := ⟨by unfold numB; rw [hk]; rfl⟩
    rw [HF.out]
    rw [HG.out] at HR
    -- by cases of what N may be
    go_enter Try.func71, Try.ntmps71
    go_wp2_with fail
    rw [HG.out]
    generalize w.alloc (.cells #[.int .i64 (o : Int), .int .i64 n] 77) = w0 at HB HR ⊢
    refine (table_any o _ ho).mono ?_
    rintro e w1 ⟨rfl, hb1⟩
    have hr1 : w1.heap[g]? = _ := (hb1.block g (Array.getElem?_eq_some_iff.1 HR.out).1).trans HR.out
    have x1 := cell_of_row _ _ 1 _ _ (0, 0) hr1
    have HB1 := Bx.mk (bstep HB.out hb1)
    rw [hk]
    have hf := fun w => (row_fld 1 (tkO o) (ptO o) (thO o) w).1
    clear hr1 hb1 HR HB
    go_wp2_with fail
    go_ret
    exact ⟨rfl, HB1.out⟩
  · by_cases h0 : 0 ≤ n
    · have HF : Bx (numB ⟨o, n⟩ m = decide (n ≤ 3)) := ⟨by unfold numB; rw [hk]; simp [h0]⟩
      rw [HF.out]
      rw [HG.out] at HR
      -- by cases of what N may be
      go_enter Try.func71, Try.ntmps71
      go_wp2_with fail
      rw [HG.out]
      generalize w.alloc (.cells #[.int .i64 (o : Int), .int .i64 n] 77) = w0 at HB HR ⊢
      refine (table_any o _ ho).mono ?_
      rintro e w1 ⟨rfl, hb1⟩
      have hr1 : w1.heap[g]? = _ := (hb1.block g (Array.getElem?_eq_some_iff.1 HR.out).1).trans HR.out
      have x1 := cell_of_row _ _ 1 _ _ (0, 0) hr1
      have HB1 := Bx.mk (bstep HB.out hb1)
      rw [hk]
      have hf := fun w => (row_fld 2 (tkO o) (ptO o) (thO o) w).1
      clear hr1 hb1 HR HB
      go_wp2_with fail
      go_ret
      exact ⟨rfl, HB1.out⟩
    · have HF : Bx (numB ⟨o, n⟩ m = false) := ⟨by unfold numB; rw [hk]; simp; omega⟩
      rw [HF.out]
      rw [HG.out] at HR
      -- by cases of what N may be
      go_enter Try.func71, Try.ntmps71
      go_wp2_with fail
      rw [HG.out]
      generalize w.alloc (.cells #[.int .i64 (o : Int), .int .i64 n] 77) = w0 at HB HR ⊢
      refine (table_any o _ ho).mono ?_
      rintro e w1 ⟨rfl, hb1⟩
      have hr1 : w1.heap[g]? = _ := (hb1.block g (Array.getElem?_eq_some_iff.1 HR.out).1).trans HR.out
      have x1 := cell_of_row _ _ 1 _ _ (0, 0) hr1
      have HB1 := Bx.mk (bstep HB.out hb1)
      rw [hk]
      have hf := fun w => (row_fld 2 (tkO o) (ptO o) (thO o) w).1
      clear hr1 hb1 HR HB
      go_wp2_with fail
      go_ret
      exact ⟨rfl, HB1.out⟩
  · by_cases h0 : 0 ≤ n
    · have HF : Bx (numB ⟨o, n⟩ m = decide (n < (m : Int))) := ⟨by unfold numB; rw [hk]; simp [h0]⟩
      rw [HF.out]
      rw [HG.out] at HR
      -- by cases of what N may be
      go_enter Try.func71, Try.ntmps71
      go_wp2_with fail
      rw [HG.out]
      generalize w.alloc (.cells #[.int .i64 (o : Int), .int .i64 n] 77) = w0 at HB HR ⊢
      refine (table_any o _ ho).mono ?_
      rintro e w1 ⟨rfl, hb1⟩
      have hr1 : w1.heap[g]? = _ := (hb1.block g (Array.getElem?_eq_some_iff.1 HR.out).1).trans HR.out
      have x1 := cell_of_row _ _ 1 _ _ (0, 0) hr1
      have HB1 := Bx.mk (bstep HB.out hb1)
      rw [hk]
      have hf := fun w => (row_fld 3 (tkO o) (ptO o) (thO o) w).1
      clear hr1 hb1 HR HB
      go_wp2_with fail
      go_ret
      exact ⟨rfl, HB1.out⟩
    · have HF : Bx (numB ⟨o, n⟩ m = false) := ⟨by unfold numB; rw [hk]; simp; omega⟩
      rw [HF.out]
      rw [HG.out] at HR
      -- by cases of what N may be
      go_enter Try.func71, Try.ntmps71
      go_wp2_with fail
      rw [HG.out]
      generalize w.alloc (.cells #[.int .i64 (o : Int), .int .i64 n] 77) = w0 at HB HR ⊢
      refine (table_any o _ ho).mono ?_
      rintro e w1 ⟨rfl, hb1⟩
      have hr1 : w1.heap[g]? = _ := (hb1.block g (Array.getElem?_eq_some_iff.1 HR.out).1).trans HR.out
      have x1 := cell_of_row _ _ 1 _ _ (0, 0) hr1
      have HB1 := Bx.mk (bstep HB.out hb1)
      rw [hk]
      have hf := fun w => (row_fld 3 (tkO o) (ptO o) (thO o) w).1
      clear hr1 hb1 HR HB
      go_wp2_with fail
      go_ret
      exact ⟨rfl, HB1.out⟩
end Go.Proofs.Ytbjeeefkbmdmfaa
