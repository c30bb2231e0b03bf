/- The document's own: whether two verdicts are the same. -/
import Derived.Test.YtbjeeefkbmdmfaaLnn
import Derived.Test.YtbjeeefkbmdmfaaLnh
namespace Go.Proofs.Ytbjeeefkbmdmfaa
open Go.RowKit
set_option linter.unusedVariables false

set_option maxHeartbeats 4000000 in
set_option maxRecDepth 100000 in
theorem refsame18_yes (k t : Int) (a b : Option Addr) (n m c d : Nat) (L : List Int) (w : World) (ha : Ivs w a n c L) (hb : Ivs w b m d L) :
    Calls Try.prog 19 #[.agg #[.int .i64 k, .slice a n c, .int .i64 t], .agg #[.int .i64 k, .slice b m d, .int .i64 t]] w fun e w' => e = .returned (.bool true) ∧ Below w.heap.size w w' := by
  have H1 := Bx.mk ha
  have H2 := Bx.mk hb
  obtain ⟨g1, HG1⟩ : ∃ g1, Bx (g1 = w.heap.size) := ⟨_, ⟨rfl⟩⟩
  obtain ⟨r1, r2, hb0⟩ := two_new w (.cells #[.int .i64 k, .slice a n c, .int .i64 t] 39) (.cells #[.int .i64 k, .slice b m d, .int .i64 t] 39)
  rw [← HG1.out] at r1 r2
  have HR1 := Bx.mk r1
  have HR2 := Bx.mk r2
  have HB0 := Bx.mk hb0
  have hk : (k == k) = true := by simp
  have ht : (t == t) = true := by simp
  clear ha hb r1 r2 hb0
  go_enter Try.func19, Try.ntmps19
  go_upto_region 1 with fail
  rw [← HG1.out]
  generalize (w.alloc (.cells #[.int .i64 k, .slice a n c, .int .i64 t] 39)).alloc (.cells #[.int .i64 k, .slice b m d, .int .i64 t] 39) = w0 at HR1 HR2 HB0 ⊢
  have x0 := cell_of_row _ g1 0 _ _ (0, 0) HR1.out
  have x1 := cell_of_row _ g1 1 _ _ (0, 0) HR1.out
  have x2 := cell_of_row _ g1 2 _ _ (0, 0) HR1.out
  have y0 := cell_of_row _ (g1 + 1) 0 _ _ (0, 0) HR2.out
  have y1 := cell_of_row _ (g1 + 1) 1 _ _ (0, 0) HR2.out
  have y2 := cell_of_row _ (g1 + 1) 2 _ _ (0, 0) HR2.out
  have HI1 := Bx.mk (H1.out.below HB0.out)
  have HI2 := Bx.mk (H2.out.below HB0.out)
  go_wp2_with fail
  refine (ints15_yes a b n m c d L _ HI1.out HI2.out).mono ?_
  rintro e w1 ⟨rfl, hb1⟩
  have HB1 := Bx.mk (bstep HB0.out hb1)
  clear hb1 x0 x1 x2 y0 y1 y2
  go_wp2_with fail
  go_ret
  exact ⟨rfl, HB1.out⟩
end Go.Proofs.Ytbjeeefkbmdmfaa
