/- The law's lives. -/
import Derived.Test.YtcghebgdieilgaaCMeas
namespace Go.Proofs.Ytcghebgdieilgaa
open Go.RowKit
set_option linter.unusedVariables false

set_option maxRecDepth 100000 in
theorem lives15_a : (thr [⟨1, 0⟩]).2.2 = 3 := by decide
set_option maxRecDepth 100000 in
theorem lives15_b : (thr [⟨19, 0⟩]).1.length = 1 := by decide
set_option maxRecDepth 100000 in
theorem one_ins (w : World) (o : Int) : Ics (w.alloc (.cells #[.int .i64 o, .int .i64 0] 52)) (some ⟨w.heap.size, 0, none⟩) 1 1 [⟨o, 0⟩] := by
  have hown : (w.alloc (.cells #[.int .i64 o, .int .i64 0] 52)).ownsRow w.heap.size 52 2 (.slice (some ⟨w.heap.size, 0, none⟩) 1 1) 1 ([(⟨o, 0⟩ : Ic)].flatMap icC) := World.ownsRow_lit w #[.int .i64 o, .int .i64 0] 1 (Nat.le_refl _) (by unfold maxLen; omega) rfl
  obtain ⟨ao, cap, e, hE⟩ := Ls.of_owns icC_len hown rfl
  cases e
  exact hE
set_option maxHeartbeats 1000000 in
theorem lives15_any (w : World) :
    Calls Try.prog 13 #[] w fun e w' => e = .returned (.bool true) ∧ Below w.heap.size w w' := by
  have HE := Bx.mk (one_ins w 1)
  have HB : Bx (Below w.heap.size w (w.alloc (.cells #[.int .i64 1, .int .i64 0] 52))) := ⟨(Below.refl _ _).alloc (Nat.le_refl _) _⟩
  go_enter Try.func13, Try.ntmps13
  go_wp2_with fail
  generalize hW : w.alloc (.cells #[.int .i64 1, .int .i64 0] 52) = w0 at HE HB ⊢
  clear hW
  refine (check15_any _ 1 1 _ _ HE.out).mono ?_
  rintro e w1 ⟨rfl, hb1⟩
  rw [lives15_a]
  have HB1 := Bx.mk (bstep HB.out hb1)
  have HE1 := Bx.mk (one_ins w1 19)
  have HB2 : Bx (Below w.heap.size w (w1.alloc (.cells #[.int .i64 19, .int .i64 0] 52))) := ⟨HB1.out.alloc HB1.out.size _⟩
  generalize (thr [⟨1, 0⟩]).2.1 = p
  clear hb1 HB HE HB1
  go_wp2_with fail
  generalize hW : w1.alloc (.cells #[.int .i64 19, .int .i64 0] 52) = w2 at HE1 HB2 ⊢
  clear hW
  refine (depths_any _ 1 1 _ _ HE1.out).mono ?_
  rintro e w3 ⟨v, rfl, ho, hb3⟩
  rw [lives15_b] at ho
  obtain ⟨gv, cv, rfl, _⟩ := owns_form ho (Nat.le_refl _)
  have HF := Bx.mk (bstep HB2.out hb3)
  clear ho hb3 HB2 HE1
  go_wp2_with fail
  go_ret
  exact ⟨rfl, HF.out⟩
end Go.Proofs.Ytcghebgdieilgaa
