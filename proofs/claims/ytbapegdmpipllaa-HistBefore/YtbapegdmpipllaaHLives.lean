/- The law's lives. -/
import Derived.Test.YtbapegdmpipllaaHOpsW
namespace Go.Proofs.Ytbapegdmpipllaa
open Go.RowKit
set_option linter.unusedVariables false

set_option maxRecDepth 100000 in
theorem lives_chk : (chk [⟨0, true, 1, 5⟩]).2 = 0 := by decide
set_option maxRecDepth 100000 in
theorem lives_ops : opV [⟨0, true, 1, 5⟩] = [⟨0, 1, 5, false, 0, 0, -1⟩] := by rw [opV_ok lives_chk]; rfl
set_option maxHeartbeats 400000 in
theorem lives14_any (w : World) :
    Calls Try.prog 13 #[] w fun e w' => e = .returned (.bool true) ∧ Below w.heap.size w w' := by
  have hown : (w.alloc (.cells #[.int .i64 0, .bool true, .int .i64 1, .int .i64 5] 55)).ownsRow w.heap.size 55 4 (.slice (some ⟨w.heap.size, 0, none⟩) 1 1) 1 ([⟨0, true, 1, 5⟩].flatMap evC) := World.ownsRow_lit w #[.int .i64 0, .bool true, .int .i64 1, .int .i64 5] 1 (Nat.le_refl _) (by unfold maxLen; omega) rfl
  obtain ⟨ao, cap, e, hE⟩ := Ls.of_owns evC_len hown rfl
  cases e
  have HE := Bx.mk hE
  have HB : Bx (Below w.heap.size w (w.alloc (.cells #[.int .i64 0, .bool true, .int .i64 1, .int .i64 5] 55))) := ⟨(Below.refl _ _).alloc (Nat.le_refl _) _⟩
  clear hE hown
  go_enter Try.func13, Try.ntmps13
  go_wp2_with fail
  generalize w.alloc (.cells #[.int .i64 0, .bool true, .int .i64 1, .int .i64 5] 55) = w0 at HE HB ⊢
  refine (ops_any _ 1 1 _ _ HE.out).mono ?_
  rintro e w1 ⟨v, rfl, ho, hb⟩
  rw [lives_chk]
  rw [lives_ops] at ho
  obtain ⟨aO, cO, rfl, hO⟩ := Ls.of_owns orC_len ho rfl
  obtain ⟨b, off, rfl, _, _, _, x2, _, _, _, x6⟩ := hO.or 0 (by decide)
  have y2 : w1.cell? ⟨b, off + 2, none⟩ = some (.int .i64 5) := by simpa using x2
  have y6 : w1.cell? ⟨b, off + 6, none⟩ = some (.int .i64 (-1)) := by simpa using x6
  have HF := Bx.mk (bstep HB.out hb)
  clear x2 x6 hO ho hb HB HE
  go_wp2_with fail
  go_ret
  exact ⟨rfl, HF.out⟩
end Go.Proofs.Ytbapegdmpipllaa
