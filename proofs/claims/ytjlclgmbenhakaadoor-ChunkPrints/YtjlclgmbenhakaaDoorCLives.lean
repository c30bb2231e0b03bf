/- That anything is read at all. -/
import Derived.Test.YtjlclgmbenhakaaDoorChunkWhole
namespace Go.Proofs.YtjlclgmbenhakaaDoor
open Go.RowKit
set_option linter.unusedVariables false

set_option maxRecDepth 100000 in
theorem live_run : whV 1 [49, 13, 10, 97, 13, 10, 48, 13, 10, 13, 10] = ([97], 11, 0) := by decide +kernel
set_option maxRecDepth 100000 in
set_option maxHeartbeats 400000 in
theorem lives_any (w : World) :
    Calls Tryd.prog 11 #[] w fun e w' => e = .returned (.bool true) ∧ Below w.heap.size w w' := by
  have hm : Bts (w.alloc (.cells #[.int .u8 49, .int .u8 13, .int .u8 10, .int .u8 97, .int .u8 13, .int .u8 10, .int .u8 48, .int .u8 13, .int .u8 10, .int .u8 13, .int .u8 10] 5 (11, 12))) (some ⟨w.heap.size, 0, none⟩) 11 11 [49, 13, 10, 97, 13, 10, 48, 13, 10, 13, 10] := bts_const w [49, 13, 10, 97, 13, 10, 48, 13, 10, 13, 10] (by intro c hc; simp only [List.mem_cons, List.not_mem_nil, or_false] at hc; omega) (11, 12) (by decide)
  have hcv : (convert 22 22 (.slice (some ⟨w.heap.size, 0, none⟩) 11 11)).run Tryd.prog (w.alloc (.cells #[.int .u8 49, .int .u8 13, .int .u8 10, .int .u8 97, .int .u8 13, .int .u8 10, .int .u8 48, .int .u8 13, .int .u8 10, .int .u8 13, .int .u8 10] 5)) = .ok (.slice (some ⟨w.heap.size, 0, none⟩) 11 11) (w.alloc (.cells #[.int .u8 49, .int .u8 13, .int .u8 10, .int .u8 97, .int .u8 13, .int .u8 10, .int .u8 48, .int .u8 13, .int .u8 10, .int .u8 13, .int .u8 10] 5 (11, 12))) := Lib.run_convert_bytes_const w _ _ _ 11 11 Tryd.underlying22 Tryd.underlying5
  have hb : Below w.heap.size w (w.alloc (.cells #[.int .u8 49, .int .u8 13, .int .u8 10, .int .u8 97, .int .u8 13, .int .u8 10, .int .u8 48, .int .u8 13, .int .u8 10, .int .u8 13, .int .u8 10] 5 (11, 12))) := (Below.refl _ _).alloc (Nat.le_refl _) _
  generalize w.alloc (.cells #[.int .u8 49, .int .u8 13, .int .u8 10, .int .u8 97, .int .u8 13, .int .u8 10, .int .u8 48, .int .u8 13, .int .u8 10, .int .u8 13, .int .u8 10] 5 (11, 12)) = w1 at hm hcv hb
  have HM := Bx.mk hm
  clear hm
  go_enter Tryd.func11, Tryd.ntmps11
  go_wp2_with fail
  refine (cwhole_any _ _ _ _ 1 _ HM.out).mono ?_
  rintro e w2 ⟨v, rfl, ho, hb2⟩
  rw [live_run] at ho ⊢
  obtain ⟨a, c, rfl, _⟩ := Bts.of_owns (l := [97]) ho (by intro c hc; simp only [List.mem_cons, List.not_mem_nil, or_false] at hc; omega)
  have HB := Bx.mk (bstep hb hb2)
  clear hcv HM ho hb hb2
  go_wp2
  go_ret
  exact ⟨rfl, HB.out⟩
end Go.Proofs.YtjlclgmbenhakaaDoor
