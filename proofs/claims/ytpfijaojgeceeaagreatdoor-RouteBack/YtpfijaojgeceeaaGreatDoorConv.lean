/- '[]byte(s)': new memory. -/
import Derived.Test.YtpfijaojgeceeaaGreatDoorAuas
import Derived.Lib.ConvBytes
namespace Go.Proofs.YtpfijaojgeceeaaGreatDoor
open Go.RowKit
set_option linter.unusedVariables false

set_option maxRecDepth 100000 in
theorem bytes_low (w : World) (e : TypeId) (s : ByteArray) : Below w.heap.size w (Lib.bytesWorld w e s) :=
  ⟨rfl, rfl, rfl, by rw [Lib.bytesWorld_size]; omega, fun k hk => Lib.bytesWorld_at_old w e s k hk⟩
set_option maxRecDepth 100000 in
theorem bytes_bts (w : World) (s : ByteArray) (hs : s.size ≤ maxLen) : Bts (Lib.bytesWorld w 5 s) (some ⟨w.heap.size, 0, none⟩) s.size (grownCap w s.size 0 5) (strL s) := by
  refine ⟨strL_length s, strL_byt s, grownCap_ge _ _ _ _, grownCap_le_maxLen _ _ _ _ hs, (fun hh => by cases hh), fun _ => ⟨w.heap.size, 0, rfl, by rw [Lib.bytesWorld_size]; omega, fun i hi => ?_⟩⟩
  rw [Nat.zero_add, Lib.bytesWorld_cell w 5 s i hi, strL_getD s i hi]
set_option maxRecDepth 100000 in
/-- '[]byte(s)': new memory -/
theorem conv_bytes (w : World) (s : ByteArray) (hs : s.size ≤ maxLen) : ∃ c w2, (convert 9 22 (.string s)).run Tryz.prog w = .ok (.slice (some ⟨w.heap.size, 0, none⟩) s.size c) w2 ∧ Below w.heap.size w w2 ∧ Bts w2 (some ⟨w.heap.size, 0, none⟩) s.size c (strL s) :=
  ⟨_, _, Lib.run_convert_string_bytes (P := Tryz.prog) w 9 22 5 s Tryz.underlying9 Tryz.underlying22 Tryz.underlying5, bytes_low w _ s, bytes_bts w s hs⟩
end Go.Proofs.YtpfijaojgeceeaaGreatDoor
