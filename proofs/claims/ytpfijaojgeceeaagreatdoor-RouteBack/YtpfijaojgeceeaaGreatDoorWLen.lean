/- The line that says how many bytes a body has. -/
import Derived.Test.YtpfijaojgeceeaaGreatDoorWDoor
import Derived.Test.YtpfijaojgeceeaaGreatDoorAuap
import Derived.Test.YtpfijaojgeceeaaGreatDoorAuad
namespace Go.Proofs.YtpfijaojgeceeaaGreatDoor
open Go.RowKit
set_option linter.unusedVariables false

set_option maxHeartbeats 400000 in
theorem wlenl_any (n : Nat) (hn : n < 1000000) (w : World) (ht : Tens w) :
    Calls Tryz.prog 31 #[.int .i64 (n : Int)] w fun e w' => e = .returned (.string (lenB n)) ∧ Below w.heap.size w w' := by
  have C1 : Hid (Calls Tryz.prog 42 #[.int .i64 (n : Int)] w fun e w' => e = .returned (.string (decB n)) ∧ Below w.heap.size w w') := dec_any (n : Int) (by omega) (by omega) w ht
  have hs := decB_size n hn
  have HL : Bx (lenB n = (⟨#[67, 111, 110, 116, 101, 110, 116, 45, 76, 101, 110, 103, 116, 104, 58, 32]⟩ ++ decB n) ++ ⟨#[13, 10]⟩) := ⟨rfl⟩
  generalize lenB n = R at HL ⊢
  generalize decB n = D at *
  have hs2 : ((⟨#[67, 111, 110, 116, 101, 110, 116, 45, 76, 101, 110, 103, 116, 104, 58, 32]⟩ : ByteArray) ++ D).size ≤ 22 := by rw [size_append]; have : (⟨#[67, 111, 110, 116, 101, 110, 116, 45, 76, 101, 110, 103, 116, 104, 58, 32]⟩ : ByteArray).size = 16 := rfl; omega
  go_enter Tryz.func31, Tryz.ntmps31
  go_wp2_with fail
  refine C1.out.mono ?_
  rintro e w1 ⟨rfl, hb⟩
  have HB := Bx.mk hb
  clear hb
  go_wp2
  go_ret
  exact ⟨by rw [HL.out]; rfl, HB.out⟩
end Go.Proofs.YtpfijaojgeceeaaGreatDoor
