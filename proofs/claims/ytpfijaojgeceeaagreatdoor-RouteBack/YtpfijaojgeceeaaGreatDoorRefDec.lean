/- What the document's Dec answers of any number. -/
import Derived.Test.YtpfijaojgeceeaaGreatDoorDecMath
import Derived.Test.YtpfijaojgeceeaaGreatDoorAuas
import Derived.Lib.ItoaLen
namespace Go.Proofs.YtpfijaojgeceeaaGreatDoor
open Go.RowKit
set_option linter.unusedVariables false

/-- a number's text -/
def decS (n : Int) : ByteArray := ⟨(Lib.itoa n).toArray⟩
set_option maxRecDepth 100000 in
theorem decS_size {n : Int} (h0 : -9223372036854775808 ≤ n) (h1 : n ≤ 9223372036854775807) : (decS n).size ≤ 21 := by
  rw [Lib.size_eq]; exact Lib.itoa_length_le n h0 h1
set_option maxRecDepth 100000 in
theorem hx_dec : ∀ d : Fin 10, strOf [hx d.val] = ⟨#[UInt8.ofNat (48 + d.val)]⟩ := by decide +kernel
set_option maxRecDepth 100000 in
theorem hx_dig (d : Nat) (h : d < 10) : strOf [hx d] = ⟨[UInt8.ofNat (48 + d)].toArray⟩ := hx_dec ⟨d, h⟩
set_option maxRecDepth 100000 in
theorem decS_small (m : Nat) (h : m < 10) : decS (m : Int) = strOf [hx m] := by
  unfold decS; rw [itoa_nat, Lib.decDigits_one h, hx_dig m h]
set_option maxRecDepth 100000 in
theorem decS_big (m : Nat) (h : ¬ m < 10) : decS (m : Int) = decS ((m / 10 : Nat) : Int) ++ strOf [hx (m % 10)] := by
  unfold decS; rw [itoa_nat, itoa_nat, decDigits_big h, hx_dig _ (Nat.mod_lt m (by decide)), ByteArray.mk_append_mk]
set_option maxRecDepth 100000 in
theorem itoa_neg (m : Nat) (h : 1 ≤ m) : Lib.itoa (-(m : Int)) = 45 :: Lib.decDigits m := by
  unfold Lib.itoa; rw [if_pos (by omega), show (-(m : Int)).natAbs = m by omega]
set_option maxRecDepth 100000 in
theorem decS_neg_small (m : Nat) (h1 : 1 ≤ m) (h : m < 10) : decS (-(m : Int)) = (⟨#[45]⟩ : ByteArray) ++ strOf [hx m] := by
  unfold decS; rw [itoa_neg m h1, Lib.decDigits_one h, hx_dig m h]
  exact (ByteArray.mk_append_mk [45] [UInt8.ofNat (48 + m)]).symm
set_option maxRecDepth 100000 in
theorem decS_neg_big (m : Nat) (h : ¬ m < 10) : decS (-(m : Int)) = decS (-((m / 10 : Nat) : Int)) ++ strOf [hx (m % 10)] := by
  unfold decS; rw [itoa_neg m (by omega), itoa_neg (m / 10) (by omega), decDigits_big h, hx_dig _ (Nat.mod_lt m (by decide)), ByteArray.mk_append_mk]
  rfl
end Go.Proofs.YtpfijaojgeceeaaGreatDoor
