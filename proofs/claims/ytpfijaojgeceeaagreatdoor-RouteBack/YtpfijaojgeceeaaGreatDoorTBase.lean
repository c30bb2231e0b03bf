/- What texts are to these proofs: the byte at a place of a string; small facts on strings and lists. -/
import Derived.Test.YtpfijaojgeceeaaGreatDoorBase
import Derived.Lib.Strings
namespace Go.Proofs.YtpfijaojgeceeaaGreatDoor
open Go.RowKit
set_option linter.unusedVariables false

/-- the byte at a place of a string -/
def sb (s : ByteArray) (i : Nat) : Int := ((s.data.toList.getD i 0).toNat : Int)
set_option maxRecDepth 100000 in
theorem sb_eq (s : ByteArray) (i : Nat) (h : i < s.size) : (((s[i]'h).toNat : Nat) : Int) = sb s i := by
  have h2 : i < s.data.toList.length := by rw [← Lib.size_eq]; exact h
  unfold sb
  rw [List.getD_eq_getElem?_getD, List.getElem?_eq_getElem h2, Option.getD_some]
  rfl
set_option maxRecDepth 100000 in
theorem sb_byt (s : ByteArray) (i : Nat) : 0 ≤ sb s i ∧ sb s i ≤ 255 := by
  have := UInt8.toNat_lt (s.data.toList.getD i 0)
  unfold sb; omega
set_option maxRecDepth 100000 in
theorem ba_ext {s t : ByteArray} (h : s.data.toList = t.data.toList) : s = t := by
  rw [← Lib.mk_data s, ← Lib.mk_data t, h]
set_option maxRecDepth 100000 in
theorem ret_str {s t : ByteArray} (h : s = t) : Ending.returned (.string s) = .returned (.string t) := by rw [h]
set_option maxRecDepth 100000 in
theorem bool_of_iff {a b : Bool} {p : Prop} (h : a = true ↔ p) (k : b = true ↔ p) : a = b := by
  cases a <;> cases b <;> simp_all
end Go.Proofs.YtpfijaojgeceeaaGreatDoor
