/- The line that says how many bytes a body has. -/
import Derived.Test.YtdameoejigpnhabGreatDoorWrk
import Derived.Test.YtdameoejigpnhabGreatDoorWApp
namespace Go.Proofs.YtdameoejigpnhabGreatDoor
open Go.RowKit
set_option linter.unusedVariables false

set_option maxRecDepth 100000 in
theorem strL_append (a b : ByteArray) : strL (a ++ b) = strL a ++ strL b := by
  unfold strL
  rw [show (a ++ b).data.toList = a.data.toList ++ b.data.toList from by rw [ByteArray.data_append, Array.toList_append], List.map_append]
set_option maxRecDepth 100000 in
theorem size_append (a b : ByteArray) : (a ++ b).size = a.size + b.size := by rw [← strL_length, strL_append, List.length_append, strL_length, strL_length]
def lenH : ByteArray := ⟨#[67, 111, 110, 116, 101, 110, 116, 45, 76, 101, 110, 103, 116, 104, 58, 32]⟩
def decB (n : Nat) : ByteArray := ⟨(Lib.itoa (n : Int)).toArray⟩
set_option maxRecDepth 100000 in
theorem decB_eq (n : Nat) : decB n = strOf (decN n) := decS_link n
set_option maxRecDepth 100000 in
theorem decN_le (n : Nat) (hn : n < 1000000) : (decN n).length ≤ 6 := by
  have key : ∀ (k n : Nat), n < 10 ^ (k + 1) → (decN n).length ≤ k + 1 := by
    intro k
    induction k with
    | zero => intro n hn; rw [decN_lt (by simpa using hn)]; simp
    | succ k ih =>
      intro n hn
      by_cases h : n < 10
      · rw [decN_lt h]; simp
      · rw [decN_ge h, List.length_append]
        have := ih (n / 10) (by rw [Nat.pow_succ] at hn; omega)
        simp only [List.length_cons, List.length_nil]
        omega
  exact key 5 n (by simpa using hn)
set_option maxRecDepth 100000 in
theorem decB_size (n : Nat) (hn : n < 1000000) : (decB n).size ≤ 6 := by rw [decB_eq, strOf_size]; exact decN_le n hn
def lenB (n : Nat) : ByteArray := (lenH ++ decB n) ++ ⟨#[13, 10]⟩
set_option maxHeartbeats 400000 in
theorem wlenl_any (n : Nat) (hn : n < 1000000) (w : World) (ht : Tens w) :
    Calls Tryz.prog 22 #[.int .i64 (n : Int)] w fun e w' => e = .returned (.string (lenB n)) ∧ Below w.heap.size w w' := by
  have C1 : Hid (Calls Tryz.prog 35 #[.int .i64 (n : Int)] w fun e w' => e = .returned (.string (decB n)) ∧ Below w.heap.size w w') := dec_any (n : Int) (by omega) (by omega) w ht
  have hs := decB_size n hn
  have HL : Bx (lenB n = (⟨#[67, 111, 110, 116, 101, 110, 116, 45, 76, 101, 110, 103, 116, 104, 58, 32]⟩ ++ decB n) ++ ⟨#[13, 10]⟩) := ⟨rfl⟩
  generalize lenB n = R at HL ⊢
  generalize decB n = D at *
  have hs2 : ((⟨#[67, 111, 110, 116, 101, 110, 116, 45, 76, 101, 110, 103, 116, 104, 58, 32]⟩ : ByteArray) ++ D).size ≤ 22 := by rw [size_append]; have : (⟨#[67, 111, 110, 116, 101, 110, 116, 45, 76, 101, 110, 103, 116, 104, 58, 32]⟩ : ByteArray).size = 16 := rfl; omega
  go_enter Tryz.func22, Tryz.ntmps22
  go_wp2_with fail
  refine C1.out.mono ?_
  rintro e w1 ⟨rfl, hb⟩
  have HB := Bx.mk hb
  clear hb
  go_wp2
  go_ret
  exact ⟨by rw [HL.out]; rfl, HB.out⟩
set_option maxRecDepth 100000 in
theorem lenB_size (n : Nat) (hn : n < 1000000) : (lenB n).size ≤ 24 := by
  unfold lenB
  rw [size_append, size_append]
  have := decB_size n hn
  show 16 + _ + 2 ≤ 24
  omega
set_option maxRecDepth 100000 in
theorem ba_assoc (a b c : ByteArray) : (a ++ b) ++ c = a ++ (b ++ c) := by
  apply ba_ext
  simp only [ByteArray.data_append, Array.toList_append, List.append_assoc]
end Go.Proofs.YtdameoejigpnhabGreatDoor
