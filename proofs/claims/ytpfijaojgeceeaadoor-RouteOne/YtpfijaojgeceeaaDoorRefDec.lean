/- What the document's Dec answers of any number. -/
import Derived.Test.YtpfijaojgeceeaaDoorDecMath
import Derived.Test.YtpfijaojgeceeaaDoorHex
import Derived.Lib.ItoaLen
namespace Go.Proofs.YtpfijaojgeceeaaDoor
open Go.RowKit
set_option linter.unusedVariables false

/-- a number's text -/
def decS (n : Int) : ByteArray := ⟨(Lib.itoa n).toArray⟩
set_option maxRecDepth 100000 in
theorem decS_size {n : Int} (h0 : -9223372036854775808 ≤ n) (h1 : n ≤ 9223372036854775807) : (decS n).size ≤ 21 := by
  rw [Lib.size_eq]; exact Lib.itoa_length_le n h0 h1
set_option maxRecDepth 100000 in
theorem hx_dec : ∀ d : Fin 10, strOf [hx d.val] = ⟨#[UInt8.ofNat (48 + d.val)]⟩ := by decide +kernel
set_option maxRecDepth 100000 in
theorem hx_dig (d : Nat) (h : d < 10) : strOf [hx d] = ⟨[UInt8.ofNat (48 + d)].toArray⟩ := hx_dec ⟨d, h⟩
set_option maxRecDepth 100000 in
theorem decS_small (m : Nat) (h : m < 10) : decS (m : Int) = strOf [hx m] := by
  unfold decS; rw [itoa_nat, Lib.decDigits_one h, hx_dig m h]
set_option maxRecDepth 100000 in
theorem decS_big (m : Nat) (h : ¬ m < 10) : decS (m : Int) = decS ((m / 10 : Nat) : Int) ++ strOf [hx (m % 10)] := by
  unfold decS; rw [itoa_nat, itoa_nat, decDigits_big h, hx_dig _ (Nat.mod_lt m (by decide)), ByteArray.mk_append_mk]
set_option maxRecDepth 100000 in
theorem itoa_neg (m : Nat) (h : 1 ≤ m) : Lib.itoa (-(m : Int)) = 45 :: Lib.decDigits m := by
  unfold Lib.itoa; rw [if_pos (by omega), show (-(m : Int)).natAbs = m by omega]
set_option maxRecDepth 100000 in
theorem decS_neg_small (m : Nat) (h1 : 1 ≤ m) (h : m < 10) : decS (-(m : Int)) = (⟨#[45]⟩ : ByteArray) ++ strOf [hx m] := by
  unfold decS; rw [itoa_neg m h1, Lib.decDigits_one h, hx_dig m h]
  exact (ByteArray.mk_append_mk [45] [UInt8.ofNat (48 + m)]).symm
set_option maxRecDepth 100000 in
theorem decS_neg_big (m : Nat) (h : ¬ m < 10) : decS (-(m : Int)) = decS (-((m / 10 : Nat) : Int)) ++ strOf [hx (m % 10)] := by
  unfold decS; rw [itoa_neg m (by omega), itoa_neg (m / 10) (by omega), decDigits_big h, hx_dig _ (Nat.mod_lt m (by decide)), ByteArray.mk_append_mk]
  rfl
set_option maxRecDepth 100000 in
theorem letter_at (x : Int) (n : Nat) (w : World) (e : x = (n : Int)) (h : n < 16) : Calls Tryd.prog 34 #[.int .i64 x] w fun e w' => e = .returned (.string (strOf [hx n])) ∧ w' = w := by
  subst e; exact letter_any n w h
set_option maxHeartbeats 400000 in
theorem refdec_any (k : Nat) : ∀ (n : Int) (w : World), n.natAbs ≤ k → -9223372036854775808 ≤ n → n ≤ 9223372036854775807 →
    Calls Tryd.prog 25 #[.int .i64 n] w fun e w' => e = .returned (.string (decS n)) ∧ w' = w := by
  induction k with
  | zero =>
    intro n w hk _ _
    obtain rfl : n = 0 := by omega
    have HD : Hid (strOf [hx 0] = decS 0) := (decS_small 0 (by decide)).symm
    go_enter Tryd.func25, Tryd.ntmps25
    go_wp2_with fail
    refine (letter_at 0 0 _ rfl (by decide)).mono ?_
    rintro e w' ⟨rfl, rfl⟩
    go_wp2_with fail
    go_ret
    exact ⟨ret_str HD.out, rfl⟩
  | succ k ih =>
    intro n w hk hlo hhi
    by_cases hneg : n < 0
    · obtain ⟨m, rfl⟩ : ∃ m : Nat, n = -(m : Int) := ⟨n.natAbs, by omega⟩
      by_cases hm : m < 10
      · have g1 : (-10 : Int) < -(m : Int) := by omega
        have HD : Hid ((⟨#[45]⟩ : ByteArray) ++ strOf [hx m] = decS (-(m : Int))) := (decS_neg_small m (by omega) hm).symm
        have z1 : (strOf [hx m]).size = 1 := rfl
        go_enter Tryd.func25, Tryd.ntmps25
        go_wp2_with fail
        refine (letter_at _ m _ (by omega) (by omega)).mono ?_
        rintro e w' ⟨rfl, rfl⟩
        generalize strOf [hx m] = S at HD z1
        go_wp2_with fail
        go_ret
        exact ⟨ret_str HD.out, rfl⟩
      · have g1 : ¬ (-10 : Int) < -(m : Int) := by omega
        have HD : Hid (decS (-((m : Int) / 10)) ++ strOf [hx (m % 10)] = decS (-(m : Int))) := (decS_neg_big m hm).symm
        have z1 : (strOf [hx (m % 10)]).size = 1 := rfl
        have z2 := decS_size (n := -((m : Int) / 10)) (by omega) (by omega)
        go_enter Tryd.func25, Tryd.ntmps25
        go_wp2_with fail
        refine (ih (-((m : Int) / 10)) _ (by omega) (by omega) (by omega)).mono ?_
        rintro e w' ⟨rfl, rfl⟩
        generalize decS (-((m : Int) / 10)) = D at HD z2
        go_wp2_with fail
        refine (letter_at _ (m % 10) _ (by omega) (by omega)).mono ?_
        rintro e w' ⟨rfl, rfl⟩
        generalize strOf [hx (m % 10)] = S at HD z1
        go_wp2_with fail
        go_ret
        exact ⟨ret_str HD.out, rfl⟩
    · obtain ⟨m, rfl⟩ : ∃ m : Nat, n = (m : Int) := ⟨n.natAbs, by omega⟩
      by_cases hm : m < 10
      · have g1 : (m : Int) < 10 := by omega
        have HD : Hid (strOf [hx m] = decS (m : Int)) := (decS_small m hm).symm
        go_enter Tryd.func25, Tryd.ntmps25
        go_wp2_with fail
        refine (letter_at _ m _ (by omega) (by omega)).mono ?_
        rintro e w' ⟨rfl, rfl⟩
        go_wp2_with fail
        go_ret
        exact ⟨ret_str HD.out, rfl⟩
      · have g1 : ¬ (m : Int) < 10 := by omega
        have HD : Hid (decS ((m : Int) / 10) ++ strOf [hx (m % 10)] = decS (m : Int)) := (decS_big m hm).symm
        have z1 : (strOf [hx (m % 10)]).size = 1 := rfl
        have z2 := decS_size (n := (m : Int) / 10) (by omega) (by omega)
        go_enter Tryd.func25, Tryd.ntmps25
        go_wp2_with fail
        refine (ih ((m : Int) / 10) _ (by omega) (by omega) (by omega)).mono ?_
        rintro e w' ⟨rfl, rfl⟩
        generalize decS ((m : Int) / 10) = D at HD z2
        go_wp2_with fail
        refine (letter_at _ (m % 10) _ (by omega) (by omega)).mono ?_
        rintro e w' ⟨rfl, rfl⟩
        generalize strOf [hx (m % 10)] = S at HD z1
        go_wp2_with fail
        go_ret
        exact ⟨ret_str HD.out, rfl⟩
end Go.Proofs.YtpfijaojgeceeaaDoor
