/- What the document's Hex answers. -/
import Derived.Test.YtdoedkgidcoibaaDoorHex
namespace Go.Proofs.YtdoedkgidcoibaaDoor
open Go.RowKit
set_option linter.unusedVariables false

theorem letter_q (x : Int) (n : Nat) (w : World) (e : x = (n : Int)) (h : n < 16) : Calls Tryd.prog 45 #[.int .i64 x] w fun e w' => e = .returned (.string (strOf [hx n])) ∧ w' = w := by
  subst e; exact letter_any n w h
set_option maxHeartbeats 400000 in
theorem refhex_any (a : Option Addr) (len cap : Nat) (b : List Int) (w : World) (hb : Bts w a len cap b) (hs : len ≤ 1099511627776) :
    Calls Tryd.prog 34 #[.slice a len cap] w fun e w' => e = .returned (.string (strOf (hexL b))) ∧ ∃ q, w' = w.drewN q := by
  have HL : Hid (b.length = len) := hb.len_eq
  go_enter Tryd.func34, Tryd.ntmps34
  go_wp2
  go_loopw [3, 4] (fun v i wr => ∃ k : Nat, k ≤ len ∧ i = .int .i64 k ∧ v = .string (strOf (hexL (b.take k))) ∧ ∃ q, wr = w.drewN q) (fun _ i _ => len - (intOf i).toNat)
  case atStart => exact ⟨0, Nat.zero_le _, rfl, rfl, 0, rfl⟩
  case round =>
    obtain ⟨k, hk, rfl, rfl, q, hq⟩ := hrel
    have HQ : Hid (wr = w.drewN q) := hq
    have hbr : Bts wr a len cap b := by rw [hq]; exact hb.drewN q
    clear hq
    by_cases hlt : k < len
    · obtain ⟨bb, bo, rfl, _, hc⟩ := hbr.spot (by omega)
      have hcell := hc k hlt
      have HM : Hid (strOf (hexL (b.take (k + 1))) = strOf (hexL (b.take k)) ++ strOf [hx ((b.getD k 0).toNat / 16)] ++ strOf [hx ((b.getD k 0).toNat % 16)]) := by
        show _ = _
        rw [hexL_more b k (by rw [HL.out]; exact hlt), ← strOf_append, ← strOf_append, List.append_assoc]; rfl
      have hz : (strOf (hexL (b.take k))).size ≤ 2199023255552 := by
        rw [strOf_size, hexL_length, List.length_take]; omega
      have hy := hb.byt.getD k
      generalize b.getD k 0 = y at hcell HM hy
      generalize strOf (hexL (b.take k)) = S at HM hz
      clear hc
      have hji : (k : Int) < (len : Int) := by omega
      have z1 : (strOf [hx (y.toNat / 16)]).size = 1 := rfl
      have z2 : (strOf [hx (y.toNat % 16)]).size = 1 := rfl
      go_wp2
      go_quiet (first | (go_at_call 45; exact Calls.quiet_of_same (letter_q _ (y.toNat / 16) _ (by omega) (by omega))) | (go_at_call 45; exact Calls.quiet_of_same (letter_q _ (y.toNat % 16) _ (by omega) (by omega))))
      go_wp2
      rw [← HM.out]
      go_roundw
      case rel => exact ⟨k + 1, by omega, by go_num, rfl, by rw [HQ.out]; exact drew_close _ _ _⟩
      case measure => simp [intOf]; omega
    · have HJ : Hid (k = len) := by show _ = _; omega
      have hc : ¬ (k : Int) < (len : Int) := by omega
      rw [List.take_of_length_le (by rw [HL.out, HJ.out]; exact Nat.le_refl _)]
      generalize hS : strOf (hexL b) = S
      have HS : Hid (S = strOf (hexL b)) := hS.symm
      clear hS
      go_wp2
      go_ret
      exact ⟨ret_str HS.out, q, HQ.out⟩
end Go.Proofs.YtdoedkgidcoibaaDoor
