/- How many tries are enough. -/
import Derived.Test.YtbjeeefkbmdmfaaLnc
import Derived.Test.YtbjeeefkbmdmfaaLnb
import Derived.BigQuiet
namespace Go.Proofs.Ytbjeeefkbmdmfaa
open Go.RowKit
set_option linter.unusedVariables false

set_option maxRecDepth 100000 in
theorem enN_big {n k : Nat} (hk : k + 1 ≤ n) (h : M62 < enN (k + 1)) : enZ n = M62 := enZ_big (Nat.lt_of_lt_of_le h (enN_mono hk))
set_option maxHeartbeats 4000000 in
set_option maxRecDepth 100000 in
theorem enough_any (n : Int) (w : World) (hv : V64 n) :
    Calls Try.prog 25 #[.int .i64 n] w fun e w' => e = .returned (.int .i64 (enZ n)) ∧ w' = w := by
  by_cases hz : n < 1
  · have HF : Bx (enZ n = 0) := ⟨enZ_low (by omega)⟩
    go_enter Try.func25, Try.ntmps25
    go_wp2_with fail
    go_loop [3, 4] (fun s k => s = .int .i64 0 ∧ k = .int .i64 1) (fun _ _ => 0)
    case atStart => exact ⟨rfl, rfl⟩
    case round =>
      obtain ⟨rfl, rfl⟩ := hrel
      have hd2 : decide (1 ≤ n) = false := decide_eq_false (by omega)
      go_wp2_with fail
      go_ret
      exact ⟨by rw [HF.out]; rfl, rfl⟩
  obtain ⟨m, rfl⟩ : ∃ m : Nat, n = m := ⟨n.toNat, by omega⟩
  have hm1 : 1 ≤ m := by omega
  have hm2 : m ≤ 9223372036854775807 := by unfold V64 at hv; omega
  obtain ⟨R, HR⟩ : ∃ R, Bx (enZ m = R) := ⟨_, ⟨rfl⟩⟩
  rw [HR.out]
  clear hz hv
  go_enter Try.func25, Try.ntmps25
  go_wp2_with fail
  go_loop [3, 4] (fun s k => ∃ j : Nat, j ≤ m ∧ j ≤ 25 ∧ k = .int .i64 ((j : Int) + 1) ∧ s = .int .i64 (enN j : Nat) ∧ Bx (enN j ≤ M62)) (fun _ k => 27 - (intOf k).toNat)
  case atStart => exact ⟨0, Nat.zero_le _, Nat.zero_le _, rfl, rfl, ⟨by unfold enN M62; omega⟩⟩
  case round =>
    obtain ⟨j, hj, hj25, rfl, rfl, HS⟩ := hrel
    by_cases hlt : j < m
    · have hd1 : decide ((j : Int) + 1 ≤ (m : Int)) = true := decide_eq_true (by omega)
      have hdI : (j : Int) + 1 ≤ (m : Int) := by omega
      obtain ⟨u, HU⟩ : ∃ u : Nat, Bx (M62 / (j + 1) = u) := ⟨_, ⟨rfl⟩⟩
      have hquo : (4611686018427387904 : Int).tdiv ((j : Int) + 1) = (u : Int) := by
        rw [← HU.out]; exact rfl
      have hule : u ≤ 4611686018427387904 := by rw [← HU.out]; exact Nat.div_le_self _ _
      have hwu : wrap64 (u : Int) = (u : Int) := by unfold wrap64; omega
      have hF := HS.out
      have hdz : (j : Int) + 1 ≠ 0 := by omega
      have hne : ((j : Int) + 1 == 0) = false := beq_false_of_ne hdz
      unfold M62 at hF
      have hIFF : u < enN j + 1 ↔ M62 < enN (j + 1) := by
        rw [← HU.out, Nat.div_lt_iff_lt_mul (Nat.succ_pos j)]
        show _ ↔ M62 < (j + 1) * (1 + enN j)
        rw [Nat.mul_comm, Nat.add_comm 1]
      by_cases hbig : u < enN j + 1
      · have HF : Bx (R = 4611686018427387904) := ⟨by rw [← HR.out, enN_big (by omega) (hIFF.1 hbig)]; rfl⟩
        have hgI : (u : Int) < ((enN j : Nat) : Int) + 1 := by omega
        clear hIFF
        go_wp2_with fail
        go_ret
        exact ⟨by rw [HF.out]; rfl, rfl⟩
      · have hgI : ¬ (u : Int) < ((enN j : Nat) : Int) + 1 := by omega
        have HRM : Bx (enN (j + 1) ≤ M62) := ⟨by have := mt hIFF.2 hbig; omega⟩
        have HJ : Bx (j + 1 ≤ 25) := ⟨by
          by_cases h25 : j + 1 ≤ 25
          · exact h25
          · have h26 : j + 1 = 26 := by omega
            have := HRM.out
            rw [h26] at this
            exact absurd enN_26 (by omega)⟩
        have hmul : ((j : Int) + 1) * (((enN j : Nat) : Int) + 1) = ((enN (j + 1) : Nat) : Int) := by
          show _ = (((j + 1) * (1 + enN j) : Nat) : Int)
          push_cast; rw [Int.add_comm 1]
        have hR := HRM.out
        unfold M62 at hR
        have hwm : IntKind.i64.wrap (((j : Int) + 1) * (((enN j : Nat) : Int) + 1)) = ((enN (j + 1) : Nat) : Int) := by rw [hmul, w64_wrap]; exact w64_id (by unfold V64; omega)
        clear hIFF
        go_wp2_with fail
        go_round
        case rel => exact ⟨j + 1, by omega, HJ.out, by go_num, rfl, HRM⟩
        case measure => have := HJ.out; simp [intOf]; omega
    · obtain rfl : j = m := by omega
      have hd1 : decide ((j : Int) + 1 ≤ (j : Int)) = false := decide_eq_false (by omega)
      have HF : Bx (R = (enN j : Nat)) := ⟨by rw [← HR.out]; unfold enZ; rw [Int.toNat_natCast]; have := HS.out; congr 1; omega⟩
      go_wp2_with fail
      go_ret
      exact ⟨by rw [HF.out]; rfl, rfl⟩
end Go.Proofs.Ytbjeeefkbmdmfaa
