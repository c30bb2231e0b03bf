/- The document's own: how many tries are enough. -/
import Derived.Test.YtbjeeefkbmdmfaaLnc
import Derived.Test.YtbjeeefkbmdmfaaLnb
import Derived.BigQuiet
namespace Go.Proofs.Ytbjeeefkbmdmfaa
open Go.RowKit
set_option linter.unusedVariables false

set_option maxRecDepth 100000 in
theorem fal_big {n k : Nat} (h : n ≤ 25) (hk : k ≤ n) (h2 : fal n k ≤ M62) : fal n k * n ≤ 115292150460684697600 := by
  have : fal n k * n ≤ M62 * 25 := Nat.mul_le_mul h2 h
  unfold M62 at this; omega
set_option maxHeartbeats 4000000 in
set_option maxRecDepth 100000 in
theorem refenough_any (n : Int) (w : World) (hv : V64 n) :
    Calls Try.prog 27 #[.int .i64 n] w fun e w' => e = .returned (.int .i64 (enZ n)) ∧ w' = w := by
  by_cases hb : 25 < n
  · have HF : Bx (enZ n = 4611686018427387904) := ⟨by
      obtain ⟨m, rfl⟩ : ∃ m : Nat, n = m := ⟨n.toNat, by omega⟩
      exact enZ_far (by omega)⟩
    go_enter Try.func27, Try.ntmps27
    go_wp2_with fail
    go_ret
    exact ⟨by rw [HF.out]; rfl, rfl⟩
  have hd : decide (25 < n) = false := decide_eq_false hb
  by_cases hz : n < 1
  · have HF : Bx (enZ n = 0) := ⟨enZ_low (by omega)⟩
    go_enter Try.func27, Try.ntmps27
    go_wp2_with fail
    go_loop [3, 4] (fun s k => s = .int .i64 0 ∧ k = .int .i64 1) (fun _ _ => 0)
    case atStart => exact ⟨rfl, rfl⟩
    case round =>
      obtain ⟨rfl, rfl⟩ := hrel
      have hd2 : decide (1 ≤ n) = false := decide_eq_false (by omega)
      go_wp2_with fail
      go_ret
      exact ⟨by rw [HF.out]; rfl, rfl⟩
  obtain ⟨m, rfl⟩ : ∃ m : Nat, n = m := ⟨n.toNat, by omega⟩
  have hm1 : 1 ≤ m := by omega
  have hm25 : m ≤ 25 := by omega
  obtain ⟨R, HR⟩ : ∃ R, Bx (enZ m = R) := ⟨_, ⟨rfl⟩⟩
  rw [HR.out]
  clear hb hz hd
  have hbI : ¬ (25 : Int) < (m : Int) := by omega
  go_enter Try.func27, Try.ntmps27
  go_wp2_with fail
  go_loop [3, 4] (fun s k => ∃ j : Nat, j ≤ m ∧ k = .int .i64 ((j : Int) + 1) ∧ s = .int .i64 (psu m j : Nat) ∧ Bx (psu m j ≤ M62)) (fun _ k => m + 1 - (intOf k).toNat)
  case atStart => exact ⟨0, Nat.zero_le _, rfl, rfl, ⟨by unfold psu M62; omega⟩⟩
  case round =>
    obtain ⟨j, hj, rfl, rfl, HS⟩ := hrel
    by_cases hlt : j < m
    · have hd1 : decide ((j : Int) + 1 ≤ (m : Int)) = true := decide_eq_true (by omega)
      have hdI : (j : Int) + 1 ≤ (m : Int) := by omega
      go_wp2_with fail
      go_loop [5, 6] (fun r i => ∃ q : Nat, q ≤ j + 1 ∧ i = .int .i64 q ∧ r = .int .i64 (fal m q : Nat) ∧ Bx (fal m q ≤ M62)) (fun _ i => j + 1 - (intOf i).toNat)
      case atStart => exact ⟨0, Nat.zero_le _, rfl, rfl, ⟨by unfold fal M62; omega⟩⟩
      case round =>
        obtain ⟨q, hq, rfl, rfl, HFQ⟩ := hrel
        by_cases hlq : q < j + 1
        · have hd2 : decide ((q : Int) < (j : Int) + 1) = true := decide_eq_true (by omega)
          have hdJ : (q : Int) < (j : Int) + 1 := by omega
          obtain ⟨dv, HDV⟩ : ∃ dv : Nat, Bx (m - q = dv) := ⟨_, ⟨rfl⟩⟩
          have hdv : 1 ≤ dv ∧ dv ≤ 25 := by have := HDV.out; omega
          have hsub : (m : Int) - (q : Int) = (dv : Int) := by have := HDV.out; omega
          have hne : ((dv : Int) == 0) = false := beq_false_of_ne (by omega)
          obtain ⟨u, HU⟩ : ∃ u : Nat, Bx (M62 / (m - q) = u) := ⟨_, ⟨rfl⟩⟩
          have hquo : (4611686018427387904 : Int).tdiv (dv : Int) = (u : Int) := by
            rw [← HU.out, HDV.out]; exact rfl
          have hule : u ≤ 4611686018427387904 := by rw [← HU.out]; exact Nat.div_le_self _ _
          have hwu : wrap64 (u : Int) = (u : Int) := by unfold wrap64; omega
          have hF := HFQ.out
          have hdz : (dv : Int) ≠ 0 := by omega
          unfold M62 at hF
          by_cases hbig : u < fal m q
          · have HF : Bx (R = 4611686018427387904) := ⟨by rw [← HR.out, enZ_row (by omega) HU.out hbig]; rfl⟩
            have hgI : (u : Int) < ((fal m q : Nat) : Int) := by omega
            go_wp2_with fail
            go_ret
            exact ⟨by rw [HF.out]; rfl, rfl⟩
          · have hgI : ¬ (u : Int) < ((fal m q : Nat) : Int) := by omega
            have HRM : Bx (fal m (q + 1) ≤ M62) := ⟨fal_room (by omega) HU.out hbig⟩
            have hmul : ((fal m q : Nat) : Int) * (dv : Int) = ((fal m (q + 1) : Nat) : Int) := by
              show _ = ((fal m q * (m - q) : Nat) : Int)
              rw [HDV.out]; push_cast; rfl
            have hR := HRM.out
            unfold M62 at hR
            have hwm : IntKind.i64.wrap (((fal m q : Nat) : Int) * (dv : Int)) = ((fal m (q + 1) : Nat) : Int) := by rw [hmul, w64_wrap]; exact w64_id (by unfold V64; omega)
            go_wp2_with fail
            go_round
            case rel => exact ⟨q + 1, by omega, by go_num, rfl, HRM⟩
            case measure => simp [intOf]; omega
        · obtain rfl : q = j + 1 := by omega
          have hd2 : decide (((j + 1 : Nat) : Int) < (j : Int) + 1) = false := decide_eq_false (by omega)
          have hps : ((psu m j : Nat) : Int) + ((fal m (j + 1) : Nat) : Int) = ((psu m (j + 1) : Nat) : Int) := by
            show _ = ((psu m j + fal m (j + 1) : Nat) : Int)
            push_cast; rfl
          have h1 := HS.out
          have h2 := HFQ.out
          unfold M62 at h1 h2
          have hsl : ((psu m (j + 1) : Nat) : Int) ≤ 9223372036854775808 := by omega
          by_cases hbig : M62 < psu m (j + 1)
          · have HF : Bx (R = 4611686018427387904) := ⟨by rw [← HR.out, enZ_sum hlt hbig]; rfl⟩
            have hg : (4611686018427387904 : Int) < ((psu m (j + 1) : Nat) : Int) := by unfold M62 at hbig; omega
            by_cases hmx : ((psu m (j + 1) : Nat) : Int) = 9223372036854775808
            · have hwp : wrap64 ((psu m (j + 1) : Nat) : Int) = -9223372036854775808 := by unfold wrap64; omega
              clear hg hsl hmx
              go_wp2_with fail
              go_ret
              exact ⟨by rw [HF.out]; rfl, rfl⟩
            · have hwp : wrap64 ((psu m (j + 1) : Nat) : Int) = ((psu m (j + 1) : Nat) : Int) := by unfold wrap64; omega
              clear hmx
              go_wp2_with fail
              go_ret
              exact ⟨by rw [HF.out]; rfl, rfl⟩
          · have hg : ¬ (4611686018427387904 : Int) < ((psu m (j + 1) : Nat) : Int) := by unfold M62 at hbig; omega
            have hwp : wrap64 ((psu m (j + 1) : Nat) : Int) = ((psu m (j + 1) : Nat) : Int) := by unfold wrap64; omega
            have HS2 : Bx (psu m (j + 1) ≤ M62) := ⟨by omega⟩
            go_wp2_with fail
            go_round
            case rel => exact ⟨j + 1, by omega, by go_num, by first | rfl | rw [hwp], HS2⟩
            case measure => simp [intOf]; omega
    · obtain rfl : j = m := by omega
      have hd1 : decide ((j : Int) + 1 ≤ (j : Int)) = false := decide_eq_false (by omega)
      have HF : Bx (R = (psu j j : Nat)) := ⟨by rw [← HR.out, enZ_end HS.out]⟩
      go_wp2_with fail
      go_ret
      exact ⟨by rw [HF.out]; rfl, rfl⟩
end Go.Proofs.Ytbjeeefkbmdmfaa
