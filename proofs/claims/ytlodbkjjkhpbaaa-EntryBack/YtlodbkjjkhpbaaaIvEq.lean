/- Lists of numbers that are the same. -/
import Derived.Test.YtlodbkjjkhpbaaaCMem
import Derived.BigQuiet
namespace Go.Proofs.Ytlodbkjjkhpbaaa
open Go.RowKit
set_option linter.unusedVariables false

set_option maxHeartbeats 1000000 in
theorem ints15_yes (a b : Option Addr) (n m c d : Nat) (l : List Int) (w : World) (ha : Ivs w a n c l) (hb : Ivs w b m d l) :
    Calls Try.prog 21 #[.slice a n c, .slice b m d] w fun e w' => e = .returned (.bool true) ∧ Below w.heap.size w w' := by
  obtain rfl : n = m := by rw [← ha.len_eq, ← hb.len_eq]
  have H1 := Bx.mk ha
  have H2 := Bx.mk hb
  have hn := Nat.le_trans ha.le_cap ha.cap_le
  unfold maxLen at hn
  have hq : ((n : Int) != (n : Int)) = false := by simp
  clear ha hb
  go_enter Try.func21, Try.ntmps21
  go_wp2_with fail
  go_loopw [5] (fun i wr => ∃ k : Nat, k ≤ n ∧ i = .int .i64 k ∧ Bx (Below w.heap.size w wr)) (fun i _ => n - (intOf i).toNat)
  case atStart => exact ⟨0, Nat.zero_le _, rfl, ⟨Below.refl _ _⟩⟩
  case round =>
    obtain ⟨k, hk, rfl, HB⟩ := hrel
    by_cases hlt : k < n
    · obtain ⟨b1, o1, rfl, _, x0⟩ := (H1.out.below HB.out).iv k hlt 0
      obtain ⟨b2, o2, rfl, _, y0⟩ := (H2.out.below HB.out).iv k hlt 0
      have hki : (k : Int) < (n : Int) := by omega
      generalize l.getD k 0 = x at x0 y0
      have hx : (x != x) = false := by simp
      go_wp2_with fail
      go_quiet (fail)
      go_wp2_with fail
      go_roundw
      case rel => exact ⟨k + 1, by omega, by go_num, ⟨below_drewN HB.out _⟩⟩
      case measure => simp [intOf]; omega
    · have hki : ¬ (k : Int) < (n : Int) := by omega
      go_wp2_with fail
      go_ret
      exact ⟨rfl, HB.out⟩
end Go.Proofs.Ytlodbkjjkhpbaaa
