/- What Turn, Low and the document's Turn and Low answer. -/
import Derived.Test.YtaphbenkkicbhabDoorBase
import Derived.Test.YtaphbenkkicbhabDoorTurnMath
namespace Go.Proofs.YtaphbenkkicbhabDoor
open Go.RowKit
set_option linter.unusedVariables false

theorem turn_core (x : Int) (p : Nat) (hp : p < 32) (hx0 : 0 ≤ x) (hx1 : x < 4294967296) :
    bits .or .u32 (x / 2 ^ p) (x * 2 ^ (32 - p) % 4294967296) = rot p x := by
  rw [rot_trn x p (by omega)]
  obtain ⟨a, rfl⟩ := Int.eq_ofNat_of_zero_le hx0
  have hj := turn_join a p (by omega) (by omega)
  have e1 : (a : Int) / 2 ^ p = ((a / 2 ^ p : Nat) : Int) := by simp
  have e2 : (a : Int) * 2 ^ (32 - p) % 4294967296 = ((a * 2 ^ (32 - p) % 4294967296 : Nat) : Int) := by simp
  rw [e1, e2, u32_or_nat _ _ (Nat.lt_of_le_of_lt (Nat.div_le_self _ _) (by omega)) (Nat.mod_lt _ (by decide)), hj]
  unfold trn
  simp

set_option maxHeartbeats 400000 in
theorem turn_any (x n : Int) (w : World) (hx0 : 0 ≤ x) (hx1 : x < 4294967296) (hn0 : -9223372036854775808 ≤ n) (hn1 : n ≤ 9223372036854775807) :
    Calls Tryd.prog 35 #[.int .u32 x, .int .i64 n] w fun e w' => e = .returned (.int .u32 (turnV x n)) ∧ w = w' := by
  obtain ⟨p, hp⟩ : ∃ p : Nat, n % 32 = (p : Int) := ⟨(n % 32).toNat, by omega⟩
  have hp32 : p < 32 := by omega
  have hpe : (IntKind.u64.wrap n).tmod 32 = (p : Int) := by
    rw [IntKind.wrap_u64, Int.tmod_eq_emod_of_nonneg (by omega)]; omega
  have HT : Hid (turnV x n = rot p x) := by show turnV x n = rot p x; unfold turnV; rw [hp, Int.toNat_natCast]
  have hj := turn_core x p hp32 hx0 hx1
  clear hp
  rw [HT.out]
  go_enter Tryd.func35, Tryd.ntmps35
  go_wp2
  go_ret
  exact ⟨rfl, rfl⟩

end Go.Proofs.YtaphbenkkicbhabDoor
