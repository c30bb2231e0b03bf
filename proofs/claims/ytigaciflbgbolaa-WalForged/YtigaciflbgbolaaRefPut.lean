/- What the document's Put answers. -/
import Derived.Test.YtigaciflbgbolaaPut
namespace Go.Proofs.Ytigaciflbgbolaa
open Go.RowKit
set_option linter.unusedVariables false

set_option maxRecDepth 100000 in
theorem putL_getD (x : Int) (n k : Nat) (h : k < n) : (putL x n).getD k 0 = sh x (n - 1 - k) % 256 := by
  induction n generalizing k with
  | zero => omega
  | succ n ih =>
    cases k with
    | zero => simp [putL]
    | succ k =>
      have := ih k (by omega)
      rw [show n + 1 - 1 - (k + 1) = n - 1 - k from by omega, ← this]
      simp [putL]
set_option maxRecDepth 100000 in
theorem putL_take (x : Int) (n k : Nat) (h : k < n) : (putL x n).take (k + 1) = (putL x n).take k ++ [sh x (n - 1 - k) % 256] := by
  rw [take_succ_getD _ k (by rw [putL_length]; exact h), putL_getD x n k h]
set_option maxRecDepth 100000 in
theorem putL_byt (x : Int) (n : Nat) : Byt (putL x n) := by
  induction n with
  | zero => exact Byt.nil
  | succ n ih => exact Byt.cons (by omega) ih

set_option maxRecDepth 100000 in
theorem refput_none (x n : Int) (w : World) (hn : n < 1 ∨ 8 < n) :
    Calls Try.prog 67 #[.int .u64 x, .int .i64 n] w fun e w' => e = .returned (.slice none 0 0) ∧ w = w' := by
  rcases hn with h | h
  · go_enter Try.func67, Try.ntmps67
    go_wp2
    go_ret
    exact ⟨rfl, rfl⟩
  · have h' : ¬ n < 1 := by omega
    go_enter Try.func67, Try.ntmps67
    go_wp2
    go_ret
    exact ⟨rfl, rfl⟩

set_option maxRecDepth 100000 in
theorem refput_rel {w wr w1 : World} {x : Int} {n k : Nat} {v v' : Value} {c : Int} {o : Obj} (hk : k < n) (hc : c = sh x (n - 1 - k) % 256)
    (hown : wr.ownsRow w.heap.size 5 1 v k (bv ((putL x n).take k))) (hb : Below w.heap.size w wr)
    (h1 : w1.ownsRow w.heap.size 5 1 v' (k + 1) (bv ((putL x n).take k) ++ [.int .u8 c])) (hg : (wr.alloc o).grownBy w1 v.ownBlock) :
    w1.ownsRow w.heap.size 5 1 v' (k + 1) (bv ((putL x n).take (k + 1))) ∧ Below w.heap.size w w1 := by
  refine ⟨?_, ?_⟩
  · rw [putL_take x n k hk, bv_append, ← hc]; exact h1
  · refine (hb.alloc hb.size o).grown hg (by have := hb.size; simp; omega) ?_
    intro g hg'
    exact (hown.lt g hg').1

set_option maxHeartbeats 400000 in
theorem refput_some (x : Int) (n : Nat) (w : World) (h1 : 1 ≤ n) (h8 : n ≤ 8) (hx0 : 0 ≤ x) (hx1 : x ≤ 18446744073709551615) :
    Calls Try.prog 67 #[.int .u64 x, .int .i64 n] w fun e w' => ∃ v, e = .returned v ∧ w'.ownsRow w.heap.size 5 1 v n (bv (putL x n)) ∧ Below w.heap.size w w' := by
  have hn1 : ¬ (n : Int) < 1 := by omega
  have hn8 : ¬ (8 : Int) < n := by omega
  obtain ⟨i0, hi, hz0, hz1, hz2⟩ := info_parts Try.info5
  go_enter Try.func67, Try.ntmps67
  go_wp2
  go_loopw [5, 6] (fun v i wr => ∃ k : Nat, k ≤ n ∧ i = .int .i64 k ∧ wr.ownsRow w.heap.size 5 1 v k (bv ((putL x n).take k)) ∧ Below w.heap.size w wr) (fun _ i _ => n - (intOf i).toNat)
  case atStart => exact ⟨0, Nat.zero_le _, rfl, World.ownsRow_nil _ _ _ _, Below.refl _ _⟩
  case round =>
    obtain ⟨k, hk, rfl, hown, hb⟩ := hrel
    by_cases hlt : k < n
    · go_wp2
      go_loop [7, 8] (fun y i => ∃ j : Nat, k + 1 ≤ j ∧ j ≤ n ∧ i = .int .i64 j ∧ y = .int .u64 (sh x (j - (k + 1)))) (fun _ i => n - (intOf i).toNat)
      case atStart => exact ⟨k + 1, by omega, by omega, by go_num, by simp [sh_zero]⟩
      case round =>
        obtain ⟨j, hj1, hj2, rfl, rfl⟩ := hrel
        have hs := sh_bd x (j - (k + 1)) hx0 hx1
        by_cases hjn : j < n
        · have HS : Hid (sh x (j + 1 - (k + 1)) = sh x (j - (k + 1)) / 256) := by
            rw [← sh_succ, show j - (k + 1) + 1 = j + 1 - (k + 1) from by omega]; rfl
          go_wp2
          go_round
          case rel => exact ⟨j + 1, by omega, by omega, by go_num, by rw [HS.out]⟩
          case measure => simp [intOf]; omega
        · have HC : Hid (sh x (j - (k + 1)) % 256 = sh x (n - 1 - k) % 256) := by
            rw [show j - (k + 1) = n - 1 - k from by omega]; rfl
          generalize sh x (j - (k + 1)) = G at hs HC ⊢
          go_wp2_with (at_builtin; refine wpList_append_own _ rfl _ _ 38 rfl w.heap.size 5 i0 (.int .u8 0) 1 1 Try.underlying38 hi hz0 hz1 hz2 rfl (by decide) _ _ _ rfl (hown.alloc _) ⟨wr.heap.size, 0, none⟩ 1 1 [.int .u8 (G % 256)] rfl rfl (cell_one_new _ _ _) (bv_one [G % 256]) (by unfold maxLen; omega) (by omega) (by have := hb.size; simp; omega) ?_)
          intro v' w1 hown' hgrow _
          have R := refput_rel hlt HC.out hown hb hown' hgrow
          clear hown' hgrow hown hb
          go_wp2
          go_roundw
          case rel => exact ⟨k + 1, by omega, by go_num, R.1, R.2⟩
          case measure => simp [intOf]; omega
    · obtain rfl : k = n := by omega
      have HT : Hid ((putL x k).take k = putL x k) := List.take_of_length_le (by rw [putL_length]; exact Nat.le_refl _)
      go_wp2
      go_ret
      exact ⟨_, rfl, by rw [HT.out] at hown; exact hown, hb⟩
end Go.Proofs.Ytigaciflbgbolaa
