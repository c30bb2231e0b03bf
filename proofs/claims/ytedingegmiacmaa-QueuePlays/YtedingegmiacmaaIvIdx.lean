/- Whether a number stands in a list. -/
import Derived.Test.YtedingegmiacmaaCMem
import Derived.BigQuiet
namespace Go.Proofs.Ytedingegmiacmaa
open Go.RowKit
set_option linter.unusedVariables false

/-- where a number stands first -/
def ixF : List Int → Int → Nat → Int
  | [], _, _ => -1
  | y :: t, x, k => if x = y then (k : Int) else ixF t x (k + 1)
set_option maxRecDepth 100000 in
theorem ixF_in (x : Int) : ∀ (L : List Int) (k : Nat), decide (0 ≤ ixF L x k) = L.contains x
  | [], _ => by simp [ixF]
  | y :: t, k => by
    unfold ixF
    by_cases h : x = y
    · rw [if_pos h, List.contains_cons, beq_iff_eq.2 h]; simp
    · rw [if_neg h, List.contains_cons, ixF_in x t (k + 1), beq_false_of_ne h, Bool.false_or]
set_option maxRecDepth 100000 in
theorem ixF_drop {L : List Int} {x : Int} {k : Nat} (h : k < L.length) : ixF (L.drop k) x k = if x = L.getD k 0 then (k : Int) else ixF (L.drop (k + 1)) x (k + 1) := by
  rw [List.drop_eq_getElem_cons h, List.getD_eq_getElem?_getD, List.getElem?_eq_getElem h]; rfl
set_option maxHeartbeats 4000000 in
set_option maxRecDepth 100000 in
theorem index_any (a : Option Addr) (n c : Nat) (L : List Int) (x : Int) (w : World) (h : Ivs w a n c L) :
    Calls Try.prog 27 #[.slice a n c, .int .i64 x] w fun e w' => e = .returned (.int .i64 (ixF L x 0)) ∧ Below w.heap.size w w' := by
  have H := Bx.mk h
  have HLEN : Bx (L.length = n) := ⟨h.len_eq⟩
  have hn := Nat.le_trans h.le_cap h.cap_le
  unfold maxLen at hn
  obtain ⟨R, HR⟩ : ∃ R, Bx (ixF (L.drop 0) x 0 = R) := ⟨_, ⟨rfl⟩⟩
  rw [show ixF L x 0 = R from HR.out]
  clear h
  go_enter Try.func27, Try.ntmps27
  go_wp2_with fail
  go_loopw [8] (fun i wr => ∃ k : Nat, k ≤ n ∧ i = .int .i64 k ∧ Bx (ixF (L.drop k) x k = R) ∧ Bx (Below w.heap.size w wr)) (fun i _ => n - (intOf i).toNat)
  case atStart => exact ⟨0, Nat.zero_le _, rfl, HR, ⟨Below.refl _ _⟩⟩
  case round =>
    clear HR
    obtain ⟨k, hk, rfl, HR, HB⟩ := hrel
    by_cases hlt : k < n
    · obtain ⟨b1, o1, rfl, _, x0⟩ := (H.out.below HB.out).iv k hlt 0
      have hki : (k : Int) < (n : Int) := by omega
      have HD := Bx.mk (ixF_drop (x := x) (show k < L.length by rw [HLEN.out]; exact hlt))
      rw [HR.out] at HD
      generalize L.getD k 0 = y at x0 HD
      by_cases hxy : x = y
      · have HF : Bx (R = (k : Int)) := ⟨by rw [HD.out, if_pos hxy]⟩
        have hq : (x == y) = true := by simpa using hxy
        go_wp2_with fail
        go_ret
        exact ⟨by rw [HF.out]; rfl, HB.out⟩
      · have HR2 : Bx (ixF (L.drop (k + 1)) x (k + 1) = R) := ⟨by rw [HD.out, if_neg hxy]⟩
        have hq : (x == y) = false := by simpa using hxy
        clear hxy HD HR
        go_wp2_with fail
        go_roundw
        case rel => exact ⟨k + 1, by omega, by go_num, HR2, HB⟩
        case measure => simp [intOf]; omega
    · have hki : ¬ (k : Int) < (n : Int) := by omega
      have HF : Bx (R = -1) := ⟨by rw [← HR.out, List.drop_eq_nil_of_le (by rw [HLEN.out]; omega)]; rfl⟩
      go_wp2_with fail
      go_ret
      exact ⟨by rw [HF.out]; rfl, HB.out⟩
set_option maxHeartbeats 4000000 in
set_option maxRecDepth 100000 in
theorem contains_any (a : Option Addr) (n c : Nat) (L : List Int) (x : Int) (w : World) (h : Ivs w a n c L) :
    Calls Try.prog 24 #[.slice a n c, .int .i64 x] w fun e w' => e = .returned (.bool (L.contains x)) ∧ Below w.heap.size w w' := by
  have H := Bx.mk h
  obtain ⟨t, HT⟩ : ∃ t, Bx (L.contains x = t) := ⟨_, ⟨rfl⟩⟩
  have HQ : Bx (decide (0 ≤ ixF L x 0) = t) := ⟨by rw [← HT.out]; exact ixF_in x L 0⟩
  rw [HT.out]
  clear h
  go_enter Try.func24, Try.ntmps24
  go_wp2_with fail
  refine (index_any a n c L x _ H.out).mono ?_
  rintro e w1 ⟨rfl, hb⟩
  generalize ixF L x 0 = r at HQ ⊢
  have HB := Bx.mk hb
  clear hb
  have hq := HQ.out
  go_wp2_with fail
  go_ret
  exact ⟨rfl, HB.out⟩
end Go.Proofs.Ytedingegmiacmaa
