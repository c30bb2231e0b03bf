/- What both Prints answer, whatever they are asked. -/
import Derived.Test.YtjlclgmbenhakaaDoorCPrint2
import Derived.Test.YtjlclgmbenhakaaDoorRPrint
namespace Go.Proofs.YtjlclgmbenhakaaDoor
open Go.RowKit
set_option linter.unusedVariables false

set_option maxRecDepth 100000 in
theorem pn_ok {x : Int} {n : Nat} (h : pnE x n = 0) : ∃ s : Nat, x = (s : Int) ∧ 1 ≤ s ∧ s ≤ 2048 ∧ n ≤ 2048 := by
  unfold pnE at h
  split at h
  · simp at h
  · split at h
    · simp at h
    · exact ⟨x.toNat, by omega, by omega, by omega, by omega⟩
set_option maxRecDepth 100000 in
theorem pnE_ok {s n : Nat} (h1 : 1 ≤ s) (h2 : s ≤ 2048) (h3 : n ≤ 2048) : pnE (s : Int) n = 0 := by unfold pnE; rw [if_neg (by omega), if_neg (by omega)]
set_option maxRecDepth 100000 in
theorem pnL_ok {s : Nat} {b : List Int} (h1 : 1 ≤ s) (h2 : s ≤ 2048) (h3 : b.length ≤ 2048) : pnL (s : Int) b = prL s b := by unfold pnL; rw [if_pos (pnE_ok h1 h2 h3)]; rfl
set_option maxRecDepth 100000 in
theorem pnL_no {x : Int} {b : List Int} (h : pnE x b.length ≠ 0) : pnL x b = [] := by unfold pnL; rw [if_neg h]
set_option maxRecDepth 100000 in
theorem pnL_byt (x : Int) (b : List Int) (hb : Byt b) : Byt (pnL x b) := by
  by_cases h : pnE x b.length = 0
  · obtain ⟨s, rfl, h1, h2, h3⟩ := pn_ok h
    rw [pnL_ok h1 h2 h3]
    exact prL_byt s h1 b.length b (Nat.le_refl _) hb
  · rw [pnL_no h]; exact Byt.nil
set_option maxRecDepth 100000 in
theorem pr_low (size : Nat) (hs : 1 ≤ size) : ∀ (N : Nat) (b : List Int), b.length ≤ N → 5 ≤ (prL size b).length ∧ (prL size b).length ≤ 2060 * b.length + 5 ∨ 2048 < size
  | N, [], _ => by rw [prL_nil]; exact .inl (by simp)
  | 0, _ :: _, h => by simp at h
  | N + 1, c :: r, h => by
    by_cases hs2 : 2048 < size
    · exact .inr hs2
    · left
      have hb : (c :: r) ≠ [] := by simp
      have hd : ((c :: r).drop size).length ≤ N := by rw [List.length_drop, List.length_cons]; rw [List.length_cons] at h; omega
      have h1 := ck_le ((c :: r).take size) (by rw [List.length_take]; omega)
      rw [prL_cons size hs hb, List.length_append]
      rcases pr_low size hs N _ hd with h2 | h2
      · rw [List.length_drop] at h2
        rw [List.length_cons] at h2 ⊢
        omega
      · exact absurd h2 hs2
set_option maxRecDepth 100000 in
theorem pr_bounds (size : Nat) (hs : 1 ≤ size) (hs2 : size ≤ 2048) (b : List Int) (hb : b.length ≤ 2048) : 5 ≤ (prL size b).length ∧ (prL size b).length ≤ 100000000 := by
  rcases pr_low size hs b.length b (Nat.le_refl _) with h | h
  · omega
  · omega
set_option maxRecDepth 100000 in
theorem cprint_any (a : Option Addr) (len cap : Nat) (x : Int) (b : List Int) (w : World) (h : Bts w a len cap b) (hB : Bru w) :
    Calls Tryd.prog 8 #[.slice a len cap, .int .i64 x] w fun e w' => ∃ v, e = .returned (.tuple #[v, .int .i64 (pnE x b.length)]) ∧ w'.ownsRow w.heap.size 5 1 v (pnL x b).length (bv (pnL x b)) ∧ Below w.heap.size w w' := by
  by_cases he : pnE x b.length = 0
  · obtain ⟨s, rfl, h1, h2, h3⟩ := pn_ok he
    rw [he, pnL_ok h1 h2 h3]
    exact cprint_ok a len cap s b w h hB h1 h2 (by rw [← h.len_eq]; exact h3)
  · refine (cprint_bad a len cap x b w h he).mono ?_
    rintro e w' ⟨rfl, rfl⟩
    rw [pnL_no he]
    exact ⟨_, rfl, World.ownsRow_nil _ _ _ _, Below.refl _ _⟩
set_option maxRecDepth 100000 in
set_option maxHeartbeats 1000000 in
theorem rprint_bad (a : Option Addr) (len cap : Nat) (x : Int) (b : List Int) (w : World) (h : Bts w a len cap b) (he : pnE x b.length ≠ 0) :
    Calls Tryd.prog 9 #[.slice a len cap, .int .i64 x] w fun e w' => e = .returned (.tuple #[.slice none 0 0, .int .i64 (pnE x b.length)]) ∧ w = w' := by
  have hl := h.len_eq
  have hm := Nat.le_trans h.le_cap h.cap_le
  unfold maxLen at hm
  clear h
  by_cases h1 : x < 1
  · have HE : Bx (pnE x b.length = 2) := ⟨by unfold pnE; rw [if_pos (.inl h1)]⟩
    have g1 : decide (x < 1) = true := by simpa using h1
    clear h1 he hl
    go_enter Tryd.func9, Tryd.ntmps9
    go_wp2
    go_ret2
    exact ⟨by rw [HE.out]; rfl, rfl⟩
  · have g1 : decide (x < 1) = false := by simpa using h1
    by_cases h2 : 2048 < x
    · have HE : Bx (pnE x b.length = 2) := ⟨by unfold pnE; rw [if_pos (.inr h2)]⟩
      have g2 : decide (x > 2048) = true := by simpa using h2
      clear h1 h2 he hl
      go_enter Tryd.func9, Tryd.ntmps9
      go_wp2
      go_ret2
      exact ⟨by rw [HE.out]; rfl, rfl⟩
    · have g2 : decide (x > 2048) = false := by simp; omega
      have h3 : 2048 < b.length := by
        unfold pnE at he
        rw [if_neg (by omega)] at he
        split at he
        · assumption
        · simp at he
      have HE : Bx (pnE x b.length = 5) := ⟨by unfold pnE; rw [if_neg (by omega), if_pos h3]⟩
      have g3 : decide ((len : Int) > 2048) = true := by simp; omega
      clear h1 h2 h3 he hl
      go_enter Tryd.func9, Tryd.ntmps9
      go_wp2
      go_ret2
      exact ⟨by rw [HE.out]; rfl, rfl⟩
set_option maxRecDepth 100000 in
theorem rprint_any (a : Option Addr) (len cap : Nat) (x : Int) (b : List Int) (w : World) (h : Bts w a len cap b) :
    Calls Tryd.prog 9 #[.slice a len cap, .int .i64 x] w fun e w' => ∃ v, e = .returned (.tuple #[v, .int .i64 (pnE x b.length)]) ∧ w'.ownsRow w.heap.size 5 1 v (pnL x b).length (bv (pnL x b)) ∧ Below w.heap.size w w' := by
  by_cases he : pnE x b.length = 0
  · obtain ⟨s, rfl, h1, h2, h3⟩ := pn_ok he
    rw [he, pnL_ok h1 h2 h3]
    exact rprint_ok a len cap s b w h h1 h2 (by rw [← h.len_eq]; exact h3)
  · refine (rprint_bad a len cap x b w h he).mono ?_
    rintro e w' ⟨rfl, rfl⟩
    rw [pnL_no he]
    exact ⟨_, rfl, World.ownsRow_nil _ _ _ _, Below.refl _ _⟩
end Go.Proofs.YtjlclgmbenhakaaDoor
