/- What Before answers, and the document's own. -/
import Derived.Test.YtbjeeefkbmdmfaaLnd
namespace Go.Proofs.Ytbjeeefkbmdmfaa
open Go.RowKit
set_option linter.unusedVariables false

set_option maxRecDepth 100000 in
theorem befO_yes {a b : Opr} (hd : a.d = true) (h : a.t < b.f) : befO a b = true := by unfold befO; rw [hd]; simpa using h
set_option maxRecDepth 100000 in
theorem befO_no {a b : Opr} (hd : a.d = true) (h : ¬ a.t < b.f) : befO a b = false := by unfold befO; rw [hd]; simpa using h
set_option maxRecDepth 100000 in
theorem befO_open {a b : Opr} (hd : a.d = false) : befO a b = false := by unfold befO; rw [hd]; rfl
set_option maxHeartbeats 400000 in
theorem before_any (a b : Opr) (w : World) :
    Calls Try.prog 51 #[.agg #[.int .i64 a.c, .int .i64 a.o, .int .i64 a.a, .bool a.d, .int .i64 a.r, .int .i64 a.f, .int .i64 a.t], .agg #[.int .i64 b.c, .int .i64 b.o, .int .i64 b.a, .bool b.d, .int .i64 b.r, .int .i64 b.f, .int .i64 b.t]] w fun e w' => e = .returned (.bool (befO a b)) ∧ Below w.heap.size w w' := by
  obtain ⟨ac, ao, aa, ad, ar, af, at'⟩ := a
  obtain ⟨bc, bo, ba, bd, br, bf, bt⟩ := b
  have hbl : Below w.heap.size w ((w.alloc (.cells #[.int .i64 ac, .int .i64 ao, .int .i64 aa, .bool ad, .int .i64 ar, .int .i64 af, .int .i64 at'] 35)).alloc (.cells #[.int .i64 bc, .int .i64 bo, .int .i64 ba, .bool bd, .int .i64 br, .int .i64 bf, .int .i64 bt] 35)) := bstep ((Below.refl _ _).alloc (Nat.le_refl _) _) ((Below.refl _ _).alloc (Nat.le_refl _) _)
  cases ad with
  | false =>
    rw [befO_open rfl]
    go_enter Try.func51, Try.ntmps51
    go_wp2
    go_ret
    exact ⟨rfl, hbl⟩
  | true =>
    by_cases h : at' < bf
    · rw [befO_yes rfl h]
      simp only
      go_enter Try.func51, Try.ntmps51
      go_wp2
      go_ret
      exact ⟨rfl, hbl⟩
    · rw [befO_no rfl h]
      simp only
      have hd : decide (at' < bf) = false := by simpa using h
      go_enter Try.func51, Try.ntmps51
      go_wp2
      go_ret
      exact ⟨rfl, hbl⟩
set_option maxHeartbeats 400000 in
theorem refbefore_any (a b : Opr) (w : World) :
    Calls Try.prog 37 #[.agg #[.int .i64 a.c, .int .i64 a.o, .int .i64 a.a, .bool a.d, .int .i64 a.r, .int .i64 a.f, .int .i64 a.t], .agg #[.int .i64 b.c, .int .i64 b.o, .int .i64 b.a, .bool b.d, .int .i64 b.r, .int .i64 b.f, .int .i64 b.t]] w fun e w' => e = .returned (.bool (befO a b)) ∧ Below w.heap.size w w' := by
  obtain ⟨ac, ao, aa, ad, ar, af, at'⟩ := a
  obtain ⟨bc, bo, ba, bd, br, bf, bt⟩ := b
  have hbl : Below w.heap.size w ((w.alloc (.cells #[.int .i64 ac, .int .i64 ao, .int .i64 aa, .bool ad, .int .i64 ar, .int .i64 af, .int .i64 at'] 35)).alloc (.cells #[.int .i64 bc, .int .i64 bo, .int .i64 ba, .bool bd, .int .i64 br, .int .i64 bf, .int .i64 bt] 35)) := bstep ((Below.refl _ _).alloc (Nat.le_refl _) _) ((Below.refl _ _).alloc (Nat.le_refl _) _)
  cases ad with
  | false =>
    rw [befO_open rfl]
    go_enter Try.func37, Try.ntmps37
    go_wp2
    go_ret
    exact ⟨rfl, hbl⟩
  | true =>
    by_cases h : at' < bf
    · rw [befO_yes rfl h]
      simp only
      go_enter Try.func37, Try.ntmps37
      go_wp2
      go_ret
      exact ⟨rfl, hbl⟩
    · rw [befO_no rfl h]
      simp only
      have hd : decide (at' < bf) = false := by simpa using h
      go_enter Try.func37, Try.ntmps37
      go_wp2
      go_ret
      exact ⟨rfl, hbl⟩
end Go.Proofs.Ytbjeeefkbmdmfaa
