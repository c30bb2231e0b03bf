/- The program's queue: New, what waits. -/
import Derived.Test.YtedingegmiacmaaQMem
import Derived.Test.YtedingegmiacmaaIvClone
import Derived.Test.YtedingegmiacmaaIvIdx
import Derived.Test.YtedingegmiacmaaUpMem
import Derived.BigQuiet
namespace Go.Proofs.Ytedingegmiacmaa
open Go.RowKit
set_option linter.unusedVariables false

set_option maxHeartbeats 4000000 in
set_option maxRecDepth 100000 in
theorem new19_no (most : Int) (h : most < 1 ∨ 8 < most) (w : World) :
    Calls Try.prog 8 #[.int .i64 most] w fun e w' => e = .returned (.tuple #[.pointer none, .int .i64 2]) ∧ w' = w := by
  have hg : decide (most < 1) = true ∨ (decide (most < 1) = false ∧ decide (8 < most) = true) := by
    by_cases h1 : most < 1
    · exact .inl (decide_eq_true h1)
    · exact .inr ⟨decide_eq_false h1, decide_eq_true (by omega)⟩
  clear h
  rcases hg with hg | ⟨hg, hg2⟩
  · go_enter Try.func8, Try.ntmps8
    go_wp2_with fail
    go_ret2
    exact ⟨rfl, rfl⟩
  · go_enter Try.func8, Try.ntmps8
    go_wp2_with fail
    go_ret2
    exact ⟨rfl, rfl⟩
set_option maxHeartbeats 4000000 in
set_option maxRecDepth 100000 in
theorem new19_yes (most : Nat) (h1 : 1 ≤ most) (h2 : most ≤ 8) (w : World) :
    Calls Try.prog 8 #[.int .i64 most] w fun e w' => e = .returned (.tuple #[.pointer (some ⟨w.heap.size, 0, none⟩), .int .i64 0]) ∧ Qm w' w.heap.size most [] ∧ Below w.heap.size w w' := by
  have HQ : Bx (Qm (w.alloc (.cells #[.int .i64 most, .int .i64 0, .int .i64 0, .int .i64 0, .int .i64 0, .int .i64 0, .int .i64 0, .int .i64 0, .int .i64 0, .int .i64 0] 54)) w.heap.size most []) := ⟨⟨[(most : Int), 0, 0, 0, 0, 0, 0, 0, 0, 0], ⟨heap_alloc_new _ _, rfl⟩, rfl, (fun i hi => absurd hi (Nat.not_lt_zero _)), rfl, by decide⟩⟩
  have HB : Bx (Below w.heap.size w (w.alloc (.cells #[.int .i64 most, .int .i64 0, .int .i64 0, .int .i64 0, .int .i64 0, .int .i64 0, .int .i64 0, .int .i64 0, .int .i64 0, .int .i64 0] 54))) := ⟨(Below.refl _ _).alloc (Nat.le_refl _) _⟩
  have hg1 : ¬ (most : Int) < 1 := by omega
  have hg2 : ¬ (8 : Int) < (most : Int) := by omega
  go_enter Try.func8, Try.ntmps8
  go_wp2_with fail
  go_ret2
  exact ⟨rfl, HQ.out, HB.out⟩
section
variable {w : World} {g most : Nat} {L : List Int}
set_option maxHeartbeats 1000000 in
theorem made_yes (h : Qm w g most L) (h1 : 1 ≤ most) :
    Calls Try.prog 23 #[.pointer (some ⟨g, 0, none⟩)] w fun e w' => e = .returned (.bool true) ∧ w' = w := by
  have c0 := h.c0
  have hg : decide (0 < most) = true := decide_eq_true (by omega)
  clear h
  go_enter Try.func23, Try.ntmps23
  go_wp2_with fail
  go_ret
  exact ⟨by show Ending.returned (.bool _) = _; first | rfl | rw [hg], rfl⟩
set_option maxHeartbeats 1000000 in
theorem made_plain (h : Q0 w g) :
    Calls Try.prog 23 #[.pointer (some ⟨g, 0, none⟩)] w fun e w' => e = .returned (.bool false) ∧ w' = w := by
  have c0 := h.c0
  clear h
  go_enter Try.func23, Try.ntmps23
  go_wp2_with fail
  go_ret
  exact ⟨rfl, rfl⟩
set_option maxHeartbeats 1000000 in
theorem made_nil (w : World) :
    Calls Try.prog 23 #[.pointer none] w fun e w' => e = .returned (.bool false) ∧ w' = w := by
  go_enter Try.func23, Try.ntmps23
  go_wp2_with fail
  go_ret
  exact ⟨rfl, rfl⟩
set_option maxHeartbeats 4000000 in
set_option maxRecDepth 100000 in
theorem all_yes (h : Qm w g most L) (h1 : 1 ≤ most) :
    Calls Try.prog 25 #[.pointer (some ⟨g, 0, none⟩)] w fun e w' => e = .returned (.slice (some ⟨g, 1, none⟩) L.length 8) ∧ Below w.heap.size w w' := by
  have H := Bx.mk h
  have hl := h.len
  have c9 := h.c9
  obtain ⟨n, HN⟩ : ∃ n, Bx (L.length = n) := ⟨_, ⟨rfl⟩⟩
  rw [HN.out] at hl c9 ⊢
  have h8 : (n : Int) ≤ 8 := by omega
  clear h
  go_enter Try.func25, Try.ntmps25
  go_wp2_with fail
  refine (made_yes H.out h1).mono ?_
  rintro e wz ⟨rfl, hw⟩
  obtain rfl : w = wz := hw.symm
  clear hw
  go_wp2_with fail
  go_quiet (fail)
  go_wp2_with fail
  go_ret
  exact ⟨rfl, below_drewN (Below.refl _ _) _⟩
set_option maxHeartbeats 1000000 in
theorem all_nil (w : World) :
    Calls Try.prog 25 #[.pointer none] w fun e w' => e = .returned (.slice none 0 0) ∧ w' = w := by
  go_enter Try.func25, Try.ntmps25
  go_wp2_with fail
  refine (made_nil w).mono ?_
  rintro e wz ⟨rfl, hw⟩
  obtain rfl : w = wz := hw.symm
  clear hw
  go_wp2_with fail
  go_ret
  exact ⟨rfl, rfl⟩
set_option maxHeartbeats 1000000 in
theorem len_nil (w : World) :
    Calls Try.prog 19 #[.pointer none] w fun e w' => e = .returned (.int .i64 0) ∧ w' = w := by
  go_enter Try.func19, Try.ntmps19
  go_wp2_with fail
  refine (all_nil w).mono ?_
  rintro e wz ⟨rfl, hw⟩
  obtain rfl : w = wz := hw.symm
  clear hw
  go_wp2_with fail
  go_ret
  exact ⟨rfl, rfl⟩
set_option maxHeartbeats 1000000 in
theorem first_nil (w : World) :
    Calls Try.prog 17 #[.pointer none] w fun e w' => e = .returned (.tuple #[.int .i64 0, .bool false]) ∧ w' = w := by
  go_enter Try.func17, Try.ntmps17
  go_wp2_with fail
  refine (len_nil w).mono ?_
  rintro e wz ⟨rfl, hw⟩
  obtain rfl : w = wz := hw.symm
  clear hw
  go_wp2_with fail
  go_ret2
  exact ⟨rfl, rfl⟩
set_option maxHeartbeats 1000000 in
theorem waiting_nil (w : World) :
    Calls Try.prog 16 #[.pointer none] w fun e w' => e = .returned (.slice none 0 0) ∧ w' = w := by
  go_enter Try.func16, Try.ntmps16
  go_wp2_with fail
  refine (all_nil w).mono ?_
  rintro e wz ⟨rfl, hw⟩
  obtain rfl : w = wz := hw.symm
  clear hw
  go_wp2_with fail
  refine (cloneN_none _).mono ?_
  rintro e wz ⟨rfl, hw⟩
  obtain rfl : w = wz := hw.symm
  clear hw
  go_wp2_with fail
  go_ret
  exact ⟨rfl, rfl⟩
set_option maxHeartbeats 1000000 in
theorem all_plain (h : Q0 w g) :
    Calls Try.prog 25 #[.pointer (some ⟨g, 0, none⟩)] w fun e w' => e = .returned (.slice none 0 0) ∧ w' = w := by
  go_enter Try.func25, Try.ntmps25
  go_wp2_with fail
  refine (made_plain h).mono ?_
  rintro e wz ⟨rfl, hw⟩
  obtain rfl : w = wz := hw.symm
  clear hw
  go_wp2_with fail
  go_ret
  exact ⟨rfl, rfl⟩
set_option maxHeartbeats 1000000 in
theorem len_plain (h : Q0 w g) :
    Calls Try.prog 19 #[.pointer (some ⟨g, 0, none⟩)] w fun e w' => e = .returned (.int .i64 0) ∧ w' = w := by
  go_enter Try.func19, Try.ntmps19
  go_wp2_with fail
  refine (all_plain h).mono ?_
  rintro e wz ⟨rfl, hw⟩
  obtain rfl : w = wz := hw.symm
  clear hw
  go_wp2_with fail
  go_ret
  exact ⟨rfl, rfl⟩
set_option maxHeartbeats 1000000 in
theorem first_plain (h : Q0 w g) :
    Calls Try.prog 17 #[.pointer (some ⟨g, 0, none⟩)] w fun e w' => e = .returned (.tuple #[.int .i64 0, .bool false]) ∧ w' = w := by
  go_enter Try.func17, Try.ntmps17
  go_wp2_with fail
  refine (len_plain h).mono ?_
  rintro e wz ⟨rfl, hw⟩
  obtain rfl : w = wz := hw.symm
  clear hw
  go_wp2_with fail
  go_ret2
  exact ⟨rfl, rfl⟩
set_option maxHeartbeats 1000000 in
theorem waiting_plain (h : Q0 w g) :
    Calls Try.prog 16 #[.pointer (some ⟨g, 0, none⟩)] w fun e w' => e = .returned (.slice none 0 0) ∧ w' = w := by
  go_enter Try.func16, Try.ntmps16
  go_wp2_with fail
  refine (all_plain h).mono ?_
  rintro e wz ⟨rfl, hw⟩
  obtain rfl : w = wz := hw.symm
  clear hw
  go_wp2_with fail
  refine (cloneN_none _).mono ?_
  rintro e wz ⟨rfl, hw⟩
  obtain rfl : w = wz := hw.symm
  clear hw
  go_wp2_with fail
  go_ret
  exact ⟨rfl, rfl⟩
set_option maxHeartbeats 1000000 in
theorem len_yes (h : Qm w g most L) (h1 : 1 ≤ most) :
    Calls Try.prog 19 #[.pointer (some ⟨g, 0, none⟩)] w fun e w' => e = .returned (.int .i64 (L.length : Nat)) ∧ Below w.heap.size w w' := by
  have H := Bx.mk h
  clear h
  go_enter Try.func19, Try.ntmps19
  go_wp2_with fail
  refine (all_yes H.out h1).mono ?_
  rintro e w1 ⟨rfl, hb⟩
  have HB := Bx.mk hb
  clear hb
  go_wp2_with fail
  go_ret
  exact ⟨rfl, HB.out⟩
set_option maxHeartbeats 1000000 in
theorem waiting_yes (h : Qm w g most L) (h1 : 1 ≤ most) :
    Calls Try.prog 16 #[.pointer (some ⟨g, 0, none⟩)] w fun e w' => ∃ v, e = .returned v ∧ w'.ownsRow w.heap.size 3 1 v L.length (L.flatMap ivC) ∧ Below w.heap.size w w' := by
  have H := Bx.mk h
  clear h
  go_enter Try.func16, Try.ntmps16
  go_wp2_with fail
  refine (all_yes H.out h1).mono ?_
  rintro e w1 ⟨rfl, hb⟩
  have HI := Bx.mk (H.out.ivs.below hb)
  have HL := Bx.mk H.out.len
  have HB := Bx.mk hb
  have HSZ := Bx.mk hb.size
  clear hb
  go_wp2_with fail
  refine (cloneN_any _ _ _ _ _ HI.out (by have := HL.out; omega)).mono ?_
  rintro e w2 ⟨v, rfl, ho, hb2⟩
  have HO := Bx.mk (owns_base ho HSZ.out)
  have HB2 := Bx.mk (bstep HB.out hb2)
  clear ho hb2
  go_wp2_with fail
  go_ret
  exact ⟨_, rfl, HO.out, HB2.out⟩
set_option maxHeartbeats 1000000 in
theorem first_yes (h : Qm w g most L) (h1 : 1 ≤ most) :
    Calls Try.prog 17 #[.pointer (some ⟨g, 0, none⟩)] w fun e w' => e = .returned (.tuple #[.int .i64 (L.getD 0 0), .bool (decide (0 < L.length))]) ∧ Below w.heap.size w w' := by
  have H := Bx.mk h
  obtain ⟨y, HY⟩ : ∃ y, Bx (L.getD 0 0 = y) := ⟨_, ⟨rfl⟩⟩
  obtain ⟨b, HBB⟩ : ∃ b, Bx (decide (0 < L.length) = b) := ⟨_, ⟨rfl⟩⟩
  rw [HY.out, HBB.out]
  clear h
  go_enter Try.func17, Try.ntmps17
  go_wp2_with fail
  refine (len_yes H.out h1).mono ?_
  rintro e w1 ⟨rfl, hb⟩
  have HB := Bx.mk hb
  have H1 := Bx.mk (H.out.below hb)
  clear hb H
  cases L with
  | nil =>
    obtain rfl : 0 = y := HY.out
    obtain rfl : false = b := HBB.out
    go_wp2_with fail
    go_ret2
    exact ⟨rfl, HB.out⟩
  | cons x t =>
    have c1 := H1.out.cj 0 (Nat.succ_pos _)
    rw [HY.out] at c1
    obtain rfl : true = b := by rw [← HBB.out]; simp
    have hq : ((((x :: t).length : Nat) : Int) == 0) = false := beq_false_of_ne (by rw [List.length_cons]; omega)
    generalize (x :: t).length = n at hq ⊢
    go_wp2_with fail
    go_ret2
    exact ⟨rfl, HB.out⟩
end
end Go.Proofs.Ytedingegmiacmaa
