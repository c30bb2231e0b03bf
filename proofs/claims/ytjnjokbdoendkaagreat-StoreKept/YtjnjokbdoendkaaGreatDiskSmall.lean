/- What the small calls of a disk answer. -/
import Derived.Test.YtjnjokbdoendkaaGreatDiskMem
namespace Go.Proofs.YtjnjokbdoendkaaGreat
open Go.RowKit
set_option linter.unusedVariables false

set_option maxHeartbeats 400000 in
theorem made_yes (g : Nat) (own : Nat → Prop) (s : DS) (w : World) (h : Dsk w g own s) :
    Calls Tryz.prog 49 #[.pointer (some ⟨g, 0, none⟩)] w fun e w' => e = .returned (.bool true) ∧ w = w' := by
  obtain ⟨gf, gn, vo, hR⟩ := h
  have c0 := hR.c0
  have hn : decide (0 < s.F.length) = true := by have := hR.n1; simp; omega
  generalize s.F.length = n at hn c0
  clear hR
  go_enter Tryz.func49, Tryz.ntmps49
  go_wp2
  go_ret
  exact ⟨rfl, rfl⟩
set_option maxHeartbeats 400000 in
theorem made_nil (w : World) :
    Calls Tryz.prog 49 #[.pointer none] w fun e w' => e = .returned (.bool false) ∧ w = w' := by
  go_enter Tryz.func49, Tryz.ntmps49
  go_wp2
  go_ret
  exact ⟨rfl, rfl⟩
set_option maxHeartbeats 400000 in
theorem made_zero (g : Nat) (w : World) (c0 : w.cell? ⟨g, 0, none⟩ = some (.slice none 0 0)) :
    Calls Tryz.prog 49 #[.pointer (some ⟨g, 0, none⟩)] w fun e w' => e = .returned (.bool false) ∧ w = w' := by
  go_enter Tryz.func49, Tryz.ntmps49
  go_wp2
  go_ret
  exact ⟨rfl, rfl⟩
/-- a disk that no call made: nil, or the zero one -/
def NoD (w : World) (p : Option Addr) : Prop := p = none ∨ ∃ g, p = some ⟨g, 0, none⟩ ∧ w.cell? ⟨g, 0, none⟩ = some (.slice none 0 0)
set_option maxRecDepth 100000 in
theorem made_no (p : Option Addr) (w : World) (h : NoD w p) :
    Calls Tryz.prog 49 #[.pointer p] w fun e w' => e = .returned (.bool false) ∧ w = w' := by
  rcases h with rfl | ⟨g, rfl, h⟩
  · exact made_nil w
  · exact made_zero g w h

/-- what comes ahead of all else -/
def DS.rdy (s : DS) : Int := if s.off then 14 else 0
set_option maxHeartbeats 400000 in
theorem ready_any (g : Nat) (own : Nat → Prop) (s : DS) (w : World) (h : Dsk w g own s) :
    Calls Tryz.prog 48 #[.pointer (some ⟨g, 0, none⟩)] w fun e w' => e = .returned (.int .i64 s.rdy) ∧ w = w' := by
  have H : Bx (Dsk w g own s) := ⟨h⟩
  obtain ⟨gf, gn, vo, hR⟩ := h
  have c5 := hR.c5
  clear hR
  go_enter Tryz.func48, Tryz.ntmps48
  go_wp2_with fail
  refine (made_yes g own s _ H.out).mono ?_
  rintro e w' ⟨rfl, rfl⟩
  cases hof : s.off
  · rw [hof] at c5
    have HE : Hid (s.rdy = 0) := by show _ = _; simp [DS.rdy, hof]
    clear hof
    go_wp2
    go_ret
    exact ⟨ret_int HE.out.symm, rfl⟩
  · rw [hof] at c5
    have HE : Hid (s.rdy = 14) := by show _ = _; simp [DS.rdy, hof]
    clear hof
    go_wp2
    go_ret
    exact ⟨ret_int HE.out.symm, rfl⟩
set_option maxHeartbeats 400000 in
theorem ready_no (p : Option Addr) (w : World) (h : NoD w p) :
    Calls Tryz.prog 48 #[.pointer p] w fun e w' => e = .returned (.int .i64 1) ∧ w = w' := by
  have H : Bx (NoD w p) := ⟨h⟩
  clear h
  go_enter Tryz.func48, Tryz.ntmps48
  go_wp2_with fail
  refine (made_no p _ H.out).mono ?_
  rintro e w' ⟨rfl, rfl⟩
  go_wp2
  go_ret
  exact ⟨rfl, rfl⟩

set_option maxHeartbeats 400000 in
theorem has_any (g : Nat) (own : Nat → Prop) (s : DS) (x : Int) (w : World) (h : Dsk w g own s) :
    Calls Tryz.prog 116 #[.pointer (some ⟨g, 0, none⟩), .int .i64 x] w fun e w' => e = .returned (.bool (decide (0 ≤ x) && decide (x < (s.F.length : Int)))) ∧ w = w' := by
  obtain ⟨gf, gn, vo, hR⟩ := h
  have c0 := hR.c0
  clear hR
  generalize s.F.length = n at c0
  by_cases h1 : 0 ≤ x
  · have g1 : decide (x ≥ 0) = true := by simpa using h1
    have e1 : decide (0 ≤ x) = true := by simpa using h1
    by_cases h2 : x < (n : Int)
    · have g2 : decide (x < (n : Int)) = true := by simpa using h2
      rw [e1, g2]
      clear e1
      go_enter Tryz.func116, Tryz.ntmps116
      go_wp2
      go_ret
      exact ⟨rfl, rfl⟩
    · have g2 : decide (x < (n : Int)) = false := by simpa using h2
      rw [e1, g2]
      clear e1
      go_enter Tryz.func116, Tryz.ntmps116
      go_wp2
      go_ret
      exact ⟨rfl, rfl⟩
  · have g1 : decide (x ≥ 0) = false := by simpa using h1
    have e1 : decide (0 ≤ x) = false := by simpa using h1
    rw [e1]
    clear e1
    go_enter Tryz.func116, Tryz.ntmps116
    go_wp2
    go_ret
    exact ⟨rfl, rfl⟩

set_option maxHeartbeats 400000 in
theorem sectors_any (g : Nat) (own : Nat → Prop) (s : DS) (w : World) (h : Dsk w g own s) :
    Calls Tryz.prog 57 #[.pointer (some ⟨g, 0, none⟩)] w fun e w' => e = .returned (.int .i64 s.F.length) ∧ w = w' := by
  have H : Bx (Dsk w g own s) := ⟨h⟩
  obtain ⟨gf, gn, vo, hR⟩ := h
  have c0 := hR.c0
  clear hR
  go_enter Tryz.func57, Tryz.ntmps57
  go_wp2_with fail
  refine (made_yes g own s _ H.out).mono ?_
  rintro e w' ⟨rfl, rfl⟩
  go_wp2
  go_ret
  exact ⟨rfl, rfl⟩
set_option maxRecDepth 100000 in
theorem opn_form {w : World} {v : Value} {base : Nat} {e : TypeId} {size n : Nat} {xs : List Value} (h : w.ownsRow base e size v n xs) : ∃ a c, v = .slice a n c := by
  rcases h.2 with ⟨rfl, rfl⟩ | ⟨g, cap, cur, rfl, _⟩
  · exact ⟨_, _, rfl⟩
  · exact ⟨_, _, rfl⟩
set_option maxHeartbeats 400000 in
theorem sectors_no (p : Option Addr) (w : World) (h : NoD w p) :
    Calls Tryz.prog 57 #[.pointer p] w fun e w' => e = .returned (.int .i64 0) ∧ w = w' := by
  have H : Bx (NoD w p) := ⟨h⟩
  clear h
  go_enter Tryz.func57, Tryz.ntmps57
  go_wp2_with fail
  refine (made_no p _ H.out).mono ?_
  rintro e w' ⟨rfl, rfl⟩
  go_wp2
  go_ret
  exact ⟨rfl, rfl⟩
set_option maxHeartbeats 400000 in
theorem sync_no (p : Option Addr) (w : World) (h : NoD w p) :
    Calls Tryz.prog 97 #[.pointer p] w fun e w' => e = .returned (.int .i64 1) ∧ w = w' := by
  have H : Bx (NoD w p) := ⟨h⟩
  clear h
  go_enter Tryz.func97, Tryz.ntmps97
  go_wp2_with fail
  refine (ready_no p _ H.out).mono ?_
  rintro e w' ⟨rfl, rfl⟩
  go_wp2
  go_ret
  exact ⟨rfl, rfl⟩
set_option maxHeartbeats 400000 in
theorem arm_no (p : Option Addr) (x : Int) (w : World) (h : NoD w p) :
    Calls Tryz.prog 17 #[.pointer p, .int .i64 x] w fun e w' => e = .returned (.int .i64 1) ∧ w = w' := by
  have H : Bx (NoD w p) := ⟨h⟩
  clear h
  go_enter Tryz.func17, Tryz.ntmps17
  go_wp2_with fail
  refine (ready_no p _ H.out).mono ?_
  rintro e w' ⟨rfl, rfl⟩
  go_wp2
  go_ret
  exact ⟨rfl, rfl⟩
set_option maxHeartbeats 400000 in
theorem crash_no (p : Option Addr) (v : Value) (w : World) (h : NoD w p) :
    Calls Tryz.prog 19 #[.pointer p, v] w fun e w' => e = .returned (.int .i64 1) ∧ w = w' := by
  have H : Bx (NoD w p) := ⟨h⟩
  clear h
  go_enter Tryz.func19, Tryz.ntmps19
  go_wp2_with fail
  refine (made_no p _ H.out).mono ?_
  rintro e w' ⟨rfl, rfl⟩
  go_wp2
  go_ret
  exact ⟨rfl, rfl⟩
set_option maxHeartbeats 400000 in
theorem write_no (p : Option Addr) (x : Int) (v : Value) (w : World) (h : NoD w p) :
    Calls Tryz.prog 96 #[.pointer p, .int .i64 x, v] w fun e w' => e = .returned (.int .i64 1) ∧ w = w' := by
  have H : Bx (NoD w p) := ⟨h⟩
  clear h
  go_enter Tryz.func96, Tryz.ntmps96
  go_wp2_with fail
  refine (ready_no p _ H.out).mono ?_
  rintro e w' ⟨rfl, rfl⟩
  go_wp2
  go_ret
  exact ⟨rfl, rfl⟩
set_option maxHeartbeats 400000 in
theorem read_no (p : Option Addr) (x : Int) (w : World) (h : NoD w p) :
    Calls Tryz.prog 93 #[.pointer p, .int .i64 x] w fun e w' => e = .returned (.tuple #[.slice none 0 0, .int .i64 1]) ∧ w = w' := by
  have H : Bx (NoD w p) := ⟨h⟩
  clear h
  go_enter Tryz.func93, Tryz.ntmps93
  go_wp2_with fail
  refine (ready_no p _ H.out).mono ?_
  rintro e w' ⟨rfl, rfl⟩
  go_wp2
  go_ret2
  exact ⟨rfl, rfl⟩
end Go.Proofs.YtjnjokbdoendkaaGreat
