/- What the small calls of a disk answer. -/
import Derived.Test.YtjnjokbdoendkabDiskMem
namespace Go.Proofs.Ytjnjokbdoendkab
open Go.RowKit
set_option linter.unusedVariables false

set_option maxHeartbeats 400000 in
theorem made_yes (g : Nat) (own : Nat → Prop) (s : DS) (w : World) (h : Dsk w g own s) :
    Calls Try.prog 60 #[.pointer (some ⟨g, 0, none⟩)] w fun e w' => e = .returned (.bool true) ∧ w = w' := by
  obtain ⟨gf, gn, vo, hR⟩ := h
  have c0 := hR.c0
  have hn : decide (0 < s.F.length) = true := by have := hR.n1; simp; omega
  generalize s.F.length = n at hn c0
  clear hR
  go_enter Try.func60, Try.ntmps60
  go_wp2
  go_ret
  exact ⟨rfl, rfl⟩
set_option maxHeartbeats 400000 in
theorem made_nil (w : World) :
    Calls Try.prog 60 #[.pointer none] w fun e w' => e = .returned (.bool false) ∧ w = w' := by
  go_enter Try.func60, Try.ntmps60
  go_wp2
  go_ret
  exact ⟨rfl, rfl⟩
set_option maxHeartbeats 400000 in
theorem made_zero (g : Nat) (w : World) (c0 : w.cell? ⟨g, 0, none⟩ = some (.slice none 0 0)) :
    Calls Try.prog 60 #[.pointer (some ⟨g, 0, none⟩)] w fun e w' => e = .returned (.bool false) ∧ w = w' := by
  go_enter Try.func60, Try.ntmps60
  go_wp2
  go_ret
  exact ⟨rfl, rfl⟩
/-- a disk that no call made: nil, or the zero one -/
def NoD (w : World) (p : Option Addr) : Prop := p = none ∨ ∃ g, p = some ⟨g, 0, none⟩ ∧ w.cell? ⟨g, 0, none⟩ = some (.slice none 0 0)
set_option maxRecDepth 100000 in
theorem made_no (p : Option Addr) (w : World) (h : NoD w p) :
    Calls Try.prog 60 #[.pointer p] w fun e w' => e = .returned (.bool false) ∧ w = w' := by
  rcases h with rfl | ⟨g, rfl, h⟩
  · exact made_nil w
  · exact made_zero g w h

/-- what comes ahead of all else -/
def DS.rdy (s : DS) : Int := if s.off then 14 else 0
set_option maxHeartbeats 400000 in
theorem ready_any (g : Nat) (own : Nat → Prop) (s : DS) (w : World) (h : Dsk w g own s) :
    Calls Try.prog 83 #[.pointer (some ⟨g, 0, none⟩)] w fun e w' => e = .returned (.int .i64 s.rdy) ∧ w = w' := by
  have H : Bx (Dsk w g own s) := ⟨h⟩
  obtain ⟨gf, gn, vo, hR⟩ := h
  have c5 := hR.c5
  clear hR
  go_enter Try.func83, Try.ntmps83
  go_wp2_with fail
  refine (made_yes g own s _ H.out).mono ?_
  rintro e w' ⟨rfl, rfl⟩
  cases hof : s.off
  · rw [hof] at c5
    have HE : Hid (s.rdy = 0) := by show _ = _; simp [DS.rdy, hof]
    clear hof
    go_wp2
    go_ret
    exact ⟨ret_int HE.out.symm, rfl⟩
  · rw [hof] at c5
    have HE : Hid (s.rdy = 14) := by show _ = _; simp [DS.rdy, hof]
    clear hof
    go_wp2
    go_ret
    exact ⟨ret_int HE.out.symm, rfl⟩
set_option maxHeartbeats 400000 in
theorem ready_no (p : Option Addr) (w : World) (h : NoD w p) :
    Calls Try.prog 83 #[.pointer p] w fun e w' => e = .returned (.int .i64 1) ∧ w = w' := by
  have H : Bx (NoD w p) := ⟨h⟩
  clear h
  go_enter Try.func83, Try.ntmps83
  go_wp2_with fail
  refine (made_no p _ H.out).mono ?_
  rintro e w' ⟨rfl, rfl⟩
  go_wp2
  go_ret
  exact ⟨rfl, rfl⟩

set_option maxHeartbeats 400000 in
theorem has_any (g : Nat) (own : Nat → Prop) (s : DS) (x : Int) (w : World) (h : Dsk w g own s) :
    Calls Try.prog 84 #[.pointer (some ⟨g, 0, none⟩), .int .i64 x] w fun e w' => e = .returned (.bool (decide (0 ≤ x) && decide (x < (s.F.length : Int)))) ∧ w = w' := by
  obtain ⟨gf, gn, vo, hR⟩ := h
  have c0 := hR.c0
  clear hR
  generalize s.F.length = n at c0
  by_cases h1 : 0 ≤ x
  · have g1 : decide (x ≥ 0) = true := by simpa using h1
    have e1 : decide (0 ≤ x) = true := by simpa using h1
    by_cases h2 : x < (n : Int)
    · have g2 : decide (x < (n : Int)) = true := by simpa using h2
      rw [e1, g2]
      clear e1
      go_enter Try.func84, Try.ntmps84
      go_wp2
      go_ret
      exact ⟨rfl, rfl⟩
    · have g2 : decide (x < (n : Int)) = false := by simpa using h2
      rw [e1, g2]
      clear e1
      go_enter Try.func84, Try.ntmps84
      go_wp2
      go_ret
      exact ⟨rfl, rfl⟩
  · have g1 : decide (x ≥ 0) = false := by simpa using h1
    have e1 : decide (0 ≤ x) = false := by simpa using h1
    rw [e1]
    clear e1
    go_enter Try.func84, Try.ntmps84
    go_wp2
    go_ret
    exact ⟨rfl, rfl⟩

set_option maxHeartbeats 400000 in
theorem sectors_any (g : Nat) (own : Nat → Prop) (s : DS) (w : World) (h : Dsk w g own s) :
    Calls Try.prog 39 #[.pointer (some ⟨g, 0, none⟩)] w fun e w' => e = .returned (.int .i64 s.F.length) ∧ w = w' := by
  have H : Bx (Dsk w g own s) := ⟨h⟩
  obtain ⟨gf, gn, vo, hR⟩ := h
  have c0 := hR.c0
  clear hR
  go_enter Try.func39, Try.ntmps39
  go_wp2_with fail
  refine (made_yes g own s _ H.out).mono ?_
  rintro e w' ⟨rfl, rfl⟩
  go_wp2
  go_ret
  exact ⟨rfl, rfl⟩
set_option maxRecDepth 100000 in
theorem opn_form {w : World} {v : Value} {base : Nat} {e : TypeId} {size n : Nat} {xs : List Value} (h : w.ownsRow base e size v n xs) : ∃ a c, v = .slice a n c := by
  rcases h.2 with ⟨rfl, rfl⟩ | ⟨g, cap, cur, rfl, _⟩
  · exact ⟨_, _, rfl⟩
  · exact ⟨_, _, rfl⟩
set_option maxHeartbeats 400000 in
theorem sectors_no (p : Option Addr) (w : World) (h : NoD w p) :
    Calls Try.prog 39 #[.pointer p] w fun e w' => e = .returned (.int .i64 0) ∧ w = w' := by
  have H : Bx (NoD w p) := ⟨h⟩
  clear h
  go_enter Try.func39, Try.ntmps39
  go_wp2_with fail
  refine (made_no p _ H.out).mono ?_
  rintro e w' ⟨rfl, rfl⟩
  go_wp2
  go_ret
  exact ⟨rfl, rfl⟩
set_option maxHeartbeats 400000 in
theorem sync_no (p : Option Addr) (w : World) (h : NoD w p) :
    Calls Try.prog 65 #[.pointer p] w fun e w' => e = .returned (.int .i64 1) ∧ w = w' := by
  have H : Bx (NoD w p) := ⟨h⟩
  clear h
  go_enter Try.func65, Try.ntmps65
  go_wp2_with fail
  refine (ready_no p _ H.out).mono ?_
  rintro e w' ⟨rfl, rfl⟩
  go_wp2
  go_ret
  exact ⟨rfl, rfl⟩
set_option maxHeartbeats 400000 in
theorem write_no (p : Option Addr) (x : Int) (v : Value) (w : World) (h : NoD w p) :
    Calls Try.prog 64 #[.pointer p, .int .i64 x, v] w fun e w' => e = .returned (.int .i64 1) ∧ w = w' := by
  have H : Bx (NoD w p) := ⟨h⟩
  clear h
  go_enter Try.func64, Try.ntmps64
  go_wp2_with fail
  refine (ready_no p _ H.out).mono ?_
  rintro e w' ⟨rfl, rfl⟩
  go_wp2
  go_ret
  exact ⟨rfl, rfl⟩
set_option maxHeartbeats 400000 in
theorem read_no (p : Option Addr) (x : Int) (w : World) (h : NoD w p) :
    Calls Try.prog 61 #[.pointer p, .int .i64 x] w fun e w' => e = .returned (.tuple #[.slice none 0 0, .int .i64 1]) ∧ w = w' := by
  have H : Bx (NoD w p) := ⟨h⟩
  clear h
  go_enter Try.func61, Try.ntmps61
  go_wp2_with fail
  refine (ready_no p _ H.out).mono ?_
  rintro e w' ⟨rfl, rfl⟩
  go_wp2
  go_ret2
  exact ⟨rfl, rfl⟩
end Go.Proofs.Ytjnjokbdoendkab
