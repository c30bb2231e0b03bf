/- What the small calls of a reader of chunks answer. -/
import Derived.Test.YtdameoejigpnhaaGreatDoorChunkMem
import Derived.Test.YtdameoejigpnhaaGreatDoorClone
namespace Go.Proofs.YtdameoejigpnhaaGreatDoor
open Go.RowKit
set_option linter.unusedVariables false

/-- what the one byte must be, and where a reader stands behind it -/
def fxB (p : Nat) : Int := if p = 1 ∨ p = 5 ∨ p = 8 then 13 else 10
def fxN (p : Nat) : Nat := if p = 1 then 7 else if p = 6 then 0 else p + 1
set_option maxRecDepth 100000 in
theorem stp_fix (most : Nat) (s : CS) (b : Int) (h : s.ph < 10) (h0 : s.ph ≠ 0) (h2 : s.ph ≠ 2) (h4 : s.ph ≠ 4) (hc : CI most s) : stp most s b = if b = fxB s.ph then (⟨fxN s.ph, s.n, s.body⟩, 0) else (s, 4) := by
  obtain ⟨ph, n, body⟩ := s
  have hz := hc.z
  simp only at h h0 h2 h4 hz
  match ph, h with
  | 0, _ => exact absurd rfl h0
  | 1, _ => rw [hz (by decide) (by decide)]; rfl
  | 2, _ => exact absurd rfl h2
  | 3, _ => rfl
  | 4, _ => exact absurd rfl h4
  | 5, _ => rw [hz (by decide) (by decide)]; rfl
  | 6, _ => rw [hz (by decide) (by decide)]; rfl
  | 7, _ => rw [hz (by decide) (by decide)]; rfl
  | 8, _ => rw [hz (by decide) (by decide)]; rfl
  | 9, _ => rw [hz (by decide) (by decide)]; rfl
  | (k + 10), h => omega
set_option maxHeartbeats 400000 in
theorem fixed_any (p : Nat) (w : World) (h : p < 10) (h0 : p ≠ 0) (h2 : p ≠ 2) (h4 : p ≠ 4) :
    Calls Tryz.prog 73 #[.int .i64 (atN p)] w fun e w' => e = .returned (.tuple #[.int .u8 (fxB p), .int .i64 (atN (fxN p))]) ∧ w = w' := by
  match p, h with
  | 0, _ => exact absurd rfl h0
  | 1, _ =>
    clear h0 h2 h4
    rw [show atN 1 = 7 from rfl, show atN (fxN 1) = 8 from rfl, show fxB 1 = 13 from rfl]
    go_enter Tryz.func73, Tryz.ntmps73
    go_wp2
    go_ret2
    exact ⟨rfl, rfl⟩
  | 2, _ => exact absurd rfl h2
  | 3, _ =>
    clear h0 h2 h4
    rw [show atN 3 = 3 from rfl, show atN (fxN 3) = 4 from rfl, show fxB 3 = 10 from rfl]
    go_enter Tryz.func73, Tryz.ntmps73
    go_wp2
    go_ret2
    exact ⟨rfl, rfl⟩
  | 4, _ => exact absurd rfl h4
  | 5, _ =>
    clear h0 h2 h4
    rw [show atN 5 = 5 from rfl, show atN (fxN 5) = 6 from rfl, show fxB 5 = 13 from rfl]
    go_enter Tryz.func73, Tryz.ntmps73
    go_wp2
    go_ret2
    exact ⟨rfl, rfl⟩
  | 6, _ =>
    clear h0 h2 h4
    rw [show atN 6 = 6 from rfl, show atN (fxN 6) = 1 from rfl, show fxB 6 = 10 from rfl]
    go_enter Tryz.func73, Tryz.ntmps73
    go_wp2
    go_ret2
    exact ⟨rfl, rfl⟩
  | 7, _ =>
    clear h0 h2 h4
    rw [show atN 7 = 8 from rfl, show atN (fxN 7) = 9 from rfl, show fxB 7 = 10 from rfl]
    go_enter Tryz.func73, Tryz.ntmps73
    go_wp2
    go_ret2
    exact ⟨rfl, rfl⟩
  | 8, _ =>
    clear h0 h2 h4
    rw [show atN 8 = 9 from rfl, show atN (fxN 8) = 10 from rfl, show fxB 8 = 13 from rfl]
    go_enter Tryz.func73, Tryz.ntmps73
    go_wp2
    go_ret2
    exact ⟨rfl, rfl⟩
  | 9, _ =>
    clear h0 h2 h4
    rw [show atN 9 = 10 from rfl, show atN (fxN 9) = 11 from rfl, show fxB 9 = 10 from rfl]
    go_enter Tryz.func73, Tryz.ntmps73
    go_wp2
    go_ret2
    exact ⟨rfl, rfl⟩
  | (k + 10), h => omega
/-- a digit's number, or 0 where it is none -/
def dgV (b : Int) : Int := if dgt b = 16 then 0 else (dgt b : Int)
set_option maxHeartbeats 400000 in
theorem digit_any (b : Int) (w : World) (h : 0 ≤ b ∧ b ≤ 255) :
    Calls Tryz.prog 89 #[.int .u8 b] w fun e w' => e = .returned (.tuple #[.int .i64 (dgV b), .bool (dgt b != 16)]) ∧ w = w' := by
  obtain ⟨h0, h255⟩ := h
  by_cases h1 : 48 ≤ b ∧ b ≤ 57
  · have e : dgt b = (b - 48).toNat := by unfold dgt; rw [if_pos h1]
    have HV : Bx (dgV b = b - 48) := ⟨by unfold dgV; rw [e, if_neg (by omega)]; omega⟩
    have HB : Bx ((dgt b != 16) = true) := ⟨by rw [e]; simp; omega⟩
    obtain ⟨a1, a2⟩ := h1
    have g1 : decide (b ≥ 48) = true := by simpa using a1
    have g2 : decide (b ≤ 57) = true := by simpa using a2
    clear e
    go_enter Tryz.func89, Tryz.ntmps89
    go_wp2
    go_ret2
    exact ⟨by rw [HV.out, HB.out]; rfl, rfl⟩
  · by_cases h2 : 97 ≤ b ∧ b ≤ 102
    · have e : dgt b = (b - 87).toNat := by unfold dgt; rw [if_neg h1, if_pos h2]
      have HV : Bx (dgV b = b - 97 + 10) := ⟨by unfold dgV; rw [e, if_neg (by omega)]; omega⟩
      have HB : Bx ((dgt b != 16) = true) := ⟨by rw [e]; simp; omega⟩
      obtain ⟨a1, a2⟩ := h2
      have g0 : decide (b ≥ 48) = true := by simp; omega
      have g0' : decide (b ≤ 57) = false := by simp; omega
      have g1 : decide (b ≥ 97) = true := by simpa using a1
      have g2 : decide (b ≤ 102) = true := by simpa using a2
      clear e h1
      go_enter Tryz.func89, Tryz.ntmps89
      go_wp2
      go_ret2
      exact ⟨by rw [HV.out, HB.out]; rfl, rfl⟩
    · have e : dgt b = 16 := by unfold dgt; rw [if_neg h1, if_neg h2]
      have HV : Bx (dgV b = 0) := ⟨by unfold dgV; rw [if_pos e]⟩
      have HB : Bx ((dgt b != 16) = false) := ⟨by rw [e]; rfl⟩
      clear e
      by_cases a1 : 48 ≤ b
      · have g0 : decide (b ≥ 48) = true := by simpa using a1
        have g0' : decide (b ≤ 57) = false := by simp; omega
        by_cases a2 : 97 ≤ b
        · have g1 : decide (b ≥ 97) = true := by simpa using a2
          have g2 : decide (b ≤ 102) = false := by simp; omega
          clear h1 h2
          go_enter Tryz.func89, Tryz.ntmps89
          go_wp2
          go_ret2
          exact ⟨by rw [HV.out, HB.out]; rfl, rfl⟩
        · have g1 : decide (b ≥ 97) = false := by simp; omega
          clear h1 h2
          go_enter Tryz.func89, Tryz.ntmps89
          go_wp2
          go_ret2
          exact ⟨by rw [HV.out, HB.out]; rfl, rfl⟩
      · have g0 : decide (b ≥ 48) = false := by simp; omega
        have g1 : decide (b ≥ 97) = false := by simp; omega
        clear h1 h2
        go_enter Tryz.func89, Tryz.ntmps89
        go_wp2
        go_ret2
        exact ⟨by rw [HV.out, HB.out]; rfl, rfl⟩
set_option maxRecDepth 100000 in
theorem atN_pos (p : Nat) : (atN p != 0) = true := by
  unfold atN; split
  · rfl
  · split
    · rfl
    · split <;> (simp; omega)
set_option maxHeartbeats 400000 in
theorem cmade_yes (g : Nat) (own : Nat → Prop) (most : Nat) (s : CS) (w : World) (h : Rd w g own most s) :
    Calls Tryz.prog 56 #[.pointer (some ⟨g, 0, none⟩)] w fun e w' => e = .returned (.bool true) ∧ w = w' := by
  obtain ⟨_, v, hR⟩ := h
  have c0 := hR.c0
  have hp := atN_pos s.ph
  generalize atN s.ph = x at c0 hp
  clear hR
  go_enter Tryz.func56, Tryz.ntmps56
  go_wp2
  go_ret
  exact ⟨rfl, rfl⟩
set_option maxHeartbeats 400000 in
theorem cnew_bad (x : Int) (w : World) (h : x < 0 ∨ 2048 < x) :
    Calls Tryz.prog 58 #[.int .i64 x] w fun e w' => e = .returned (.tuple #[.pointer none, .int .i64 2]) ∧ w = w' := by
  by_cases h1 : x < 0
  · have g1 : decide (x < 0) = true := by simpa using h1
    clear h
    go_enter Tryz.func58, Tryz.ntmps58
    go_wp2
    go_ret2
    exact ⟨rfl, rfl⟩
  · have g1 : decide (x < 0) = false := by simpa using h1
    have g2 : decide (x > 2048) = true := by rcases h with h | h; exact absurd h h1; simpa using h
    clear h
    go_enter Tryz.func58, Tryz.ntmps58
    go_wp2
    go_ret2
    exact ⟨rfl, rfl⟩
set_option maxRecDepth 100000 in
theorem rd_new (w : World) (m : Nat) (hm : m ≤ 2048) : Rd (w.alloc (.cells #[.int .i64 1, .int .i64 (m : Int), .int .i64 0, .slice none 0 0] 98)) w.heap.size (fun k => k = w.heap.size) m ⟨0, 0, []⟩ :=
  ⟨CI.new hm, .slice none 0 0, Byt.nil, rfl, fun k hk => by rw [hk]; simp, heap_alloc_new w _, World.ownsRow_nil _ _ _ _, fun k hk => by cases hk⟩
set_option maxHeartbeats 400000 in
theorem cnew_any (x : Int) (m : Nat) (w : World) (hx : x = (m : Int)) (hm : m ≤ 2048) :
    Calls Tryz.prog 58 #[.int .i64 x] w fun e w' => e = .returned (.tuple #[.pointer (some ⟨w.heap.size, 0, none⟩), .int .i64 0]) ∧ Rd w' w.heap.size (fun k => k = w.heap.size) m ⟨0, 0, []⟩ ∧ Below w.heap.size w w' := by
  have HN := Bx.mk (rd_new w m hm)
  have HB : Bx (Below w.heap.size w (w.alloc (.cells #[.int .i64 1, .int .i64 (m : Int), .int .i64 0, .slice none 0 0] 98))) := ⟨(Below.refl _ _).alloc (Nat.le_refl _) _⟩
  have g1 : decide (x < 0) = false := by simp; omega
  have g2 : decide (x > 2048) = false := by simp; omega
  rw [← hx] at HN HB
  clear hx
  go_enter Tryz.func58, Tryz.ntmps58
  go_wp2
  go_ret2
  exact ⟨rfl, HN.out, HB.out⟩
set_option maxHeartbeats 400000 in
theorem cbody_any (g : Nat) (own : Nat → Prop) (most : Nat) (s : CS) (w : World) (h : Rd w g own most s) :
    Calls Tryz.prog 48 #[.pointer (some ⟨g, 0, none⟩)] w fun e w' => ∃ v, e = .returned v ∧ w'.ownsRow w.heap.size 5 1 v s.body.length (bv s.body) ∧ Below w.heap.size w w' := by
  have H := Bx.mk h
  obtain ⟨hci, v, hR⟩ := h
  have hcm := hci.m
  have hcb := hci.b
  clear hci
  obtain ⟨a, c, rfl, hb⟩ := Bts.of_owns hR.vr hR.byt
  have c3 := hR.c3
  have HBT := Bx.mk hb
  clear hR hb
  go_enter Tryz.func48, Tryz.ntmps48
  go_wp2_with fail
  refine (cmade_yes g own most s _ H.out).mono ?_
  rintro e w' ⟨rfl, rfl⟩
  go_wp2_with fail
  refine (clone_any a _ c _ _ HBT.out (by omega)).mono ?_
  rintro e w' ⟨v, rfl, ho, hb⟩
  go_wp2
  go_ret
  exact ⟨_, rfl, ho, hb⟩
end Go.Proofs.YtdameoejigpnhaaGreatDoor
