/- What Name answers, the program's and the document's: whether a text is a name. -/
import Derived.Test.YtpfijaojgeceeaaGreatDoorTBase
namespace Go.Proofs.YtpfijaojgeceeaaGreatDoor
open Go.RowKit
set_option linter.unusedVariables false

/-- a to z; 0 to 9 -/
def isLet (c : Int) : Bool := decide (97 ≤ c) && decide (c ≤ 122)
def isDig (c : Int) : Bool := decide (48 ≤ c) && decide (c ≤ 57)
def isNamed (c : Int) : Bool := isLet c || (isDig c || decide (c = 45))
/-- what a name is -/
def NameP (s : ByteArray) : Prop := 1 ≤ s.size ∧ s.size ≤ 16 ∧ isLet (sb s 0) = true ∧ ∀ j, j < s.size → isNamed (sb s j) = true

/-- the same as an answer -/
def nameB (s : ByteArray) : Bool := decide (1 ≤ s.size) && (decide (s.size ≤ 16) && (isLet (sb s 0) && (List.range s.size).all fun j => isNamed (sb s j)))
set_option maxRecDepth 100000 in
theorem nameB_iff (s : ByteArray) : nameB s = true ↔ NameP s := by simp [nameB, NameP]
set_option maxRecDepth 100000 in
theorem nameB_yes {s : ByteArray} (h : NameP s) : true = nameB s := ((nameB_iff s).2 h).symm
set_option maxRecDepth 100000 in
theorem nameB_not {s : ByteArray} (h : ¬ NameP s) : false = nameB s := by
  cases e : nameB s
  · rfl
  · exact absurd ((nameB_iff s).1 e) h
set_option maxRecDepth 100000 in
theorem named_step {s : ByteArray} {k : Nat} (h : ∀ j, j < k → isNamed (sb s j) = true) (hk : isNamed (sb s k) = true) : ∀ j, j < k + 1 → isNamed (sb s j) = true := by
  intro j hj
  by_cases e : j = k
  · rw [e]; exact hk
  · exact h j (by omega)

set_option maxRecDepth 100000 in
theorem isLetter_any (c : Int) (w : World) : Calls Tryz.prog 52 #[.int .u8 c] w fun e w' => e = .returned (.bool (isLet c)) ∧ w' = w := by
  go_enter Tryz.func52, Tryz.ntmps52
  go_wp2
  all_goals (go_ret; refine ⟨ret_bool ?_, rfl⟩; simp [isLet]; omega)
set_option maxRecDepth 100000 in
theorem isDigit_any (c : Int) (w : World) : Calls Tryz.prog 53 #[.int .u8 c] w fun e w' => e = .returned (.bool (isDig c)) ∧ w' = w := by
  go_enter Tryz.func53, Tryz.ntmps53
  go_wp2
  all_goals (go_ret; refine ⟨ret_bool ?_, rfl⟩; simp [isDig]; omega)

set_option maxRecDepth 100000 in
theorem named_of {c : Int} (h : isNamed c = true) : isLet c = true ∨ (isLet c = false ∧ isDig c = true) ∨ (isLet c = false ∧ isDig c = false ∧ c = 45) := by
  unfold isNamed at h
  cases h1 : isLet c <;> cases h2 : isDig c <;> simp_all
set_option maxRecDepth 100000 in
theorem named_not {c : Int} (h : isNamed c = false) : isLet c = false ∧ isDig c = false ∧ c ≠ 45 := by
  unfold isNamed at h
  cases h1 : isLet c <;> cases h2 : isDig c <;> simp_all
set_option maxHeartbeats 400000 in
theorem name_any (s : ByteArray) (w : World) (hs : s.size ≤ 9223372036854775807) :
    Calls Tryz.prog 40 #[.string s] w fun e w' => e = .returned (.bool (nameB s)) ∧ w' = w := by
  by_cases h0 : s.size = 0
  · have hz : (s.size : Int) < 1 := by omega
    have HN : Hid (¬ NameP s) := fun h => by have := h.1; omega
    clear h0
    go_enter Tryz.func40, Tryz.ntmps40
    go_wp2_with fail
    go_ret
    exact ⟨ret_bool (nameB_not HN.out), rfl⟩
  · by_cases h1 : 16 < s.size
    · have hz : ¬ (s.size : Int) < 1 := by omega
      have hz1 : (16 : Int) < (s.size : Int) := by omega
      have HN : Hid (¬ NameP s) := fun h => by have := h.2.1; omega
      clear h0 h1
      go_enter Tryz.func40, Tryz.ntmps40
      go_wp2_with fail
      go_ret
      exact ⟨ret_bool (nameB_not HN.out), rfl⟩
    · have hz : ¬ (s.size : Int) < 1 := by omega
      have hz1 : ¬ (16 : Int) < (s.size : Int) := by omega
      have hlt0 : 0 < s.size := by omega
      have hse : ∀ h, (((s[0]'h).toNat : Nat) : Int) = sb s 0 := fun h => sb_eq s 0 h
      go_enter Tryz.func40, Tryz.ntmps40
      go_wp2_with fail
      refine (isLetter_any (sb s 0) _).mono ?_
      rintro e w' ⟨rfl, rfl⟩
      cases hL : isLet (sb s 0) with
      | false =>
        have HN : Hid (¬ NameP s) := fun h => by rw [h.2.2.1] at hL; cases hL
        clear hL
        go_wp2_with fail
        go_ret
        exact ⟨ret_bool (nameB_not HN.out), rfl⟩
      | true =>
        have HL : Hid (isLet (sb s 0) = true) := hL
        clear hL
        have H16 : Hid (s.size ≤ 16) := by show s.size ≤ 16; omega
        go_wp2_with fail
        go_loop [20] (fun i => ∃ k : Nat, k ≤ s.size ∧ i = .int .i64 k ∧ ∀ j, j < k → isNamed (sb s j) = true) (fun i => s.size - (intOf i).toNat)
        case atStart => exact ⟨0, Nat.zero_le _, rfl, fun j hj => by omega⟩
        case round =>
          obtain ⟨k, hk, rfl, hj⟩ := hrel
          have HJ : Hid (∀ j, j < k → isNamed (sb s j) = true) := hj
          clear hj
          by_cases hlt : k < s.size
          · have hki : (k : Int) < (s.size : Int) := by omega
            have hk0 : (0 : Int) ≤ (k : Int) := by omega
            have hsk : ∀ h, (((s[k]'h).toNat : Nat) : Int) = sb s k := fun h => sb_eq s k h
            go_wp2_with fail
            refine (isLetter_any (sb s k) _).mono ?_
            rintro e w' ⟨rfl, rfl⟩
            cases hn : isNamed (sb s k) with
            | true =>
              have HN : Hid (isNamed (sb s k) = true) := hn
              rcases named_of hn with h | ⟨h, h2⟩ | ⟨h, h2, h3⟩
              · rw [h]
                clear h hn
                go_wp2_with fail
                go_round
                case rel => exact ⟨k + 1, by omega, by go_num, named_step HJ.out HN.out⟩
                case measure => simp [intOf]; omega
              · rw [h]
                clear h hn
                go_wp2_with fail
                refine (isDigit_any (sb s k) _).mono ?_
                rintro e w' ⟨rfl, rfl⟩
                rw [h2]
                clear h2
                go_wp2_with fail
                go_round
                case rel => exact ⟨k + 1, by omega, by go_num, named_step HJ.out HN.out⟩
                case measure => simp [intOf]; omega
              · rw [h]
                have h4 : (sb s k != 45) = false := by simp [h3]
                clear h hn h3
                go_wp2_with fail
                refine (isDigit_any (sb s k) _).mono ?_
                rintro e w' ⟨rfl, rfl⟩
                rw [h2]
                clear h2
                go_wp2_with fail
                go_round
                case rel => exact ⟨k + 1, by omega, by go_num, named_step HJ.out HN.out⟩
                case measure => simp [intOf]; omega
            | false =>
              have HN : Hid (¬ NameP s) := fun h => by rw [h.2.2.2 k hlt] at hn; cases hn
              obtain ⟨h, h2, h3⟩ := named_not hn
              have h4 : (sb s k != 45) = true := by simp [h3]
              rw [h]
              clear h hn h3
              go_wp2_with fail
              refine (isDigit_any (sb s k) _).mono ?_
              rintro e w' ⟨rfl, rfl⟩
              rw [h2]
              clear h2
              go_wp2_with fail
              go_ret
              exact ⟨ret_bool (nameB_not HN.out), rfl⟩
          · have hki : ¬ (k : Int) < (s.size : Int) := by omega
            have HN : Hid (NameP s) := ⟨by omega, H16.out, HL.out, fun j hj => HJ.out j (by omega)⟩
            go_wp2_with fail
            go_ret
            exact ⟨ret_bool (nameB_yes HN.out), rfl⟩

end Go.Proofs.YtpfijaojgeceeaaGreatDoor
