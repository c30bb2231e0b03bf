/- What Name answers, the program's and the document's: whether a text is a name. -/
import Derived.Test.YtpfijaojgeceeaaDoorTBase
namespace Go.Proofs.YtpfijaojgeceeaaDoor
open Go.RowKit
set_option linter.unusedVariables false

/-- a to z; 0 to 9 -/
def isLet (c : Int) : Bool := decide (97 ≤ c) && decide (c ≤ 122)
def isDig (c : Int) : Bool := decide (48 ≤ c) && decide (c ≤ 57)
def isNamed (c : Int) : Bool := isLet c || (isDig c || decide (c = 45))
/-- what a name is -/
def NameP (s : ByteArray) : Prop := 1 ≤ s.size ∧ s.size ≤ 16 ∧ isLet (sb s 0) = true ∧ ∀ j, j < s.size → isNamed (sb s j) = true

/-- the same as an answer -/
def nameB (s : ByteArray) : Bool := decide (1 ≤ s.size) && (decide (s.size ≤ 16) && (isLet (sb s 0) && (List.range s.size).all fun j => isNamed (sb s j)))
set_option maxRecDepth 100000 in
theorem nameB_iff (s : ByteArray) : nameB s = true ↔ NameP s := by simp [nameB, NameP]
set_option maxRecDepth 100000 in
theorem nameB_yes {s : ByteArray} (h : NameP s) : true = nameB s := ((nameB_iff s).2 h).symm
set_option maxRecDepth 100000 in
theorem nameB_not {s : ByteArray} (h : ¬ NameP s) : false = nameB s := by
  cases e : nameB s
  · rfl
  · exact absurd ((nameB_iff s).1 e) h
set_option maxRecDepth 100000 in
theorem named_step {s : ByteArray} {k : Nat} (h : ∀ j, j < k → isNamed (sb s j) = true) (hk : isNamed (sb s k) = true) : ∀ j, j < k + 1 → isNamed (sb s j) = true := by
  intro j hj
  by_cases e : j = k
  · rw [e]; exact hk
  · exact h j (by omega)

set_option maxRecDepth 100000 in
theorem isLetter_any (c : Int) (w : World) : Calls Tryd.prog 43 #[.int .u8 c] w fun e w' => e = .returned (.bool (isLet c)) ∧ w' = w := by
  go_enter Tryd.func43, Tryd.ntmps43
  go_wp2
  all_goals (go_ret; refine ⟨ret_bool ?_, rfl⟩; simp [isLet]; omega)
set_option maxRecDepth 100000 in
theorem isDigit_any (c : Int) (w : World) : Calls Tryd.prog 44 #[.int .u8 c] w fun e w' => e = .returned (.bool (isDig c)) ∧ w' = w := by
  go_enter Tryd.func44, Tryd.ntmps44
  go_wp2
  all_goals (go_ret; refine ⟨ret_bool ?_, rfl⟩; simp [isDig]; omega)

set_option maxRecDepth 100000 in
theorem named_of {c : Int} (h : isNamed c = true) : isLet c = true ∨ (isLet c = false ∧ isDig c = true) ∨ (isLet c = false ∧ isDig c = false ∧ c = 45) := by
  unfold isNamed at h
  cases h1 : isLet c <;> cases h2 : isDig c <;> simp_all
set_option maxRecDepth 100000 in
theorem named_not {c : Int} (h : isNamed c = false) : isLet c = false ∧ isDig c = false ∧ c ≠ 45 := by
  unfold isNamed at h
  cases h1 : isLet c <;> cases h2 : isDig c <;> simp_all
set_option maxHeartbeats 400000 in
theorem name_any (s : ByteArray) (w : World) (hs : s.size ≤ 9223372036854775807) :
    Calls Tryd.prog 36 #[.string s] w fun e w' => e = .returned (.bool (nameB s)) ∧ w' = w := by
  by_cases h0 : s.size = 0
  · have hz : (s.size : Int) < 1 := by omega
    have HN : Hid (¬ NameP s) := fun h => by have := h.1; omega
    clear h0
    go_enter Tryd.func36, Tryd.ntmps36
    go_wp2_with fail
    go_ret
    exact ⟨ret_bool (nameB_not HN.out), rfl⟩
  · by_cases h1 : 16 < s.size
    · have hz : ¬ (s.size : Int) < 1 := by omega
      have hz1 : (16 : Int) < (s.size : Int) := by omega
      have HN : Hid (¬ NameP s) := fun h => by have := h.2.1; omega
      clear h0 h1
      go_enter Tryd.func36, Tryd.ntmps36
      go_wp2_with fail
      go_ret
      exact ⟨ret_bool (nameB_not HN.out), rfl⟩
    · have hz : ¬ (s.size : Int) < 1 := by omega
      have hz1 : ¬ (16 : Int) < (s.size : Int) := by omega
      have hlt0 : 0 < s.size := by omega
      have hse : ∀ h, (((s[0]'h).toNat : Nat) : Int) = sb s 0 := fun h => sb_eq s 0 h
      go_enter Tryd.func36, Tryd.ntmps36
      go_wp2_with fail
      refine (isLetter_any (sb s 0) _).mono ?_
      rintro e w' ⟨rfl, rfl⟩
      cases hL : isLet (sb s 0) with
      | false =>
        have HN : Hid (¬ NameP s) := fun h => by rw [h.2.2.1] at hL; cases hL
        clear hL
        go_wp2_with fail
        go_ret
        exact ⟨ret_bool (nameB_not HN.out), rfl⟩
      | true =>
        have HL : Hid (isLet (sb s 0) = true) := hL
        clear hL
        have H16 : Hid (s.size ≤ 16) := by show s.size ≤ 16; omega
        go_wp2_with fail
        go_loop [20] (fun i => ∃ k : Nat, k ≤ s.size ∧ i = .int .i64 k ∧ ∀ j, j < k → isNamed (sb s j) = true) (fun i => s.size - (intOf i).toNat)
        case atStart => exact ⟨0, Nat.zero_le _, rfl, fun j hj => by omega⟩
        case round =>
          obtain ⟨k, hk, rfl, hj⟩ := hrel
          have HJ : Hid (∀ j, j < k → isNamed (sb s j) = true) := hj
          clear hj
          by_cases hlt : k < s.size
          · have hki : (k : Int) < (s.size : Int) := by omega
            have hk0 : (0 : Int) ≤ (k : Int) := by omega
            have hsk : ∀ h, (((s[k]'h).toNat : Nat) : Int) = sb s k := fun h => sb_eq s k h
            go_wp2_with fail
            refine (isLetter_any (sb s k) _).mono ?_
            rintro e w' ⟨rfl, rfl⟩
            cases hn : isNamed (sb s k) with
            | true =>
              have HN : Hid (isNamed (sb s k) = true) := hn
              rcases named_of hn with h | ⟨h, h2⟩ | ⟨h, h2, h3⟩
              · rw [h]
                clear h hn
                go_wp2_with fail
                go_round
                case rel => exact ⟨k + 1, by omega, by go_num, named_step HJ.out HN.out⟩
                case measure => simp [intOf]; omega
              · rw [h]
                clear h hn
                go_wp2_with fail
                refine (isDigit_any (sb s k) _).mono ?_
                rintro e w' ⟨rfl, rfl⟩
                rw [h2]
                clear h2
                go_wp2_with fail
                go_round
                case rel => exact ⟨k + 1, by omega, by go_num, named_step HJ.out HN.out⟩
                case measure => simp [intOf]; omega
              · rw [h]
                have h4 : (sb s k != 45) = false := by simp [h3]
                clear h hn h3
                go_wp2_with fail
                refine (isDigit_any (sb s k) _).mono ?_
                rintro e w' ⟨rfl, rfl⟩
                rw [h2]
                clear h2
                go_wp2_with fail
                go_round
                case rel => exact ⟨k + 1, by omega, by go_num, named_step HJ.out HN.out⟩
                case measure => simp [intOf]; omega
            | false =>
              have HN : Hid (¬ NameP s) := fun h => by rw [h.2.2.2 k hlt] at hn; cases hn
              obtain ⟨h, h2, h3⟩ := named_not hn
              have h4 : (sb s k != 45) = true := by simp [h3]
              rw [h]
              clear h hn h3
              go_wp2_with fail
              refine (isDigit_any (sb s k) _).mono ?_
              rintro e w' ⟨rfl, rfl⟩
              rw [h2]
              clear h2
              go_wp2_with fail
              go_ret
              exact ⟨ret_bool (nameB_not HN.out), rfl⟩
          · have hki : ¬ (k : Int) < (s.size : Int) := by omega
            have HN : Hid (NameP s) := ⟨by omega, H16.out, HL.out, fun j hj => HJ.out j (by omega)⟩
            go_wp2_with fail
            go_ret
            exact ⟨ret_bool (nameB_yes HN.out), rfl⟩

/-- the document's: a letter, or, but for the first one, a digit or a dash -/
def rok (k : Nat) (c : Int) : Bool := isLet c || (decide (k ≠ 0) && (isDig c || decide (c = 45)))
set_option maxRecDepth 100000 in
theorem nameP_of_rok {s : ByteArray} (h1 : 1 ≤ s.size) (h2 : s.size ≤ 16) (h : ∀ j, j < s.size → rok j (sb s j) = true) : NameP s := by
  refine ⟨h1, h2, ?_, fun j hj => ?_⟩
  · have := h 0 (by omega); simpa [rok] using this
  · have := h j hj; unfold rok at this; unfold isNamed; cases h3 : isLet (sb s j) <;> simp_all
set_option maxRecDepth 100000 in
theorem rok_of_nameP {s : ByteArray} (h : NameP s) (j : Nat) (hj : j < s.size) : rok j (sb s j) = true := by
  have h4 := h.2.2.2 j hj
  unfold isNamed at h4
  unfold rok
  by_cases e : j = 0
  · rw [e, h.2.2.1]; rfl
  · cases h3 : isLet (sb s j) <;> simp_all
set_option maxRecDepth 100000 in
theorem rok_step {s : ByteArray} {k : Nat} (h : ∀ j, j < k → rok j (sb s j) = true) (hk : rok k (sb s k) = true) : ∀ j, j < k + 1 → rok j (sb s j) = true := by
  intro j hj
  by_cases e : j = k
  · rw [e]; exact hk
  · exact h j (by omega)
set_option maxRecDepth 100000 in
theorem rok_let {k : Nat} {c : Int} (h : 97 ≤ c) (h2 : c ≤ 122) : rok k c = true := by simp [rok, isLet, h, h2]
set_option maxRecDepth 100000 in
theorem rok_dash {k : Nat} {c : Int} (h : k ≠ 0) (h2 : c = 45) : rok k c = true := by simp [rok, h, h2]
set_option maxRecDepth 100000 in
theorem rok_dig {k : Nat} {c : Int} (h : k ≠ 0) (h2 : 48 ≤ c) (h3 : c ≤ 57) : rok k c = true := by simp [rok, isDig, h, h2, h3]
set_option maxRecDepth 100000 in
theorem rok_not0 {c : Int} (h : c < 97 ∨ 122 < c) : rok 0 c = false := by simp [rok, isLet]; omega
set_option maxRecDepth 100000 in
theorem rok_not {k : Nat} {c : Int} (h : c < 97 ∨ 122 < c) (h2 : c ≠ 45) (h3 : c < 48 ∨ 57 < c) : rok k c = false := by simp [rok, isLet, isDig]; omega
set_option maxHeartbeats 800000 in
set_option maxRecDepth 100000 in
theorem refname_any (s : ByteArray) (w : World) (hs : s.size ≤ 9223372036854775807) :
    Calls Tryd.prog 39 #[.string s] w fun e w' => e = .returned (.bool (nameB s)) ∧ w' = w := by
  go_enter Tryd.func39, Tryd.ntmps39
  go_wp2
  go_loop [3] (fun i => ∃ k : Nat, k ≤ s.size ∧ i = .int .i64 k ∧ ∀ j, j < k → rok j (sb s j) = true) (fun i => s.size - (intOf i).toNat)
  case atStart => exact ⟨0, Nat.zero_le _, rfl, fun j hj => by omega⟩
  case round =>
    obtain ⟨k, hk, rfl, hj⟩ := hrel
    have HJ : Hid (∀ j, j < k → rok j (sb s j) = true) := hj
    clear hj
    by_cases hlt : k < s.size
    · have hki : (k : Int) < (s.size : Int) := by omega
      have hk0 : (0 : Int) ≤ (k : Int) := by omega
      generalize hc : sb s k = c
      have HC : Hid (sb s k = c) := hc
      have hse : ∀ h, (((s[k]'h).toNat : Nat) : Int) = c := fun h => by rw [sb_eq, hc]
      clear hc
      have hno : rok k c = false → ¬ NameP s := fun e h => by have := rok_of_nameP h k hlt; rw [HC.out, e] at this; cases this
      by_cases hl : 97 ≤ c ∧ c ≤ 122
      · have HN : Hid (rok k (sb s k) = true) := by show rok k (sb s k) = true; rw [HC.out]; exact rok_let hl.1 hl.2
        have d1 : decide (97 ≤ c) = true := by simpa using hl.1
        have d2 : decide (c ≤ 122) = true := by simpa using hl.2
        obtain ⟨l1, l2⟩ := hl
        clear hno
        go_wp2
        go_round
        case rel => exact ⟨k + 1, by omega, by go_num, rok_step HJ.out HN.out⟩
        case measure => simp [intOf]; omega
      · have hl' : c < 97 ∨ 122 < c := by omega
        have hsm : (decide (97 ≤ c) = false ∧ c < 97) ∨ (97 ≤ c ∧ decide (97 ≤ c) = true ∧ decide (c ≤ 122) = false) := by
          by_cases h : 97 ≤ c
          · exact .inr ⟨h, by simpa using h, by simp; omega⟩
          · exact .inl ⟨by simpa using h, by omega⟩
        clear hl
        by_cases hz : k = 0
        · have hzi : ((k : Int) == 0) = true := by simp [hz]
          have HN : Hid (¬ NameP s) := hno (by rw [hz]; exact rok_not0 hl')
          clear hno hl' hz
          rcases hsm with ⟨d1, l1⟩ | ⟨l1, d1, d2⟩
          · go_wp2
            go_ret
            exact ⟨ret_bool (nameB_not HN.out), rfl⟩
          · go_wp2
            go_ret
            exact ⟨ret_bool (nameB_not HN.out), rfl⟩
        · have hzi : ((k : Int) == 0) = false := by simp; omega
          by_cases h45 : c = 45
          · have HN : Hid (rok k (sb s k) = true) := by show rok k (sb s k) = true; rw [HC.out]; exact rok_dash hz h45
            subst h45
            clear hno hl' hz hsm
            go_wp2
            go_round
            case rel => exact ⟨k + 1, by omega, by go_num, rok_step HJ.out HN.out⟩
            case measure => simp [intOf]; omega
          · have e45 : (c != 45) = true := by simpa using h45
            by_cases hd : 48 ≤ c ∧ c ≤ 57
            · have HN : Hid (rok k (sb s k) = true) := by show rok k (sb s k) = true; rw [HC.out]; exact rok_dig hz hd.1 hd.2
              have d3 : decide (c < 48) = false := by simp; omega
              have d4 : decide (57 < c) = false := by simp; omega
              obtain ⟨l3, l4⟩ := hd
              rcases hsm with ⟨d1, l1⟩ | ⟨l1, d1, d2⟩
              · clear hno hl' hz h45
                go_wp2
                go_round
                case rel => exact ⟨k + 1, by omega, by go_num, rok_step HJ.out HN.out⟩
                case measure => simp [intOf]; omega
              · exfalso; omega
            · have HN : Hid (¬ NameP s) := hno (rok_not hl' h45 (by omega))
              have hd2 : (c < 48 ∧ decide (c < 48) = true) ∨ (48 ≤ c ∧ decide (c < 48) = false ∧ decide (57 < c) = true) := by
                by_cases h : c < 48
                · exact .inl ⟨h, by simpa using h⟩
                · exact .inr ⟨by omega, by simpa using h, by simp; omega⟩
              clear hno hl' hz h45 hd
              rcases hsm with ⟨d1, l1⟩ | ⟨l1, d1, d2⟩ <;> rcases hd2 with ⟨l3, d3⟩ | ⟨l3, d3, d4⟩
              · go_wp2
                go_ret
                exact ⟨ret_bool (nameB_not HN.out), rfl⟩
              · go_wp2
                go_ret
                exact ⟨ret_bool (nameB_not HN.out), rfl⟩
              · exfalso; omega
              · go_wp2
                go_ret
                exact ⟨ret_bool (nameB_not HN.out), rfl⟩
    · have hki : ¬ (k : Int) < (s.size : Int) := by omega
      have HJ2 : Hid (∀ j, j < s.size → rok j (sb s j) = true) := fun j hj => HJ.out j (by omega)
      by_cases h1 : 1 ≤ s.size
      · have l1 : (1 : Int) ≤ (s.size : Int) := by omega
        go_wp2
        go_ret
        refine ⟨ret_bool ?_, rfl⟩
        by_cases h2 : s.size ≤ 16
        · rw [← nameB_yes (nameP_of_rok h1 h2 HJ2.out)]; simp; omega
        · rw [← nameB_not (fun h => h2 h.2.1)]; simp; omega
      · have l1 : ¬ (1 : Int) ≤ (s.size : Int) := by omega
        have HN : Hid (¬ NameP s) := fun h => h1 h.1
        go_wp2
        go_ret
        exact ⟨ret_bool (nameB_not HN.out), rfl⟩
end Go.Proofs.YtpfijaojgeceeaaDoor
