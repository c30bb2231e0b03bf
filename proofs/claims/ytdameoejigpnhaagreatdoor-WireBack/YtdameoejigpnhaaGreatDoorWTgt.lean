/- Targets. -/
import Derived.Test.YtdameoejigpnhaaGreatDoorWName
namespace Go.Proofs.YtdameoejigpnhaaGreatDoor
open Go.RowKit
set_option linter.unusedVariables false

set_option maxRecDepth 100000 in
theorem tgC_eq (c : Int) : tgC c = (smB c || (dig c || (decide (c = 45) || decide (c = 47)))) := rfl
set_option maxRecDepth 100000 in
set_option maxHeartbeats 1000000 in
theorem wtarget_any (l : List Int) (w : World) (hl : Byt l) (hs : l.length ≤ 1000000) : Calls Tryz.prog 64 #[.string (strOf l)] w fun e w' => e = .returned (.bool (tgB l)) ∧ w' = w := by
  have HL := Bx.mk hl
  have HSB : Bx (∀ i, i < l.length → sb (strOf l) i = l.getD i 0) := ⟨fun i hi => sb_strOf hl i hi⟩
  have C0 : Hid (∀ wr, Calls Tryz.prog 76 #[.string (strOf l), .string ⟨#[47]⟩] wr fun e w' => e = .returned (.bool (decide (l.take 1 = [47]))) ∧ w' = wr) := fun wr => prefix_any l [47] wr hl (byt_dec (by decide))
  have hsz0 : (strOf l).size = l.length := strOf_size l
  generalize hS : strOf l = s at hsz0 HSB C0
  have HZ := Bx.mk hsz0
  clear hS hl hsz0
  by_cases h0 : 64 < l.length
  · have hz : (64 : Int) < (s.size : Int) := by have := HZ.out; omega
    have HN : Bx (tgB l = false) := ⟨by unfold tgB; simp; omega⟩
    clear h0
    go_enter Tryz.func64, Tryz.ntmps64
    go_wp2_with fail
    go_ret
    exact ⟨by rw [HN.out]; rfl, rfl⟩
  · have hz : ¬ (64 : Int) < (s.size : Int) := by have := HZ.out; omega
    by_cases h1 : l.take 1 = [47]
    · have hne : 1 ≤ l.length := by
        cases l with
        | nil => cases h1
        | cons _ _ => simp
      have h47 : l.getD 0 0 = 47 := by
        cases l with
        | nil => cases h1
        | cons a r => simpa using h1
      have HA : Bx (tgB l = l.all tgC) := ⟨by unfold tgB; rw [decide_eq_true hne, decide_eq_true (by omega : l.length ≤ 64), decide_eq_true h47]; rfl⟩
      rw [decide_eq_true h1] at C0
      have hle : s.size ≤ 64 := by have := HZ.out; omega
      clear h0 h1 h47 hne
      go_enter Tryz.func64, Tryz.ntmps64
      go_wp2_with fail
      refine (C0.out _).mono ?_
      rintro e w' ⟨rfl, rfl⟩
      go_wp2_with fail
      go_loopw [14] (fun i wr => ∃ (k : Nat), k ≤ s.size ∧ i = .int .i64 k ∧ wr = w' ∧ Bx (∀ j, j < k → tgC (l.getD j 0) = true)) (fun i _ => s.size - (intOf i).toNat)
      case atStart => exact ⟨0, Nat.zero_le _, rfl, rfl, ⟨fun j hj => by omega⟩⟩
      case round =>
        obtain ⟨k, hk, rfl, rfl, HJ⟩ := hrel
        by_cases hlt : k < s.size
        · have hkI : (k : Int) < (s.size : Int) := by omega
          have hin : (((s[k]'hlt).toNat : Nat) : Int) = sb s k := sb_eq s k hlt
          have HC : Bx (sb s k = l.getD k 0) := ⟨HSB.out k (by have := HZ.out; omega)⟩
          have HE : Bx (tgC (l.getD k 0) = (smB (l.getD k 0) || (dig (l.getD k 0) || (decide (l.getD k 0 = 45) || decide (l.getD k 0 = 47))))) := ⟨tgC_eq _⟩
          rw [← HC.out] at HE
          generalize sb s k = C at hin HC HE
          have C1 : Hid (∀ wr, Calls Tryz.prog 77 #[.int .u8 C] wr fun e w' => e = .returned (.bool (smB C)) ∧ w' = wr) := fun wr => wsmall_any C wr
          have C2 : Hid (∀ wr, Calls Tryz.prog 78 #[.int .u8 C] wr fun e w' => e = .returned (.bool (dig C)) ∧ w' = wr) := fun wr => wdigit_any C wr
          generalize smB C = b1 at C1 HE
          generalize dig C = b2 at C2 HE
          cases b1 with
          | true =>
            have HJ2 : Bx (∀ j, j < k + 1 → tgC (l.getD j 0) = true) := ⟨all_step HJ.out (by rw [← HC.out, HE.out]; rfl)⟩
            clear HE HJ
            go_wp2_with fail
            refine (C1.out _).mono ?_
            rintro e w' ⟨rfl, rfl⟩
            go_wp2
            go_roundw
            case rel => exact ⟨k + 1, by omega, by go_num, by first | rfl | trivial, HJ2⟩
            case measure => simp [intOf]; omega
          | false =>
            cases b2 with
            | true =>
              have HJ2 : Bx (∀ j, j < k + 1 → tgC (l.getD j 0) = true) := ⟨all_step HJ.out (by rw [← HC.out, HE.out]; rfl)⟩
              clear HE HJ
              go_wp2_with fail
              refine (C1.out _).mono ?_
              rintro e w' ⟨rfl, rfl⟩
              go_wp2_with fail
              refine (C2.out _).mono ?_
              rintro e w' ⟨rfl, rfl⟩
              go_wp2
              go_roundw
              case rel => exact ⟨k + 1, by omega, by go_num, by first | rfl | trivial, HJ2⟩
              case measure => simp [intOf]; omega
            | false =>
              by_cases c3 : C = 45
              · have h45 : (C != 45) = false := by simp [c3]
                have HJ2 : Bx (∀ j, j < k + 1 → tgC (l.getD j 0) = true) := ⟨all_step HJ.out (by rw [← HC.out, HE.out]; simp [c3])⟩
                clear HE HJ c3
                go_wp2_with fail
                refine (C1.out _).mono ?_
                rintro e w' ⟨rfl, rfl⟩
                go_wp2_with fail
                refine (C2.out _).mono ?_
                rintro e w' ⟨rfl, rfl⟩
                go_wp2
                go_roundw
                case rel => exact ⟨k + 1, by omega, by go_num, by first | rfl | trivial, HJ2⟩
                case measure => simp [intOf]; omega
              · have h45 : (C != 45) = true := by simp [c3]
                by_cases c4 : C = 47
                · have h47 : (C != 47) = false := by simp [c4]
                  have HJ2 : Bx (∀ j, j < k + 1 → tgC (l.getD j 0) = true) := ⟨all_step HJ.out (by rw [← HC.out, HE.out]; simp [c4])⟩
                  clear HE HJ c3 c4
                  go_wp2_with fail
                  refine (C1.out _).mono ?_
                  rintro e w' ⟨rfl, rfl⟩
                  go_wp2_with fail
                  refine (C2.out _).mono ?_
                  rintro e w' ⟨rfl, rfl⟩
                  go_wp2
                  go_roundw
                  case rel => exact ⟨k + 1, by omega, by go_num, by first | rfl | trivial, HJ2⟩
                  case measure => simp [intOf]; omega
                · have h47 : (C != 47) = true := by simp [c4]
                  have HF : Bx (l.all tgC = false) := ⟨not_all_of (k := k) (by have := HZ.out; omega) (by rw [← HC.out, HE.out]; simp [c3, c4])⟩
                  clear HE HJ c3 c4
                  go_wp2_with fail
                  refine (C1.out _).mono ?_
                  rintro e w' ⟨rfl, rfl⟩
                  go_wp2_with fail
                  refine (C2.out _).mono ?_
                  rintro e w' ⟨rfl, rfl⟩
                  go_wp2
                  go_ret
                  exact ⟨by rw [HA.out, HF.out]; rfl, rfl⟩
        · have hge : ¬ (k : Int) < (s.size : Int) := by omega
          have HT : Bx (l.all tgC = true) := ⟨all_of_getD fun j hj => HJ.out j (by have := HZ.out; omega)⟩
          go_wp2
          go_ret
          exact ⟨by rw [HA.out, HT.out]; rfl, rfl⟩
    · have HN : Bx (tgB l = false) := ⟨by
        unfold tgB
        cases l with
        | nil => rfl
        | cons a r =>
          have : ¬ a = 47 := by simpa using h1
          simp [this]⟩
      rw [decide_eq_false h1] at C0
      clear h0 h1
      go_enter Tryz.func64, Tryz.ntmps64
      go_wp2_with fail
      refine (C0.out _).mono ?_
      rintro e w' ⟨rfl, rfl⟩
      go_wp2
      go_ret
      exact ⟨by rw [HN.out]; rfl, rfl⟩
end Go.Proofs.YtdameoejigpnhaaGreatDoor
