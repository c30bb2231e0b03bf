/- Methods, targets, names of lines. -/
import Derived.Test.YtdameoejigpnhaaGreatDoorWEnv
namespace Go.Proofs.YtdameoejigpnhaaGreatDoor
open Go.RowKit
set_option linter.unusedVariables false

set_option maxRecDepth 100000 in
/-- a text's bytes, as places of it -/
theorem sb_strOf {l : List Int} (hl : Byt l) (i : Nat) (hi : i < l.length) : sb (strOf l) i = l.getD i 0 := by
  have h := strL_getD (strOf l) i (by rw [strOf_size]; exact hi)
  rw [strL_strOf hl] at h
  rw [h]; rfl
set_option maxRecDepth 100000 in
theorem lit_eq {l : List Int} (hl : Byt l) (c : List Int) (hc : Byt c) (u : List UInt8) (hu : u = c.map u8I) : ((strOf l).toList == u) = decide (l = c) := by
  have e : (strOf l).toList = l.map u8I := by rw [Lib.toList_data]; rfl
  rw [e, hu]
  by_cases h : l = c
  · subst h; simp
  · have : ¬ l.map u8I = c.map u8I := fun e => h (strOf_inj hl hc (by unfold strOf; exact congrArg (fun x => (⟨x.toArray⟩ : ByteArray)) e))
    rw [decide_eq_false h]; exact beq_eq_false_iff_ne.2 this
def bytD (l : List Int) : Bool := l.all fun c => decide (0 ≤ c) && decide (c ≤ 255)
set_option maxRecDepth 100000 in
theorem byt_dec {l : List Int} (h : bytD l = true) : Byt l := fun c hc => by
  have := List.all_eq_true.1 h c hc
  simpa using this
def mthB (l : List Int) : Bool := decide (l = getM) || (decide (l = putM) || decide (l = postM))
set_option maxHeartbeats 400000 in
theorem wmethod_any (l : List Int) (w : World) (hl : Byt l) : Calls Tryz.prog 63 #[.string (strOf l)] w fun e w' => e = .returned (.bool (mthB l)) ∧ w' = w := by
  have e1 : ((strOf l).toList == [71, 69, 84]) = decide (l = getM) := lit_eq hl getM (byt_dec (by decide)) _ rfl
  have e2 : ((strOf l).toList == [80, 85, 84]) = decide (l = putM) := lit_eq hl putM (byt_dec (by decide)) _ rfl
  have e3 : ((strOf l).toList == [80, 79, 83, 84]) = decide (l = postM) := lit_eq hl postM (byt_dec (by decide)) _ rfl
  have HM : Bx (mthB l = (decide (l = getM) || (decide (l = putM) || decide (l = postM)))) := ⟨rfl⟩
  generalize mthB l = R at HM
  generalize decide (l = getM) = b1 at e1 HM
  generalize decide (l = putM) = b2 at e2 HM
  generalize decide (l = postM) = b3 at e3 HM
  clear hl
  generalize strOf l = s at e1 e2 e3
  cases b1 <;> cases b2 <;> cases b3
  all_goals (
    go_enter Tryz.func63, Tryz.ntmps63
    go_wp2
    go_ret
    exact ⟨by rw [HM.out]; rfl, rfl⟩)
set_option maxRecDepth 100000 in
/-- the state of a loop over a text's bytes -/
theorem all_step {p : Int → Bool} {l : List Int} {k : Nat} (h : ∀ j, j < k → p (l.getD j 0) = true) (hk : p (l.getD k 0) = true) : ∀ j, j < k + 1 → p (l.getD j 0) = true := fun j hj => by
  by_cases e : j = k
  · rw [e]; exact hk
  · exact h j (by omega)
set_option maxRecDepth 100000 in
theorem all_of_getD {p : Int → Bool} {l : List Int} (h : ∀ j, j < l.length → p (l.getD j 0) = true) : l.all p = true := by
  rw [List.all_eq_true]
  intro c hc
  obtain ⟨j, hj, rfl⟩ := List.mem_iff_getElem.1 hc
  have := h j hj
  rwa [List.getD_eq_getElem?_getD, List.getElem?_eq_getElem hj] at this
set_option maxRecDepth 100000 in
theorem not_all_of {p : Int → Bool} {l : List Int} {k : Nat} (hk : k < l.length) (h : p (l.getD k 0) = false) : l.all p = false := by
  rw [List.all_eq_false]
  refine ⟨l.getD k 0, ?_, by rw [h]; decide⟩
  rw [List.getD_eq_getElem?_getD, List.getElem?_eq_getElem hk]; exact List.getElem_mem _
set_option maxRecDepth 100000 in
theorem letB_eq (c : Int) : letB c = (smB c || (lgB c || decide (c = 45))) := by
  unfold letB smB lgB lowB
  by_cases h : 65 ≤ c ∧ c ≤ 90
  · rw [if_pos h]; simp [h.1, h.2]; omega
  · rw [if_neg h]
    by_cases h2 : c = 45
    · simp [h2]
    · simp only [h2, decide_false, Bool.false_or, Bool.or_false]
      have : (decide (65 ≤ c) && decide (c ≤ 90)) = false := by simp; omega
      rw [this, Bool.or_false]
set_option maxRecDepth 100000 in
set_option maxHeartbeats 1000000 in
theorem wname_any (l : List Int) (w : World) (hl : Byt l) (hs : l.length ≤ 1000000) : Calls Tryz.prog 66 #[.string (strOf l)] w fun e w' => e = .returned (.bool (nmB l)) ∧ w' = w := by
  have HL := Bx.mk hl
  have HSB : Bx (∀ i, i < l.length → sb (strOf l) i = l.getD i 0) := ⟨fun i hi => sb_strOf hl i hi⟩
  have hsz0 : (strOf l).size = l.length := strOf_size l
  generalize hS : strOf l = s at hsz0 HSB
  have HZ := Bx.mk hsz0
  clear hS hl hsz0
  by_cases h0 : l.length < 1
  · have hz : (s.size : Int) < 1 := by have := HZ.out; omega
    have HN : Bx (nmB l = false) := ⟨by unfold nmB; simp; omega⟩
    clear h0
    go_enter Tryz.func66, Tryz.ntmps66
    go_wp2_with fail
    go_ret
    exact ⟨by rw [HN.out]; rfl, rfl⟩
  · by_cases h1 : 32 < l.length
    · have hz : ¬ (s.size : Int) < 1 := by have := HZ.out; omega
      have hz1 : (32 : Int) < (s.size : Int) := by have := HZ.out; omega
      have HN : Bx (nmB l = false) := ⟨by unfold nmB; simp; omega⟩
      clear h0 h1
      go_enter Tryz.func66, Tryz.ntmps66
      go_wp2_with fail
      go_ret
      exact ⟨by rw [HN.out]; rfl, rfl⟩
    · have hz : ¬ (s.size : Int) < 1 := by have := HZ.out; omega
      have hz1 : ¬ (32 : Int) < (s.size : Int) := by have := HZ.out; omega
      have HA : Bx (nmB l = l.all letB) := ⟨by unfold nmB; rw [decide_eq_true (by omega : 1 ≤ l.length), decide_eq_true (by omega : l.length ≤ 32)]; rfl⟩
      have hle : s.size ≤ 32 := by have := HZ.out; omega
      clear h0 h1
      go_enter Tryz.func66, Tryz.ntmps66
      go_wp2_with fail
      go_loopw [14] (fun i wr => ∃ (k : Nat), k ≤ s.size ∧ i = .int .i64 k ∧ wr = w ∧ Bx (∀ j, j < k → letB (l.getD j 0) = true)) (fun i _ => s.size - (intOf i).toNat)
      case atStart => exact ⟨0, Nat.zero_le _, rfl, rfl, ⟨fun j hj => by omega⟩⟩
      case round =>
        obtain ⟨k, hk, rfl, rfl, HJ⟩ := hrel
        by_cases hlt : k < s.size
        · have hkI : (k : Int) < (s.size : Int) := by omega
          have hin : (((s[k]'hlt).toNat : Nat) : Int) = sb s k := sb_eq s k hlt
          have HC : Bx (sb s k = l.getD k 0) := ⟨HSB.out k (by have := HZ.out; omega)⟩
          have HE : Bx (letB (l.getD k 0) = (smB (l.getD k 0) || (lgB (l.getD k 0) || decide (l.getD k 0 = 45)))) := ⟨letB_eq _⟩
          rw [← HC.out] at HE
          generalize sb s k = C at hin HC HE
          by_cases c1 : smB C = true
          · have C1 : Hid (Calls Tryz.prog 77 #[.int .u8 C] wr fun e w' => e = .returned (.bool true) ∧ w' = wr) := by rw [← c1]; exact wsmall_any C wr
            have HJ2 : Bx (∀ j, j < k + 1 → letB (l.getD j 0) = true) := ⟨all_step HJ.out (by rw [← HC.out, HE.out, c1]; rfl)⟩
            clear c1 HE HJ
            go_wp2_with fail
            refine C1.out.mono ?_
            rintro e w' ⟨rfl, rfl⟩
            go_wp2
            go_roundw
            case rel => exact ⟨k + 1, by omega, by go_num, by first | rfl | trivial, HJ2⟩
            case measure => simp [intOf]; omega
          · by_cases c2 : lgB C = true
            · have C1 : Hid (∀ wr, Calls Tryz.prog 77 #[.int .u8 C] wr fun e w' => e = .returned (.bool false) ∧ w' = wr) := fun wr => by have := wsmall_any C wr; rwa [Bool.eq_false_iff.2 c1] at this
              have C2 : Hid (∀ wr, Calls Tryz.prog 80 #[.int .u8 C] wr fun e w' => e = .returned (.bool true) ∧ w' = wr) := fun wr => by rw [← c2]; exact wlarge_any C wr
              have HJ2 : Bx (∀ j, j < k + 1 → letB (l.getD j 0) = true) := ⟨all_step HJ.out (by rw [← HC.out, HE.out, c2]; simp)⟩
              clear c1 c2 HE HJ
              go_wp2_with fail
              refine (C1.out _).mono ?_
              rintro e w' ⟨rfl, rfl⟩
              go_wp2_with fail
              refine (C2.out _).mono ?_
              rintro e w' ⟨rfl, rfl⟩
              go_wp2
              go_roundw
              case rel => exact ⟨k + 1, by omega, by go_num, by first | rfl | trivial, HJ2⟩
              case measure => simp [intOf]; omega
            · have C1 : Hid (∀ wr, Calls Tryz.prog 77 #[.int .u8 C] wr fun e w' => e = .returned (.bool false) ∧ w' = wr) := fun wr => by have := wsmall_any C wr; rwa [Bool.eq_false_iff.2 c1] at this
              have C2 : Hid (∀ wr, Calls Tryz.prog 80 #[.int .u8 C] wr fun e w' => e = .returned (.bool false) ∧ w' = wr) := fun wr => by have := wlarge_any C wr; rwa [Bool.eq_false_iff.2 c2] at this
              have HE2 : Bx (letB C = decide (C = 45)) := ⟨by rw [HE.out]; simp [c1, c2]⟩
              clear c1 c2 HE
              by_cases c3 : C = 45
              · have h45 : (C != 45) = false := by simp [c3]
                have HJ2 : Bx (∀ j, j < k + 1 → letB (l.getD j 0) = true) := ⟨all_step HJ.out (by rw [← HC.out, HE2.out]; simpa using c3)⟩
                clear c3 HJ HE2
                go_wp2_with fail
                refine (C1.out _).mono ?_
                rintro e w' ⟨rfl, rfl⟩
                go_wp2_with fail
                refine (C2.out _).mono ?_
                rintro e w' ⟨rfl, rfl⟩
                go_wp2
                go_roundw
                case rel => exact ⟨k + 1, by omega, by go_num, by first | rfl | trivial, HJ2⟩
                case measure => simp [intOf]; omega
              · have h45 : (C != 45) = true := by simp [c3]
                have HF : Bx (l.all letB = false) := ⟨not_all_of (k := k) (by have := HZ.out; omega) (by rw [← HC.out, HE2.out]; simpa using c3)⟩
                clear c3 HJ HE2
                go_wp2_with fail
                refine (C1.out _).mono ?_
                rintro e w' ⟨rfl, rfl⟩
                go_wp2_with fail
                refine (C2.out _).mono ?_
                rintro e w' ⟨rfl, rfl⟩
                go_wp2
                go_ret
                exact ⟨by rw [HA.out, HF.out]; rfl, rfl⟩
        · have hge : ¬ (k : Int) < (s.size : Int) := by omega
          have HT : Bx (l.all letB = true) := ⟨all_of_getD fun j hj => HJ.out j (by have := HZ.out; omega)⟩
          go_wp2
          go_ret
          exact ⟨by rw [HA.out, HT.out]; rfl, rfl⟩
end Go.Proofs.YtdameoejigpnhaaGreatDoor
