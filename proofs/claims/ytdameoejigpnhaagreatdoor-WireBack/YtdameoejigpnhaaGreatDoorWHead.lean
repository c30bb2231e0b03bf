/- A line that is whole; a byte of a head. -/
import Derived.Test.YtdameoejigpnhaaGreatDoorWFirst
namespace Go.Proofs.YtdameoejigpnhaaGreatDoor
open Go.RowKit
set_option linter.unusedVariables false

set_option maxRecDepth 100000 in
theorem furV_m (h : HD) (l : List Int) : (furV h l).1.m = h.m := by
  unfold furV
  cases namI l with
  | none => rfl
  | some i =>
    simp only
    unfold sayV
    repeat' split
    all_goals rfl
set_option maxRecDepth 100000 in
theorem furV_n (h : HD) (l : List Int) (hn : h.n ≤ 2048) : (furV h l).1.n ≤ 2048 := by
  unfold furV
  cases namI l with
  | none => exact hn
  | some i =>
    simp only
    unfold sayV
    repeat' split
    all_goals first | exact hn | (simp only; omega)
set_option maxRecDepth 100000 in
theorem fst_m {l : List Int} {m t : ByteArray} (h : fstV l = some (m, t)) : m.size ≠ 0 := by
  unfold fstV at h
  split at h
  · split at h
    · rename_i hc
      cases h
      rw [strOf_size]
      rcases hc.2.1 with h | h | h <;> subst h <;> decide
    · cases h
  · cases h
/-- what holds of a head at all times -/
structure HI (h : HD) (lines cnt : Nat) (line : List Int) (cr : Bool) : Prop where
  ct : cnt ≤ 1024
  le : line.length ≤ cnt
  lb : ∀ c ∈ line, 32 ≤ c ∧ c ≤ 126
  m0 : lines = 0 → h.m.size = 0
  m1 : lines ≠ 0 → h.m.size ≠ 0
  l17 : lines ≤ 17
  n : h.n ≤ 2048
set_option maxRecDepth 100000 in
theorem HI.byt {h : HD} {lines cnt : Nat} {line : List Int} {cr : Bool} (hi : HI h lines cnt line cr) : Byt line := fun c hc => by have := hi.lb c hc; omega
/-- where a line's end leads -/
def ended (lines : Nat) (l : List Int) : Bool := decide (lines ≠ 0 ∧ l = [])
/-- what a line's end makes -/
def EndP (g : Nat) (own : Nat → Prop) (h : HD) (lines cnt : Nat) (l : List Int) (LV : Value) (w w' : World) : Prop :=
  Kept own w w' ∧ (∃ H, Hm w' g own H) ∧
  ((eol wp0 h lines cnt l).2 = 0 → ended lines l = false → ∃ h2 l2, (eol wp0 h lines cnt l).1 = .head h2 l2 cnt [] ∧ HI h2 l2 cnt [] false ∧ Hm w' g own (hmOf h2 l2 cnt [] LV false)) ∧
  (ended lines l = true → (eol wp0 h lines cnt l) = (bgQ h, 0) ∧ Hm w' g own (hmOf h lines cnt [] LV false))
set_option maxRecDepth 100000 in
theorem size_zero {s : ByteArray} (h : s.size = 0) : s = ⟨#[]⟩ := by
  obtain ⟨⟨l⟩⟩ := s
  cases l with
  | nil => rfl
  | cons _ _ => exact absurd h (by show ¬ _ + 1 = 0; omega)
set_option maxRecDepth 100000 in
theorem toList_size (s : ByteArray) : s.toList.length = s.size := by rw [Lib.toList_data, ← Lib.size_eq]
set_option maxRecDepth 100000 in
theorem empty_iff (s : ByteArray) : s.toList.isEmpty = decide (s.size = 0) := by
  rw [← toList_size]
  cases s.toList <;> simp
set_option maxRecDepth 100000 in
set_option maxHeartbeats 1000000 in
theorem wend_any (B g : Nat) (own : Nat → Prop) (h : HD) (l : List Int) (lines cnt : Nat) (LV : Value) (w : World) (hm : Hm w g own (hmOf h lines cnt [] LV false)) (hi : HI h lines cnt [] false) (hl : Byt l) (hll : l.length ≤ 1000000) (he : Env B w) (hB : B ≤ w.heap.size) (hOw : ∀ k, own k → B ≤ k) :
    Calls Tryz.prog 44 #[.pointer (some ⟨g, 1, none⟩), .string (strOf l)] w fun e w' => e = .returned (.tuple #[.bool (ended lines l), .int .i64 (eol wp0 h lines cnt l).2]) ∧ EndP g own h lines cnt l LV w w' := by
  have c4 : w.cell? ⟨g, 4, none⟩ = some (.string h.m) := hm.c4
  have c8 : w.cell? ⟨g, 8, none⟩ = some (.int .i64 ((lines - 1 : Nat) : Int)) := hm.c8
  have f8 := hm.fz 8
  have HH := Bx.mk hm
  have HI' := Bx.mk hi
  have HENV := Bx.mk he
  have e4 := empty_iff h.m
  have e1 := empty_iff (strOf l)
  rw [strOf_size] at e1
  clear he hm
  by_cases h0 : lines = 0
  · subst h0
    have HE : Bx (eol wp0 h 0 cnt l = match fstV l with | none => (.head h 0 cnt l, 4) | some (m, t) => (.head { h with m := m, t := t } 1 cnt [], 0)) := ⟨rfl⟩
    rw [decide_eq_true (hi.m0 rfl)] at e4
    have HEN : Bx (ended 0 l = false) := ⟨by unfold ended; simp⟩
    generalize h.m = M at c4 e4
    clear e1 hi
    go_enter Tryz.func44, Tryz.ntmps44
    go_wp2_with fail
    refine (wfirst_any g own h l cnt [] LV false _ HH.out hl hll).mono ?_
    rintro e w1 ⟨rfl, hm1, hk1⟩
    have HM1 := Bx.mk hm1
    have HK1 := Bx.mk hk1
    clear hm1 hk1
    generalize hfe : fstE l = FE
    have HFE := Bx.mk hfe
    clear hfe
    go_wp2
    go_ret2
    refine ⟨?_, HK1.out, ⟨_, HM1.out⟩, fun h1 h2 => ?_, fun h1 => by rw [HEN.out] at h1; cases h1⟩
    · rw [HEN.out, HE.out, ← HFE.out]
      unfold fstE
      cases fstV l with
      | none => rfl
      | some mt => rfl
    · rw [HE.out] at h1 ⊢
      cases hf : fstV l with
      | none => rw [hf] at h1; simp at h1
      | some mt =>
        obtain ⟨m, t⟩ := mt
        refine ⟨{ h with m := m, t := t }, 1, rfl, ⟨HI'.out.ct, Nat.zero_le _, fun c hc => (by cases hc), fun hh => (by cases hh), fun _ => fst_m hf, by decide, HI'.out.n⟩, ?_⟩
        have h9 := HM1.out
        unfold fstH at h9
        rw [hf] at h9
        exact h9
  · rw [decide_eq_false (hi.m1 h0)] at e4
    generalize h.m = M at c4 e4
    by_cases h1 : l = []
    · have HE : Bx (eol wp0 h lines cnt l = (bgQ h, 0)) := ⟨by unfold eol; rw [if_neg h0, if_pos h1]⟩
      have HEN : Bx (ended lines l = true) := ⟨by unfold ended; simp [h0, h1]⟩
      rw [decide_eq_true (by rw [h1]; rfl)] at e1
      generalize strOf l = s at e1
      clear h1 hi
      go_enter Tryz.func44, Tryz.ntmps44
      go_wp2
      go_ret2
      exact ⟨by rw [HEN.out, HE.out]; rfl, Kept.refl _ _, ⟨_, HH.out⟩, fun _ h2 => (by rw [HEN.out] at h2; cases h2), fun _ => ⟨HE.out, HH.out⟩⟩
    · have HEN : Bx (ended lines l = false) := ⟨by unfold ended; simp [h1]⟩
      rw [decide_eq_false (by intro hh; exact h1 (List.eq_nil_of_length_eq_zero hh))] at e1
      by_cases h2 : 17 ≤ lines
      · have HE : Bx (eol wp0 h lines cnt l = (.head h lines cnt l, 5)) := ⟨by unfold eol; rw [if_neg h0, if_neg h1, if_pos h2]⟩
        have h17 := hi.l17
        have g1 : (((lines - 1 : Nat) : Int) == 16) = true := by simp; omega
        generalize ((lines - 1 : Nat) : Int) = FU at c8 g1
        generalize strOf l = s at e1
        clear h1 h2 hi h17
        go_enter Tryz.func44, Tryz.ntmps44
        go_wp2
        go_ret2
        exact ⟨by rw [HEN.out, HE.out]; rfl, Kept.refl _ _, ⟨_, HH.out⟩, fun h3 _ => (by rw [HE.out] at h3; simp at h3), fun h3 => (by rw [HEN.out] at h3; cases h3)⟩
      · have HE : Bx (eol wp0 h lines cnt l = (.head (furV h l).1 (lines + 1) cnt [], (furV h l).2)) := ⟨by unfold eol; rw [if_neg h0, if_neg h1, if_neg h2]; rfl⟩
        have g1 : (((lines - 1 : Nat) : Int) == 16) = false := by simp; omega
        have HM0 : Bx (Hm (w.setCell ⟨g, 8, none⟩ (.int .i64 (((lines - 1 : Nat) : Int) + 1))) g own (hmOf h (lines + 1) cnt [] LV false)) := ⟨by
          have h9 := HH.out.sFu (((lines - 1 : Nat) : Int) + 1)
          have h8 : ((lines - 1 : Nat) : Int) + 1 = ((lines + 1 - 1 : Nat) : Int) := by omega
          rw [h8] at h9 ⊢
          exact h9⟩
        have HK0 : Bx (Kept own w (w.setCell ⟨g, 8, none⟩ (.int .i64 (((lines - 1 : Nat) : Int) + 1)))) := ⟨HH.out.kset _ _⟩
        have b0 : 0 ≤ ((lines - 1 : Nat) : Int) := by omega
        have b1 : ((lines - 1 : Nat) : Int) ≤ 16 := by omega
        have HNI : Bx (lines ≤ 16 ∧ (furV h l).1.m.size ≠ 0 ∧ (furV h l).1.n ≤ 2048) := ⟨by omega, by rw [furV_m]; exact hi.m1 h0, furV_n h l hi.n⟩
        generalize ((lines - 1 : Nat) : Int) = FU at c8 g1 HM0 HK0 b0 b1
        generalize hsl : strOf l = s at e1
        have HSL := Bx.mk hsl
        clear h1 h2 hi hsl
        go_enter Tryz.func44, Tryz.ntmps44
        go_wp2_with fail
        rw [← HSL.out]
        refine (wfur_any B g own h l (lines + 1) cnt [] LV false _ HM0.out hl hll (HENV.out.kept HK0.out hOw hB) (by have := HK0.out.size; omega)).mono ?_
        rintro e w1 ⟨rfl, hm1, hk1⟩
        have HM1 := Bx.mk hm1
        have HK1 := Bx.mk (HK0.out.trans' hk1)
        clear hm1 hk1
        generalize hfe : (furV h l).2 = FE
        have HFE := Bx.mk hfe
        clear hfe
        go_wp2
        go_ret2
        refine ⟨by rw [HEN.out, HE.out, HFE.out]; rfl, HK1.out, ⟨_, HM1.out⟩, fun h3 _ => ?_, fun h3 => (by rw [HEN.out] at h3; cases h3)⟩
        refine ⟨(furV h l).1, lines + 1, by rw [HE.out], ⟨HI'.out.ct, Nat.zero_le _, fun c hc => (by cases hc), fun hh => (by omega), fun _ => HNI.out.2.1, by have := HNI.out.1; omega, HNI.out.2.2⟩, HM1.out⟩
end Go.Proofs.YtdameoejigpnhaaGreatDoor
