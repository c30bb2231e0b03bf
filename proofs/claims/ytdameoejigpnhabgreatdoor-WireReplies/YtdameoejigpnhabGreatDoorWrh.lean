/- A line that is whole; a byte of a head. A byte of a head. -/
import Derived.Test.YtdameoejigpnhabGreatDoorWrg
namespace Go.Proofs.YtdameoejigpnhabGreatDoor
open Go.RowKit
set_option linter.unusedVariables false

set_option maxRecDepth 100000 in
theorem furV_m (h : HD) (l : List Int) : (furV h l).1.m = h.m := by
  unfold furV
  cases namI l with
  | none => rfl
  | some i =>
    simp only
    unfold sayV
    repeat' split
    all_goals rfl
set_option maxRecDepth 100000 in
theorem furV_n (h : HD) (l : List Int) (hn : h.n ≤ 2048) : (furV h l).1.n ≤ 2048 := by
  unfold furV
  cases namI l with
  | none => exact hn
  | some i =>
    simp only
    unfold sayV
    repeat' split
    all_goals first | exact hn | (simp only; omega)
set_option maxRecDepth 100000 in
theorem fst_m {l : List Int} {m t : ByteArray} (h : fstV l = some (m, t)) : m.size ≠ 0 := by
  unfold fstV at h
  split at h
  · split at h
    · rename_i hc
      cases h
      rw [strOf_size]
      rcases hc.2.1 with h | h | h <;> subst h <;> decide
    · cases h
  · cases h
/-- what holds of a head at all times -/
structure HI (h : HD) (lines cnt : Nat) (line : List Int) (cr : Bool) : Prop where
  ct : cnt ≤ 1024
  le : line.length ≤ cnt
  lb : ∀ c ∈ line, 32 ≤ c ∧ c ≤ 126
  m0 : lines = 0 → h.m.size = 0
  m1 : lines ≠ 0 → h.m.size ≠ 0
  l17 : lines ≤ 17
  n : h.n ≤ 2048
set_option maxRecDepth 100000 in
theorem HI.byt {h : HD} {lines cnt : Nat} {line : List Int} {cr : Bool} (hi : HI h lines cnt line cr) : Byt line := fun c hc => by have := hi.lb c hc; omega
/-- where a line's end leads -/
def ended (lines : Nat) (l : List Int) : Bool := decide (lines ≠ 0 ∧ l = [])
/-- what a line's end makes -/
def EndP (g : Nat) (own : Nat → Prop) (h : HD) (lines cnt : Nat) (l : List Int) (LV : Value) (w w' : World) : Prop :=
  Kept own w w' ∧ (∃ H, Hm w' g own H) ∧
  ((eol wp0 h lines cnt l).2 = 0 → ended lines l = false → ∃ h2 l2, (eol wp0 h lines cnt l).1 = .head h2 l2 cnt [] ∧ HI h2 l2 cnt [] false ∧ Hm w' g own (hmOf h2 l2 cnt [] LV false)) ∧
  (ended lines l = true → (eol wp0 h lines cnt l) = (bgQ h, 0) ∧ Hm w' g own (hmOf h lines cnt [] LV false))
set_option maxRecDepth 100000 in
theorem size_zero {s : ByteArray} (h : s.size = 0) : s = ⟨#[]⟩ := by
  obtain ⟨⟨l⟩⟩ := s
  cases l with
  | nil => rfl
  | cons _ _ => exact absurd h (by show ¬ _ + 1 = 0; omega)
set_option maxRecDepth 100000 in
theorem toList_size (s : ByteArray) : s.toList.length = s.size := by rw [Lib.toList_data, ← Lib.size_eq]
set_option maxRecDepth 100000 in
theorem empty_iff (s : ByteArray) : s.toList.isEmpty = decide (s.size = 0) := by
  rw [← toList_size]
  cases s.toList <;> simp
set_option maxRecDepth 100000 in
set_option maxHeartbeats 1000000 in
theorem wend_any (B g : Nat) (own : Nat → Prop) (h : HD) (l : List Int) (lines cnt : Nat) (LV : Value) (w : World) (hm : Hm w g own (hmOf h lines cnt [] LV false)) (hi : HI h lines cnt [] false) (hl : Byt l) (hll : l.length ≤ 1000000) (he : Env B w) (hB : B ≤ w.heap.size) (hOw : ∀ k, own k → B ≤ k) :
    Calls Tryz.prog 42 #[.pointer (some ⟨g, 1, none⟩), .string (strOf l)] w fun e w' => e = .returned (.tuple #[.bool (ended lines l), .int .i64 (eol wp0 h lines cnt l).2]) ∧ EndP g own h lines cnt l LV w w' := by
  have c4 : w.cell? ⟨g, 4, none⟩ = some (.string h.m) := hm.c4
  have c8 : w.cell? ⟨g, 8, none⟩ = some (.int .i64 ((lines - 1 : Nat) : Int)) := hm.c8
  have f8 := hm.fz 8
  have HH := Bx.mk hm
  have HI' := Bx.mk hi
  have HENV := Bx.mk he
  have e4 := empty_iff h.m
  have e1 := empty_iff (strOf l)
  rw [strOf_size] at e1
  clear he hm
  by_cases h0 : lines = 0
  · subst h0
    have HE : Bx (eol wp0 h 0 cnt l = match fstV l with | none => (.head h 0 cnt l, 4) | some (m, t) => (.head { h with m := m, t := t } 1 cnt [], 0)) := ⟨rfl⟩
    rw [decide_eq_true (hi.m0 rfl)] at e4
    have HEN : Bx (ended 0 l = false) := ⟨by unfold ended; simp⟩
    generalize h.m = M at c4 e4
    clear e1 hi
    go_enter Tryz.func42, Tryz.ntmps42
    go_wp2_with fail
    refine (wfirst_any g own h l cnt [] LV false _ HH.out hl hll).mono ?_
    rintro e w1 ⟨rfl, hm1, hk1⟩
    have HM1 := Bx.mk hm1
    have HK1 := Bx.mk hk1
    clear hm1 hk1
    generalize hfe : fstE l = FE
    have HFE := Bx.mk hfe
    clear hfe
    go_wp2
    go_ret2
    refine ⟨?_, HK1.out, ⟨_, HM1.out⟩, fun h1 h2 => ?_, fun h1 => by rw [HEN.out] at h1; cases h1⟩
    · rw [HEN.out, HE.out, ← HFE.out]
      unfold fstE
      cases fstV l with
      | none => rfl
      | some mt => rfl
    · rw [HE.out] at h1 ⊢
      cases hf : fstV l with
      | none => rw [hf] at h1; simp at h1
      | some mt =>
        obtain ⟨m, t⟩ := mt
        refine ⟨{ h with m := m, t := t }, 1, rfl, ⟨HI'.out.ct, Nat.zero_le _, fun c hc => (by cases hc), fun hh => (by cases hh), fun _ => fst_m hf, by decide, HI'.out.n⟩, ?_⟩
        have h9 := HM1.out
        unfold fstH at h9
        rw [hf] at h9
        exact h9
  · rw [decide_eq_false (hi.m1 h0)] at e4
    generalize h.m = M at c4 e4
    by_cases h1 : l = []
    · have HE : Bx (eol wp0 h lines cnt l = (bgQ h, 0)) := ⟨by unfold eol; rw [if_neg h0, if_pos h1]⟩
      have HEN : Bx (ended lines l = true) := ⟨by unfold ended; simp [h0, h1]⟩
      rw [decide_eq_true (by rw [h1]; rfl)] at e1
      generalize strOf l = s at e1
      clear h1 hi
      go_enter Tryz.func42, Tryz.ntmps42
      go_wp2
      go_ret2
      exact ⟨by rw [HEN.out, HE.out]; rfl, Kept.refl _ _, ⟨_, HH.out⟩, fun _ h2 => (by rw [HEN.out] at h2; cases h2), fun _ => ⟨HE.out, HH.out⟩⟩
    · have HEN : Bx (ended lines l = false) := ⟨by unfold ended; simp [h1]⟩
      rw [decide_eq_false (by intro hh; exact h1 (List.eq_nil_of_length_eq_zero hh))] at e1
      by_cases h2 : 17 ≤ lines
      · have HE : Bx (eol wp0 h lines cnt l = (.head h lines cnt l, 5)) := ⟨by unfold eol; rw [if_neg h0, if_neg h1, if_pos h2]⟩
        have h17 := hi.l17
        have g1 : (((lines - 1 : Nat) : Int) == 16) = true := by simp; omega
        generalize ((lines - 1 : Nat) : Int) = FU at c8 g1
        generalize strOf l = s at e1
        clear h1 h2 hi h17
        go_enter Tryz.func42, Tryz.ntmps42
        go_wp2
        go_ret2
        exact ⟨by rw [HEN.out, HE.out]; rfl, Kept.refl _ _, ⟨_, HH.out⟩, fun h3 _ => (by rw [HE.out] at h3; simp at h3), fun h3 => (by rw [HEN.out] at h3; cases h3)⟩
      · have HE : Bx (eol wp0 h lines cnt l = (.head (furV h l).1 (lines + 1) cnt [], (furV h l).2)) := ⟨by unfold eol; rw [if_neg h0, if_neg h1, if_neg h2]; rfl⟩
        have g1 : (((lines - 1 : Nat) : Int) == 16) = false := by simp; omega
        have HM0 : Bx (Hm (w.setCell ⟨g, 8, none⟩ (.int .i64 (((lines - 1 : Nat) : Int) + 1))) g own (hmOf h (lines + 1) cnt [] LV false)) := ⟨by
          have h9 := HH.out.sFu (((lines - 1 : Nat) : Int) + 1)
          have h8 : ((lines - 1 : Nat) : Int) + 1 = ((lines + 1 - 1 : Nat) : Int) := by omega
          rw [h8] at h9 ⊢
          exact h9⟩
        have HK0 : Bx (Kept own w (w.setCell ⟨g, 8, none⟩ (.int .i64 (((lines - 1 : Nat) : Int) + 1)))) := ⟨HH.out.kset _ _⟩
        have b0 : 0 ≤ ((lines - 1 : Nat) : Int) := by omega
        have b1 : ((lines - 1 : Nat) : Int) ≤ 16 := by omega
        have HNI : Bx (lines ≤ 16 ∧ (furV h l).1.m.size ≠ 0 ∧ (furV h l).1.n ≤ 2048) := ⟨by omega, by rw [furV_m]; exact hi.m1 h0, furV_n h l hi.n⟩
        generalize ((lines - 1 : Nat) : Int) = FU at c8 g1 HM0 HK0 b0 b1
        generalize hsl : strOf l = s at e1
        have HSL := Bx.mk hsl
        clear h1 h2 hi hsl
        go_enter Tryz.func42, Tryz.ntmps42
        go_wp2_with fail
        rw [← HSL.out]
        refine (wfur_any B g own h l (lines + 1) cnt [] LV false _ HM0.out hl hll (HENV.out.kept HK0.out hOw hB) (by have := HK0.out.size; omega)).mono ?_
        rintro e w1 ⟨rfl, hm1, hk1⟩
        have HM1 := Bx.mk hm1
        have HK1 := Bx.mk (HK0.out.trans' hk1)
        clear hm1 hk1
        generalize hfe : (furV h l).2 = FE
        have HFE := Bx.mk hfe
        clear hfe
        go_wp2
        go_ret2
        refine ⟨by rw [HEN.out, HE.out, HFE.out]; rfl, HK1.out, ⟨_, HM1.out⟩, fun h3 _ => ?_, fun h3 => (by rw [HEN.out] at h3; cases h3)⟩
        refine ⟨(furV h l).1, lines + 1, by rw [HE.out], ⟨HI'.out.ct, Nat.zero_le _, fun c hc => (by cases hc), fun hh => (by omega), fun _ => HNI.out.2.1, by have := HNI.out.1; omega, HNI.out.2.2⟩, HM1.out⟩
end Go.Proofs.YtdameoejigpnhabGreatDoor
namespace Go.Proofs.YtdameoejigpnhabGreatDoor
open Go.RowKit
set_option linter.unusedVariables false

def crL (line : List Int) (cr : Bool) : List Int := if cr = true then line ++ [13] else line
set_option maxRecDepth 100000 in
theorem crL_bhd {line : List Int} (hb : ∀ c ∈ line, 32 ≤ c ∧ c ≤ 126) (cr : Bool) : bhd (crL line cr) = cr := by
  unfold bhd crL
  cases cr with
  | true => simp
  | false =>
    rw [if_neg (by decide)]
    cases hl : line.getLast? with
    | none => rfl
    | some c =>
      have := hb c (List.mem_of_getLast? hl)
      simp
      omega
set_option maxRecDepth 100000 in
theorem crL_drop (line : List Int) : (crL line true).dropLast = line := by unfold crL; rw [if_pos rfl, List.dropLast_concat]
/-- the head ends here -/
def hend (lines cnt : Nat) (line : List Int) (cr : Bool) (b : Int) : Bool := decide (cnt < 1024) && (cr && (decide (b = 10) && ended lines line))
def HTP (g : Nat) (own : Nat → Prop) (h : HD) (lines cnt : Nat) (line : List Int) (cr : Bool) (b : Int) (w w' : World) : Prop :=
  ∃ own', Did own w w' own' ∧ (∃ H, Hm w' g own' H) ∧
  ((wst wp0 (.head h lines cnt (crL line cr)) b).2 = 0 → hend lines cnt line cr b = false → ∃ h2 l2 c2 line2 LV2 cr2, (wst wp0 (.head h lines cnt (crL line cr)) b).1 = .head h2 l2 c2 (crL line2 cr2) ∧ HI h2 l2 c2 line2 cr2 ∧ Hm w' g own' (hmOf h2 l2 c2 line2 LV2 cr2)) ∧
  (hend lines cnt line cr b = true → wst wp0 (.head h lines cnt (crL line cr)) b = (bgQ h, 0) ∧ ∃ LV2, Hm w' g own' (hmOf h lines (cnt + 1) [] LV2 false))
set_option maxRecDepth 100000 in
theorem HTP.bad {g : Nat} {own : Nat → Prop} {h : HD} {lines cnt : Nat} {line : List Int} {cr : Bool} {b : Int} {w w' : World} {H : HM} (hd : Did own w w' own) (hm : Hm w' g own H) (h1 : (wst wp0 (.head h lines cnt (crL line cr)) b).2 ≠ 0) (h2 : hend lines cnt line cr b = false) : HTP g own h lines cnt line cr b w w' :=
  ⟨own, hd, ⟨H, hm⟩, fun h3 => absurd h3 h1, fun h3 => by rw [h2] at h3; cases h3⟩
set_option maxRecDepth 100000 in
theorem Hm.cutL {w : World} {g : Nat} {own : Nat → Prop} {H : HM} {a : Option Addr} {n c : Nat} (h : Hm w g own H) (hv : H.LV = .slice a n c) : Hm (w.setCell ⟨g, 2, none⟩ (.slice a 0 c)) g own { H with line := [], LV := .slice a 0 c } := by
  unfold Hm at h
  rw [hv] at h
  have h2 := (Bk.cut h).set 2 (.slice a 0 c)
  have e : (rowH 1 H 0 (.slice none 0 0) (.pointer none)).setIfInBounds 2 (.slice a 0 c) = rowH 1 { H with line := [], LV := .slice a 0 c } 0 (.slice none 0 0) (.pointer none) := rfl
  rw [e] at h2
  exact h2
set_option maxRecDepth 100000 in
theorem wst_head (h : HD) (lines cnt : Nat) (cur : List Int) (b : Int) : wst wp0 (.head h lines cnt cur) b = if 1024 ≤ cnt then (.head h lines cnt cur, 5) else
    if bhd cur = true ∧ b = 10 then eol wp0 h lines (cnt + 1) cur.dropLast else
    if badB cur b = true then (.head h lines cnt cur, 4) else (.head h lines (cnt + 1) (cur ++ [b]), 0) := rfl
set_option maxRecDepth 100000 in
set_option maxHeartbeats 2000000 in
theorem whtake_any (B g : Nat) (own : Nat → Prop) (h : HD) (lines cnt : Nat) (line : List Int) (LV : Value) (cr : Bool) (b : Int) (w : World) (hm : Hm w g own (hmOf h lines cnt line LV cr)) (hi : HI h lines cnt line cr) (hb : 0 ≤ b ∧ b ≤ 255) (he : Env B w) (hB : B ≤ w.heap.size) (hOw : ∀ k, own k → B ≤ k) :
    Calls Tryz.prog 31 #[.pointer (some ⟨g, 1, none⟩), .int .u8 b] w fun e w' => e = .returned (.tuple #[.bool (hend lines cnt line cr b), .int .i64 (wst wp0 (.head h lines cnt (crL line cr)) b).2]) ∧ HTP g own h lines cnt line cr b w w' := by
  have c1 : w.cell? ⟨g, 1, none⟩ = some (.int .i64 (cnt : Int)) := hm.c1
  have f1 := hm.fz 1
  have HH := Bx.mk hm
  have HI' := Bx.mk hi
  have hct := hi.ct
  have HENV := Bx.mk he
  have HBH := Bx.mk (crL_bhd hi.lb cr)
  clear he hm
  by_cases h0 : 1024 ≤ cnt
  · have g1 : ((cnt : Int) == 1024) = true := by simp; omega
    have HE : Bx (wst wp0 (.head h lines cnt (crL line cr)) b = (.head h lines cnt (crL line cr), 5)) := ⟨by rw [wst_head, if_pos h0]⟩
    have HD' : Bx (hend lines cnt line cr b = false) := ⟨by unfold hend; rw [decide_eq_false (by omega)]; rfl⟩
    clear h0 hct hi
    go_enter Tryz.func31, Tryz.ntmps31
    go_wp2
    go_ret2
    exact ⟨by rw [HE.out, HD'.out]; rfl, HTP.bad (Did.same (Kept.refl _ _)) HH.out (by rw [HE.out]; simp) HD'.out⟩
  · have g1 : ((cnt : Int) == 1024) = false := by simp; omega
    have HST : Bx (wst wp0 (.head h lines cnt (crL line cr)) b = if cr = true ∧ b = 10 then eol wp0 h lines (cnt + 1) (crL line cr).dropLast else if badB (crL line cr) b = true then (.head h lines cnt (crL line cr), 4) else (.head h lines (cnt + 1) (crL line cr ++ [b]), 0)) := ⟨by rw [wst_head, if_neg h0, HBH.out]⟩
    have HBAD : Bx ((badB (crL line cr) b = true) ↔ (cr = true ∨ b = 10 ∨ (b ≠ 13 ∧ (b < 32 ∨ 127 ≤ b)))) := ⟨by rw [badB_iff, HBH.out]⟩
    have HHE : Bx (hend lines cnt line cr b = (cr && (decide (b = 10) && ended lines line))) := ⟨by unfold hend; rw [decide_eq_true (by omega)]; rfl⟩
    have HM1 : Bx (Hm (w.setCell ⟨g, 1, none⟩ (.int .i64 ((cnt : Int) + 1))) g own (hmOf h lines (cnt + 1) line LV cr)) := ⟨by
      have h9 := HH.out.sSz ((cnt : Int) + 1)
      have e : ({ hmOf h lines cnt line LV cr with sz := (cnt : Int) + 1 } : HM) = hmOf h lines (cnt + 1) line LV cr := by unfold hmOf; simp
      rw [e] at h9; exact h9⟩
    have HK1 : Bx (Kept own w (w.setCell ⟨g, 1, none⟩ (.int .i64 ((cnt : Int) + 1)))) := ⟨HH.out.kset _ _⟩
    have c3 : (w.setCell ⟨g, 1, none⟩ (.int .i64 ((cnt : Int) + 1))).cell? ⟨g, 3, none⟩ = some (.bool cr) := HM1.out.c3
    have c2 : (w.setCell ⟨g, 1, none⟩ (.int .i64 ((cnt : Int) + 1))).cell? ⟨g, 2, none⟩ = some LV := HM1.out.c2
    have f2 := HM1.out.fz 2
    have f3 := HM1.out.fz 3
    have hcl : cnt < 1024 := by omega
    clear hct h0
    by_cases h1 : decide (b = 10) = cr
    · cases cr with
      | true =>
        have hb10 : b = 10 := by simpa using h1
        subst hb10
        have hlb := hi.byt
        have HE : Bx (wst wp0 (.head h lines cnt (crL line true)) 10 = eol wp0 h lines (cnt + 1) line) := ⟨by rw [HST.out, if_pos ⟨rfl, rfl⟩, crL_drop]⟩
        have HD' : Bx (hend lines cnt line true 10 = ended lines line) := ⟨by rw [HHE.out]; simp⟩
        obtain ⟨a, c, hLV, hbts⟩ := Bts.of_owns (Bk.vr HM1.out) hlb
        have hLV' : LV = .slice a line.length c := hLV
        have hsl : ∀ W, (Instr.sliceAt 22 (.slice a line.length c) none (some (.int .i64 0)) none).run Tryz.prog W = .ok (.slice a 0 c) W := fun W => by
          have h9 := run_sl_h a line.length c 0 0 rfl (Nat.zero_le _) W
          have h8 : Bk (w.setCell ⟨g, 1, none⟩ (.int .i64 ((cnt : Int) + 1))) g own (rowH 1 (hmOf h lines (cnt + 1) line LV true) 0 (.slice none 0 0) (.pointer none)) LV line := HM1.out
          rw [hLV'] at h8
          rw [h8.slA] at h9
          exact h9
        have hcv : (convert 22 9 (.slice a line.length c)).run Tryz.prog (w.setCell ⟨g, 1, none⟩ (.int .i64 ((cnt : Int) + 1))) = .ok (.string (strOf line)) (w.setCell ⟨g, 1, none⟩ (.int .i64 ((cnt : Int) + 1))) := hbts.str
        have HM2 : Bx (Hm (((w.setCell ⟨g, 1, none⟩ (.int .i64 ((cnt : Int) + 1))).setCell ⟨g, 2, none⟩ (.slice a 0 c)).setCell ⟨g, 3, none⟩ (.bool false)) g own (hmOf h lines (cnt + 1) [] (.slice a 0 c) false)) := ⟨(HM1.out.cutL hLV').sCr false⟩
        have HK2 : Bx (Kept own w (((w.setCell ⟨g, 1, none⟩ (.int .i64 ((cnt : Int) + 1))).setCell ⟨g, 2, none⟩ (.slice a 0 c)).setCell ⟨g, 3, none⟩ (.bool false))) := ⟨(HM1.out.cutL hLV').kset' (HM1.out.kset' HK1.out _ _) _ _⟩
        have c3b : ((w.setCell ⟨g, 1, none⟩ (.int .i64 ((cnt : Int) + 1))).setCell ⟨g, 2, none⟩ (.slice a 0 c)).cell? ⟨g, 3, none⟩ = some (.bool true) := (HM1.out.cutL hLV').c3
        have f3b := (HM1.out.cutL hLV').fz 3
        have HIE : Bx (HI h lines (cnt + 1) [] false) := ⟨⟨by omega, Nat.zero_le _, fun c hc => (by cases hc), hi.m0, hi.m1, hi.l17, hi.n⟩⟩
        rw [hLV'] at c2
        have HLB := Bx.mk hlb
        have hll : line.length ≤ 1000000 := by have := hi.le; omega
        clear hbts hLV hLV' HST HBAD HHE h1 hi hlb
        generalize hsl2 : strOf line = s at hcv
        have HSL := Bx.mk hsl2
        clear hsl2
        go_enter Tryz.func31, Tryz.ntmps31
        go_wp2_with fail
        rw [← HSL.out]
        refine (wend_any B g own h line lines (cnt + 1) (.slice a 0 c) _ HM2.out HIE.out HLB.out hll (HENV.out.kept HK2.out hOw hB) (by have := HK2.out.size; omega) hOw).mono ?_
        rintro e w1 ⟨rfl, hp1⟩
        have HP1 := Bx.mk hp1
        clear hp1
        generalize hE1 : (eol wp0 h lines (cnt + 1) line).2 = E1
        generalize hE2 : ended lines line = D1
        have HE1 := Bx.mk hE1
        have HE2 := Bx.mk hE2
        clear hE1 hE2
        go_wp2
        go_ret2
        refine ⟨by rw [HE.out, HD'.out, HE1.out, HE2.out]; rfl, ?_⟩
        obtain ⟨p1, p2, p3, p4⟩ := HP1.out
        refine ⟨own, Did.same (HK2.out.trans' p1), p2, ?_, ?_⟩
        · rw [HE.out, HD'.out]
          intro q1 q2
          obtain ⟨h2, l2, r1, r2, r3⟩ := p3 q1 q2
          exact ⟨h2, l2, cnt + 1, [], .slice a 0 c, false, r1, r2, r3⟩
        · rw [HE.out, HD'.out]
          intro q1
          exact ⟨(p4 q1).1, _, (p4 q1).2⟩
      | false =>
        have hb10 : ¬ b = 10 := by simpa using h1
        have e10 : (b == 10) = false := by simpa using hb10
        have HD' : Bx (hend lines cnt line false b = false) := ⟨by rw [HHE.out]; rfl⟩
        by_cases h13 : b = 13
        · have e13 : (b == 13) = true := by simpa using h13
          have HE : Bx (wst wp0 (.head h lines cnt (crL line false)) b = (.head h lines (cnt + 1) (crL line true), 0)) := ⟨by
            rw [HST.out, if_neg (by simp), if_neg (by rw [HBAD.out]; simp; omega), h13]; rfl⟩
          have HM2 : Bx (Hm ((w.setCell ⟨g, 1, none⟩ (.int .i64 ((cnt : Int) + 1))).setCell ⟨g, 3, none⟩ (.bool true)) g own (hmOf h lines (cnt + 1) line LV true)) := ⟨HM1.out.sCr true⟩
          have HK2 : Bx (Kept own w ((w.setCell ⟨g, 1, none⟩ (.int .i64 ((cnt : Int) + 1))).setCell ⟨g, 3, none⟩ (.bool true))) := ⟨HM1.out.kset' HK1.out _ _⟩
          have HIE : Bx (HI h lines (cnt + 1) line true) := ⟨⟨by omega, by have := hi.le; omega, hi.lb, hi.m0, hi.m1, hi.l17, hi.n⟩⟩
          clear HST HBAD HHE h1 hi h13 hb10
          go_enter Tryz.func31, Tryz.ntmps31
          go_wp2
          go_ret2
          refine ⟨by rw [HE.out, HD'.out]; rfl, own, Did.same HK2.out, ⟨_, HM2.out⟩, fun _ _ => ⟨h, lines, cnt + 1, line, LV, true, by rw [HE.out], HIE.out, HM2.out⟩, fun q => by rw [HD'.out] at q; cases q⟩
        · have e13 : (b == 13) = false := by simpa using h13
          by_cases h32 : 32 ≤ b ∧ b ≤ 126
          · have HE : Bx (wst wp0 (.head h lines cnt (crL line false)) b = (.head h lines (cnt + 1) (crL (line ++ [b]) false), 0)) := ⟨by
              rw [HST.out, if_neg (by simp), if_neg (by rw [HBAD.out]; simp; omega)]; rfl⟩
            have HIE : Bx (HI h lines (cnt + 1) (line ++ [b]) false) := ⟨⟨by omega, by have := hi.le; simp; omega, fun c hc => by
              rcases List.mem_append.1 hc with hc | hc
              · exact hi.lb c hc
              · simp at hc; subst hc; exact h32, hi.m0, hi.m1, hi.l17, hi.n⟩⟩
            have g32 : b ≥ 32 := h32.1
            have g126 : b ≤ 126 := h32.2
            have hll : line.length ≤ 1000000 := by have := hi.le; omega
            obtain ⟨a, c, hLV, _⟩ := Bts.of_owns (Bk.vr HM1.out) hi.byt
            have hLV' : LV = .slice a line.length c := hLV
            rw [hLV'] at c2
            have HV : Bx ((w.setCell ⟨g, 1, none⟩ (.int .i64 ((cnt : Int) + 1))).ownsRow 0 5 1 (.slice a line.length c) line.length (bv line)) := ⟨by have := Bk.vr HM1.out; rw [hLV] at this; exact this⟩
            have HLV := Bx.mk hLV'
            obtain ⟨i0, hi0, hz0, hz1, hz2⟩ := info_parts Tryz.info5
            clear HST HBAD HHE h1 hi h13 hb10 h32 hLV hLV'
            have HNW := Bx.mk (World.news_of_block (heap_alloc_new (w.setCell ⟨g, 1, none⟩ (.int .i64 ((cnt : Int) + 1))) (.cells #[.int .u8 b] 5)))
            rw [show (w.setCell ⟨g, 1, none⟩ (.int .i64 ((cnt : Int) + 1))).heap.size = w.heap.size from by simp [World.setCell]] at HNW
            go_enter Tryz.func31, Tryz.ntmps31
            go_wp2_with (at_builtin; refine wpList_append_lies _ rfl (.tmp 67) (.tmp 69) 22 rfl 0 5 i0 (.int .u8 0) 1 1 Tryz.underlying22 hi0 hz0 hz1 hz2 rfl (by decide) _ line.length (bv line) rfl (HV.out.alloc _) ⟨w.heap.size, 0, none⟩ 1 1 [.int .u8 b] rfl rfl HNW.out (by simp [Value.oneCell']) (by decide) (by unfold maxLen; omega) (by omega) (Nat.zero_le _) _ rfl ?_; intro g4 cap4 w4 hown4 hgr4 hl4 hlt4; have hBk : Bk (w.setCell ⟨g, 1, none⟩ (.int .i64 ((cnt : Int) + 1))) g own (rowH 1 (hmOf h lines (cnt + 1) line (.slice a line.length c) false) 0 (.slice none 0 0) (.pointer none)) (.slice a line.length c) line := (by have h9 := HM1.out; rw [HLV.out] at h9; exact h9); obtain ⟨hR4, hK4⟩ := hBk.more hb rfl hown4 hgr4 hl4 (by simp) hlt4; have k2 := hR4.cell 2; have f2b := hR4.fr 2; have HR4 := Bx.mk hR4; have HK4 := Bx.mk hK4; clear hown4 hgr4 hl4 hlt4 hi0 hz0 hz1 hz2 hR4 hK4 hBk)
            go_ret2
            have HM4 : Hm (w4.setCell ⟨g, 2, none⟩ (.slice (some ⟨g4, 0, none⟩) (line.length + 1) cap4)) g (fun k => own k ∨ ((w.setCell ⟨g, 1, none⟩ (.int .i64 ((cnt : Int) + 1))).heap.size ≤ k ∧ k < w4.heap.size)) (hmOf h lines (cnt + 1) (line ++ [b]) (.slice (some ⟨g4, 0, none⟩) (line.length + 1) cap4) false) := HR4.out.set 2 _
            have hs1 : (w.setCell ⟨g, 1, none⟩ (.int .i64 ((cnt : Int) + 1))).heap.size = w.heap.size := by simp [World.setCell]
            have hs4 : (w4.setCell ⟨g, 2, none⟩ (.slice (some ⟨g4, 0, none⟩) (line.length + 1) cap4)).heap.size = w4.heap.size := by simp [World.setCell]
            refine ⟨by rw [HE.out, HD'.out]; rfl, _, ⟨(HK1.out.trans' HK4.out).setCell (.inl HH.out.og) 2 _, fun k hk => ?_⟩, ⟨_, HM4⟩, fun _ _ => ⟨h, lines, cnt + 1, line ++ [b], _, false, by rw [HE.out], HIE.out, HM4⟩, fun q => by rw [HD'.out] at q; cases q⟩
            rcases hk with hk | hk
            · exact .inl hk
            · right
              rw [hs1] at hk
              rw [hs4]
              exact hk
          · have HE : Bx (wst wp0 (.head h lines cnt (crL line false)) b = (.head h lines cnt (crL line false), 4)) := ⟨by
              rw [HST.out, if_neg (by simp), if_pos (by rw [HBAD.out]; right; right; omega)]⟩
            by_cases h3 : 32 ≤ b
            · have g126 : ¬ b ≤ 126 := by omega
              clear HST HBAD HHE h1 hi h13 hb10 h32
              go_enter Tryz.func31, Tryz.ntmps31
              go_wp2
              go_ret2
              exact ⟨by rw [HE.out, HD'.out]; rfl, HTP.bad (Did.same HK1.out) HM1.out (by rw [HE.out]; simp) HD'.out⟩
            · clear HST HBAD HHE h1 hi h13 hb10 h32
              go_enter Tryz.func31, Tryz.ntmps31
              go_wp2
              go_ret2
              exact ⟨by rw [HE.out, HD'.out]; rfl, HTP.bad (Did.same HK1.out) HM1.out (by rw [HE.out]; simp) HD'.out⟩
    · have HE : Bx (wst wp0 (.head h lines cnt (crL line cr)) b = (.head h lines cnt (crL line cr), 4)) := ⟨by
        rw [HST.out]
        cases cr with
        | true =>
          have h2 : ¬ b = 10 := by simpa using h1
          rw [if_neg (fun k => h2 k.2), if_pos (HBAD.out.2 (.inl rfl))]
        | false =>
          have h2 : b = 10 := by simpa using h1
          rw [if_neg (by simp), if_pos (HBAD.out.2 (.inr (.inl h2)))]⟩
      have HD' : Bx (hend lines cnt line cr b = false) := ⟨by
        rw [HHE.out]
        cases cr with
        | true =>
          have h2 : ¬ b = 10 := by simpa using h1
          simp [h2]
        | false => rfl⟩
      have g10 : (b == 10) = !cr := by
        cases cr with
        | true => simpa using h1
        | false => simpa using h1
      clear HST HBAD HHE h1 hi
      cases cr with
      | true =>
        go_enter Tryz.func31, Tryz.ntmps31
        go_wp2
        go_ret2
        exact ⟨by rw [HE.out, HD'.out]; rfl, HTP.bad (Did.same HK1.out) HM1.out (by rw [HE.out]; simp) HD'.out⟩
      | false =>
        go_enter Tryz.func31, Tryz.ntmps31
        go_wp2
        go_ret2
        exact ⟨by rw [HE.out, HD'.out]; rfl, HTP.bad (Did.same HK1.out) HM1.out (by rw [HE.out]; simp) HD'.out⟩
end Go.Proofs.YtdameoejigpnhabGreatDoor
