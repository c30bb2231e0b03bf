/- What a reader of chunks answers to a byte: take, Put. -/
import Derived.Test.YtdameoejigpnhaaGreatDoorChunkPut
namespace Go.Proofs.YtdameoejigpnhaaGreatDoor
open Go.RowKit
set_option linter.unusedVariables false

set_option maxHeartbeats 1000000 in
theorem ctake_fix (g : Nat) (own : Nat → Prop) (most : Nat) (s : CS) (x : Int) (b : Int) (w : World) (h : Rd w g own most s) (hb : 0 ≤ b ∧ b ≤ 255) (hp : s.ph < 10) (h0 : s.ph ≠ 0) (h2 : s.ph ≠ 2) (h4 : s.ph ≠ 4) (hx : atN s.ph = x) (g1 : (x == 1) = false) (g2 : (x == 2) = false) (g4 : (x == 4) = false) :
    Calls Tryz.prog 57 #[.pointer (some ⟨g, 0, none⟩), .int .u8 b] w fun e w' => e = .returned (.int .i64 (stp most s b).2) ∧ ∃ own', Rd w' g own' most (stp most s b).1 ∧ Did own w w' own' := by
  have H := Bx.mk h
  obtain ⟨hci, v, hR⟩ := h
  have HST := Bx.mk (stp_fix most s b hp h0 h2 h4 hci)
  have c0 := hR.c0
  have f0 := hR.fr 0
  have HR := Bx.mk hR
  have HC := Bx.mk hci
  have HFX := Bx.mk (fixed_any s.ph w hp h0 h2 h4)
  rw [hx] at c0 HFX
  have hfb : 0 ≤ fxB s.ph ∧ fxB s.ph ≤ 255 := by unfold fxB; split <;> decide
  clear hR hci h0 h2 h4 hx
  by_cases he : b = fxB s.ph
  · have HS : Bx (stp most s b = (⟨fxN s.ph, s.n, s.body⟩, 0)) := ⟨by rw [HST.out, if_pos he]⟩
    have HC2 : Bx (CI most ⟨fxN s.ph, s.n, s.body⟩) := ⟨by have := (HC.out.stp (b := b) hb (by rw [HS.out])).1; rw [HS.out] at this; exact this⟩
    generalize fxB s.ph = y at he hfb HFX
    have hne : (b != y) = false := by simpa using he
    obtain ⟨z, HZ⟩ : ∃ z, Bx (z = atN (fxN s.ph)) := ⟨_, ⟨rfl⟩⟩
    rw [← HZ.out] at HFX
    clear he HST
    go_enter Tryz.func57, Tryz.ntmps57
    go_wp2_with fail
    refine HFX.out.mono ?_
    rintro e w' ⟨rfl, rfl⟩
    go_wp2
    go_ret
    refine ⟨ret_int (by rw [HS.out]), own, ⟨by rw [HS.out]; exact HC2.out, v, ?_⟩, Did.same (HR.out.kset 0 _)⟩
    rw [HS.out, HZ.out]
    exact HR.out.setAt _
  · have HS : Bx (stp most s b = (s, 4)) := ⟨by rw [HST.out, if_neg he]⟩
    generalize fxB s.ph = y at he hfb HFX
    have hne : (b != y) = true := by simpa using he
    obtain ⟨z, HZ⟩ : ∃ z, Bx (z = atN (fxN s.ph)) := ⟨_, ⟨rfl⟩⟩
    rw [← HZ.out] at HFX
    clear he HST
    go_enter Tryz.func57, Tryz.ntmps57
    go_wp2_with fail
    refine HFX.out.mono ?_
    rintro e w' ⟨rfl, rfl⟩
    go_wp2
    go_ret
    exact ⟨ret_int (by rw [HS.out]), own, by rw [HS.out]; exact H.out, Did.same (Kept.refl _ _)⟩
set_option maxHeartbeats 1000000 in
theorem ctake_any (g : Nat) (own : Nat → Prop) (most : Nat) (s : CS) (b : Int) (w : World) (h : Rd w g own most s) (hb : 0 ≤ b ∧ b ≤ 255) (hp : s.ph < 10) :
    Calls Tryz.prog 57 #[.pointer (some ⟨g, 0, none⟩), .int .u8 b] w fun e w' => e = .returned (.int .i64 (stp most s b).2) ∧ ∃ own', Rd w' g own' most (stp most s b).1 ∧ Did own w w' own' := by
  obtain ⟨ph, n, body⟩ := s
  have H := Bx.mk h
  match ph, hp with
  | 0, _ =>
    obtain rfl : n = 0 := h.1.z (by show 0 ≤ 10; decide) (by show ¬ (2 ≤ 0 ∧ 0 ≤ 4); decide)
    obtain ⟨_, v, hR⟩ := h
    have c0 : w.cell? ⟨g, 0, none⟩ = some (.int .i64 1) := hR.c0
    clear hR
    skip
    go_enter Tryz.func57, Tryz.ntmps57
    go_wp2_with fail
    refine (tsz0 g own most body b _ H.out hb).mono ?_
    rintro e w1 ⟨rfl, hr1, hk1⟩
    have HR1 := Bx.mk hr1
    have HK1 := Bx.mk hk1
    clear hr1 hk1 c0
    go_wp2
    go_ret
    exact ⟨rfl, own, HR1.out, Did.same HK1.out⟩
  | 2, _ =>
    obtain ⟨_, v, hR⟩ := h
    have c0 : w.cell? ⟨g, 0, none⟩ = some (.int .i64 2) := hR.c0
    clear hR
    skip
    go_enter Tryz.func57, Tryz.ntmps57
    go_wp2_with fail
    refine (tsz2 g own most n body b _ H.out hb).mono ?_
    rintro e w1 ⟨rfl, hr1, hk1⟩
    have HR1 := Bx.mk hr1
    have HK1 := Bx.mk hk1
    clear hr1 hk1 c0
    go_wp2
    go_ret
    exact ⟨rfl, own, HR1.out, Did.same HK1.out⟩
  | 4, _ =>
    have HE : Bx ((stp most ⟨4, n, body⟩ b).2 = 0) := ⟨by show (if n = 1 then _ else _ : CS × Int).2 = 0; split <;> rfl⟩
    obtain ⟨_, v, hR⟩ := h
    have c0 : w.cell? ⟨g, 0, none⟩ = some (.int .i64 4) := hR.c0
    clear hR
    go_enter Tryz.func57, Tryz.ntmps57
    go_wp2_with fail
    refine (tbyte g own most n body b _ H.out hb).mono ?_
    rintro e w1 ⟨rfl, own1, hr1, hk1⟩
    have HR1 := Bx.mk hr1
    have HK1 := Bx.mk hk1
    clear hr1 hk1 c0
    go_wp2
    go_ret
    exact ⟨ret_int HE.out.symm, own1, HR1.out, HK1.out⟩
  | 1, hp => exact ctake_fix g own most _ 7 b w h hb hp (by show 1 ≠ 0; decide) (by show 1 ≠ 2; decide) (by show 1 ≠ 4; decide) rfl rfl rfl rfl
  | 3, hp => exact ctake_fix g own most _ 3 b w h hb hp (by show 3 ≠ 0; decide) (by show 3 ≠ 2; decide) (by show 3 ≠ 4; decide) rfl rfl rfl rfl
  | 5, hp => exact ctake_fix g own most _ 5 b w h hb hp (by show 5 ≠ 0; decide) (by show 5 ≠ 2; decide) (by show 5 ≠ 4; decide) rfl rfl rfl rfl
  | 6, hp => exact ctake_fix g own most _ 6 b w h hb hp (by show 6 ≠ 0; decide) (by show 6 ≠ 2; decide) (by show 6 ≠ 4; decide) rfl rfl rfl rfl
  | 7, hp => exact ctake_fix g own most _ 8 b w h hb hp (by show 7 ≠ 0; decide) (by show 7 ≠ 2; decide) (by show 7 ≠ 4; decide) rfl rfl rfl rfl
  | 8, hp => exact ctake_fix g own most _ 9 b w h hb hp (by show 8 ≠ 0; decide) (by show 8 ≠ 2; decide) (by show 8 ≠ 4; decide) rfl rfl rfl rfl
  | 9, hp => exact ctake_fix g own most _ 10 b w h hb hp (by show 9 ≠ 0; decide) (by show 9 ≠ 2; decide) (by show 9 ≠ 4; decide) rfl rfl rfl rfl
  | (k + 10), h => exact absurd h (by simp)
set_option maxRecDepth 100000 in
theorem atN_11 (p : Nat) : (atN p == 11) = decide (p = 10) := by
  unfold atN; rw [Bool.eq_iff_iff]; simp only [beq_iff_eq, decide_eq_true_eq]
  split
  · omega
  · split
    · omega
    · split <;> omega
set_option maxRecDepth 100000 in
theorem atN_12 (p : Nat) : (atN p == 12) = decide (p = 11) := by
  unfold atN; rw [Bool.eq_iff_iff]; simp only [beq_iff_eq, decide_eq_true_eq]
  split
  · omega
  · split
    · omega
    · split <;> omega
set_option maxHeartbeats 1000000 in
theorem cput_any (g : Nat) (own : Nat → Prop) (most : Nat) (s : CS) (b : Int) (w : World) (h : Rd w g own most s) (hb : 0 ≤ b ∧ b ≤ 255) :
    Calls Tryz.prog 45 #[.pointer (some ⟨g, 0, none⟩), .int .u8 b] w fun e w' => e = .returned (.tuple #[.bool (ptD most s b), .int .i64 (stp most s b).2]) ∧ ∃ own', Rd w' g own' most (ptS most s b) ∧ Did own w w' own' := by
  have H := Bx.mk h
  obtain ⟨hci, v, hR⟩ := h
  have HC := Bx.mk hci
  have c0 := hR.c0
  have e11 := atN_11 s.ph
  have e12 := atN_12 s.ph
  generalize hx : atN s.ph = x at c0 e11 e12
  have hp := hci.p
  clear hR hx hci
  by_cases h10 : 10 ≤ s.ph
  · have HS : Bx (stp most s b = (s, 20)) := ⟨stp_over b h10⟩
    have HP : Bx (ptS most s b = s) := ⟨ptS_over b h10⟩
    have HD : Bx (ptD most s b = false) := ⟨by unfold ptD; simp; omega⟩
    by_cases h11 : s.ph = 10
    · rw [decide_eq_true h11] at e11
      clear e12 h10 h11 hp
      go_enter Tryz.func45, Tryz.ntmps45
      go_wp2_with fail
      refine (cmade_yes g own most s _ H.out).mono ?_
      rintro e w' ⟨rfl, rfl⟩
      go_wp2
      go_ret2
      exact ⟨by rw [HS.out, HD.out]; rfl, own, by rw [HP.out]; exact H.out, Did.same (Kept.refl _ _)⟩
    · rw [decide_eq_false h11] at e11
      rw [decide_eq_true (show s.ph = 11 by omega)] at e12
      clear h10 h11 hp
      go_enter Tryz.func45, Tryz.ntmps45
      go_wp2_with fail
      refine (cmade_yes g own most s _ H.out).mono ?_
      rintro e w' ⟨rfl, rfl⟩
      go_wp2
      go_ret2
      exact ⟨by rw [HS.out, HD.out]; rfl, own, by rw [HP.out]; exact H.out, Did.same (Kept.refl _ _)⟩
  · rw [decide_eq_false (show ¬ s.ph = 10 by omega)] at e11
    rw [decide_eq_false (show ¬ s.ph = 11 by omega)] at e12
    have hlt : s.ph < 10 := by omega
    have HTK := Bx.mk (ctake_any g own most s b w H.out hb hlt)
    by_cases he : (stp most s b).2 = 0
    · have HP : Bx (ptS most s b = (stp most s b).1) := ⟨ptS_ok h10 he⟩
      have HD : Bx (ptD most s b = decide ((stp most s b).1.ph = 10)) := ⟨by unfold ptD; rw [Bool.eq_iff_iff]; simp [he, hlt]⟩
      have HE := Bx.mk he
      rw [he] at HTK
      clear h10 hp he hlt
      go_enter Tryz.func45, Tryz.ntmps45
      go_wp2_with fail
      refine (cmade_yes g own most s _ H.out).mono ?_
      rintro e w' ⟨rfl, rfl⟩
      go_wp2_with fail
      refine HTK.out.mono ?_
      rintro e w1 ⟨rfl, own1, hr1, hk1⟩
      have HR1 := Bx.mk hr1
      have HK1 := Bx.mk hk1
      obtain ⟨_, v1, hq⟩ := hr1
      have d0 := hq.c0
      have e13 := atN_11 (stp most s b).1.ph
      rw [← HD.out] at e13
      generalize atN (stp most s b).1.ph = x1 at d0 e13
      have HE13 := Bx.mk e13
      clear hq hk1 c0 e11 e12 e13
      go_wp2
      go_ret2
      exact ⟨by rw [HE.out, ← HE13.out]; rfl, own1, by rw [HP.out]; exact HR1.out, HK1.out⟩
    · have HP : Bx (ptS most s b = ⟨11, s.n, s.body⟩) := ⟨ptS_err h10 he⟩
      have HS1 : Bx ((stp most s b).1 = s) := ⟨stp_err he⟩
      have HD : Bx (ptD most s b = false) := ⟨by unfold ptD; simp [he]⟩
      generalize hE : (stp most s b).2 = E at he HTK
      have HE : Bx ((stp most s b).2 = E) := ⟨hE⟩
      have hne : (E != 0) = true := by simpa using he
      clear h10 hp he hlt hE
      go_enter Tryz.func45, Tryz.ntmps45
      go_wp2_with fail
      refine (cmade_yes g own most s _ H.out).mono ?_
      rintro e w' ⟨rfl, rfl⟩
      go_wp2_with fail
      refine HTK.out.mono ?_
      rintro e w1 ⟨rfl, own1, hr1, hk1⟩
      rw [HS1.out] at hr1
      have HR1 := Bx.mk hr1
      have HK1 := Bx.mk hk1
      obtain ⟨_, v1, hq⟩ := hr1
      have d0 := hq.c0
      have f0 := hq.fr 0
      have HQ := Bx.mk hq
      clear hq hk1 c0 e11 e12
      go_wp2
      go_ret2
      exact ⟨by rw [HD.out]; rfl, own1, by rw [HP.out]; exact ⟨HC.out.fail, v1, HQ.out.setAt 12⟩, HK1.out.trans (Did.same (HQ.out.kset 0 _))⟩
end Go.Proofs.YtdameoejigpnhaaGreatDoor
