/- A body's length, read. -/
import Derived.Test.YtdameoejigpnhabGreatDoorACut
namespace Go.Proofs.YtdameoejigpnhabGreatDoor
open Go.RowKit
set_option linter.unusedVariables false

/-- what readLength answers -/
def LnP (n : Nat) (l : List Int) (w : World) (e : Ending) (w' : World) : Prop := Below w.heap.size w w' ∧ ∃ (N : Int) (a' : Option Addr) (n' c' : Nat), e = .returned (.tuple #[.int .i64 N, .slice a' n' c', .int .i64 (lnC l).2.2]) ∧
  ((lnC l).2.2 = 0 → N = ((lnC l).1 : Int) ∧ (lnC l).1 ≤ 8192 ∧ (lnC l).2.1 ≤ n ∧ n' = n - (lnC l).2.1 ∧ Bts w' a' n' c' (l.drop (lnC l).2.1))
set_option maxRecDepth 100000 in
theorem Bts.cutl {w : World} {a : Option Addr} {n c : Nat} {l : List Int} (h : Bts w a n c l) (k : Nat) (hk : k ≤ n) : Bts w a k c (l.take k) :=
  ⟨by rw [List.length_take, h.len_eq]; omega, h.byt.take k, by have := h.le_cap; omega, h.cap_le, h.nil, fun hp => by
    obtain ⟨b, off, e, hlt, hc⟩ := h.spot (by omega)
    exact ⟨b, off, e, hlt, fun i hi => by rw [hc i (by omega)]; have := getD_take_drop l 0 k i hi; rw [List.drop_zero, Nat.zero_add] at this; rw [this]⟩⟩
set_option maxRecDepth 100000 in
theorem str_end : strOf [13, 10, 13, 10] = ⟨#[13, 10, 13, 10]⟩ := rfl
set_option maxRecDepth 100000 in
theorem byt_end : Byt [13, 10, 13, 10] := byt_dec rfl
set_option maxRecDepth 100000 in
theorem ln_nil {l : List Int} (h : l.length = 0) : lnC l = (0, 0, 3) := by unfold lnC; rw [if_pos h]
set_option maxRecDepth 100000 in
theorem ln_bad {l : List Int} (h : l.length ≠ 0) (hr : rdD (l.take (digs l)) = none) : lnC l = (0, 0, 4) := by unfold lnC; rw [if_neg h, hr]
set_option maxRecDepth 100000 in
theorem ln_big {l : List Int} {n : Nat} (h : l.length ≠ 0) (hr : rdD (l.take (digs l)) = some n) (hn : 8192 < n) : lnC l = (0, 0, 4) := by unfold lnC; rw [if_neg h, hr]; simp only; rw [if_pos hn]
set_option maxRecDepth 100000 in
theorem ln_ok {l : List Int} {n : Nat} (h : l.length ≠ 0) (hr : rdD (l.take (digs l)) = some n) (hn : ¬ 8192 < n) : lnC l = (n, digs l + 4, ctE (l.drop (digs l)) [13, 10, 13, 10]) := by unfold lnC; rw [if_neg h, hr]; simp only; rw [if_neg hn]
set_option maxRecDepth 100000 in
theorem ctE_len {b s : List Int} (h : ctE b s = 0) : s.length ≤ b.length := by
  unfold ctE at h
  split at h
  · cases h
  · split at h
    · cases h
    · omega
set_option maxRecDepth 100000 in
set_option maxHeartbeats 2000000 in
theorem wrlen_any (a : Option Addr) (n c : Nat) (l : List Int) (w : World) (h : Bts w a n c l) (hn : n ≤ 1000000) (he : Env w.heap.size w) :
    Calls Tryz.prog 26 #[.slice a n c] w (LnP n l w) := by
  have hl := h.len_eq
  have HB := Bx.mk h
  by_cases h0 : n = 0
  · have HF : Bx (lnC l = (0, 0, 3)) := ⟨ln_nil (by omega)⟩
    have g0 : ((n : Int) == 0) = true := by simpa using h0
    clear h0
    go_enter Tryz.func26, Tryz.ntmps26
    go_wp2
    go_ret3
    exact ⟨Below.refl _ _, 0, none, 0, 0, by rw [HF.out]; rfl, fun h => absurd h (by rw [HF.out]; decide)⟩
  have g0 : ((n : Int) == 0) = false := by simpa using h0
  have hd := digs_le l
  have HE := Bx.mk he
  have HL0 : Bx (l.length ≠ 0) := ⟨by omega⟩
  have HP0 := h.cutl (digs l) (by omega)
  have HDL : Bx (digs l ≤ n) := ⟨by omega⟩
  have HDC : Bx (digs l ≤ c) := ⟨by have := h.le_cap; omega⟩
  have hln := rd_link (l.take (digs l)) (h.byt.take _)
  have hSD : (strOf (l.take (digs l))).size ≤ 1000000 := by rw [strOf_size, List.length_take]; omega
  have HP := Bx.mk HP0
  clear HP0 he h h0
  cases hr : rdD (l.take (digs l)) with
  | none =>
    have HF : Bx (lnC l = (0, 0, 4)) := ⟨ln_bad HL0.out hr⟩
    rw [hr] at hln
    simp only at hln
    have HLN := Bx.mk hln
    generalize hSD0 : strOf (l.take (digs l)) = SD at *
    have HSD := Bx.mk hSD0
    clear hr hln hSD0
    go_enter Tryz.func26, Tryz.ntmps26
    go_wp2_with fail
    refine (wtrim_any a n c l _ HB.out).mono ?_
    rintro e w1 ⟨a1, c1, rfl, hb1, hbl1⟩
    have HB1 := Bx.mk hb1
    have HL1 := Bx.mk hbl1
    have hcv : (convert 22 9 (.slice a (n - (n - digs l)) c)).run Tryz.prog w1 = .ok (.string SD) w1 := by
      rw [show n - (n - digs l) = digs l by have := HDL.out; omega, ← HSD.out]
      exact (HP.out.below hbl1).str
    have HE1 := Bx.mk (HE.out.below hbl1)
    clear hb1 hbl1
    generalize digs l = D at *
    have q1 : ((n : Int) - ((n - D : Nat) : Int)) ≤ (c : Int) := by have := HDC.out; have := HDL.out; omega
    have q2 : (0 : Int) ≤ ((n : Int) - ((n - D : Nat) : Int)) := by omega
    go_wp2_with fail
    refine (read_any SD _ (by omega) HE1.out.tens HE1.out.errs).mono ?_
    rintro e w2 ⟨hrd, hb2⟩
    unfold RdP at hrd
    have HL2 := Bx.mk (bstep HL1.out hb2)
    have HB2 := Bx.mk (HB1.out.below hb2)
    clear hb2
    rw [HLN.out] at hrd
    subst hrd
    go_wp2
    go_ret3
    exact ⟨HL2.out, 0, none, 0, 0, by rw [HF.out]; rfl, fun h => absurd h (by rw [HF.out]; decide)⟩
  | some N =>
    rw [hr] at hln
    simp only at hln
    by_cases hbig : N ≤ 9223372036854775807
    · rw [if_pos hbig] at hln
      have HLN := Bx.mk hln
      by_cases h8 : 8192 < N
      · have HF : Bx (lnC l = (0, 0, 4)) := ⟨ln_big HL0.out hr h8⟩
        have g8 : (N : Int) > 8192 := by omega
        generalize hSD0 : strOf (l.take (digs l)) = SD at *
        have HSD := Bx.mk hSD0
        clear hr hln hSD0
        go_enter Tryz.func26, Tryz.ntmps26
        go_wp2_with fail
        refine (wtrim_any a n c l _ HB.out).mono ?_
        rintro e w1 ⟨a1, c1, rfl, hb1, hbl1⟩
        have HB1 := Bx.mk hb1
        have HL1 := Bx.mk hbl1
        have hcv : (convert 22 9 (.slice a (n - (n - digs l)) c)).run Tryz.prog w1 = .ok (.string SD) w1 := by
          rw [show n - (n - digs l) = digs l by have := HDL.out; omega, ← HSD.out]
          exact (HP.out.below hbl1).str
        have HE1 := Bx.mk (HE.out.below hbl1)
        clear hb1 hbl1
        generalize digs l = D at *
        have q1 : ((n : Int) - ((n - D : Nat) : Int)) ≤ (c : Int) := by have := HDC.out; have := HDL.out; omega
        have q2 : (0 : Int) ≤ ((n : Int) - ((n - D : Nat) : Int)) := by omega
        go_wp2_with fail
        refine (read_any SD _ (by omega) HE1.out.tens HE1.out.errs).mono ?_
        rintro e w2 ⟨hrd, hb2⟩
        unfold RdP at hrd
        have HL2 := Bx.mk (bstep HL1.out hb2)
        have HB2 := Bx.mk (HB1.out.below hb2)
        clear hb2
        rw [HLN.out] at hrd
        subst hrd
        go_wp2
        go_ret3
        exact ⟨HL2.out, 0, none, 0, 0, by rw [HF.out]; rfl, fun h => absurd h (by rw [HF.out]; decide)⟩
      · have HF : Bx (lnC l = (N, digs l + 4, ctE (l.drop (digs l)) [13, 10, 13, 10])) := ⟨ln_ok HL0.out hr h8⟩
        have g8 : ¬ (N : Int) > 8192 := by omega
        generalize hSD0 : strOf (l.take (digs l)) = SD at *
        have HSD := Bx.mk hSD0
        clear hr hln hSD0
        go_enter Tryz.func26, Tryz.ntmps26
        go_wp2_with fail
        refine (wtrim_any a n c l _ HB.out).mono ?_
        rintro e w1 ⟨a1, c1, rfl, hb1, hbl1⟩
        have HB1 := Bx.mk hb1
        have HL1 := Bx.mk hbl1
        have hcv : (convert 22 9 (.slice a (n - (n - digs l)) c)).run Tryz.prog w1 = .ok (.string SD) w1 := by
          rw [show n - (n - digs l) = digs l by have := HDL.out; omega, ← HSD.out]
          exact (HP.out.below hbl1).str
        have HE1 := Bx.mk (HE.out.below hbl1)
        clear hb1 hbl1
        generalize digs l = D at *
        have q1 : ((n : Int) - ((n - D : Nat) : Int)) ≤ (c : Int) := by have := HDC.out; have := HDL.out; omega
        have q2 : (0 : Int) ≤ ((n : Int) - ((n - D : Nat) : Int)) := by omega
        go_wp2_with fail
        refine (read_any SD _ (by omega) HE1.out.tens HE1.out.errs).mono ?_
        rintro e w2 ⟨hrd, hb2⟩
        unfold RdP at hrd
        have HL2 := Bx.mk (bstep HL1.out hb2)
        have HB2 := Bx.mk (HB1.out.below hb2)
        clear hb2
        rw [HLN.out] at hrd
        subst hrd
        have C2 : Bx (Calls Tryz.prog 38 #[.slice a1 (n - D : Nat) c1, .string ⟨#[13, 10, 13, 10]⟩] w2 fun e w' => ∃ V q, e = .returned (.tuple #[V, .int .i64 (ctE (l.drop D) [13, 10, 13, 10])]) ∧ w' = w2.drewN q ∧ (ctE (l.drop D) [13, 10, 13, 10] = 0 → V = .slice (slA a1 4 c1) (n - D - 4) (c1 - 4)) ∧ (ctE (l.drop D) [13, 10, 13, 10] ≠ 0 → V = .slice none 0 0)) := ⟨wcut_any a1 (n - D) c1 (l.drop D) [13, 10, 13, 10] w2 HB2.out byt_end (by decide)⟩
        have HCL : Bx (ctE (l.drop D) [13, 10, 13, 10] = 0 → D + 4 ≤ n) := ⟨fun h => by have h1 := ctE_len h; rw [List.length_drop] at h1; simp only [List.length_cons, List.length_nil] at h1; omega⟩
        have HDD : Bx (l.drop (D + 4) = (l.drop D).drop 4) := ⟨by rw [List.drop_drop]⟩
        generalize ctE (l.drop D) [13, 10, 13, 10] = CE at *
        go_wp2_with fail
        refine C2.out.mono ?_
        rintro e w3 ⟨V, q, rfl, rfl, hv0, hv1⟩
        by_cases hce : CE = 0
        · obtain rfl := hv0 hce
          have HB4 := Bx.mk ((HB2.out.rest 4 (by have := HCL.out hce; omega)).drewN q)
          have HCE := Bx.mk hce
          have HL3 := Bx.mk (below_drewN HL2.out q)
          clear hv0 hv1 hce
          generalize slA a1 4 c1 = A4 at *
          generalize w2.drewN q = w3 at *
          go_wp2
          go_ret3
          refine ⟨HL3.out, N, A4, n - D - 4, c1 - 4, by rw [HF.out]; rfl, fun _ => ⟨by rw [HF.out], by rw [HF.out]; omega, by rw [HF.out]; exact HCL.out HCE.out, by rw [HF.out]; show _ = n - (D + 4); omega, ?_⟩⟩
          rw [HF.out]
          show Bts _ _ _ _ (l.drop (D + 4))
          rw [HDD.out]
          exact HB4.out
        · obtain rfl := hv1 hce
          have HCE := Bx.mk hce
          have HL3 := Bx.mk (below_drewN HL2.out q)
          clear hv0 hv1 hce
          generalize w2.drewN q = w3 at *
          go_wp2
          go_ret3
          exact ⟨HL3.out, N, none, 0, 0, by rw [HF.out]; rfl, fun h => absurd (by rw [HF.out] at h; exact h) HCE.out⟩
    · rw [if_neg hbig] at hln
      have HLN := Bx.mk hln
      have HF : Bx (lnC l = (0, 0, 4)) := ⟨ln_big HL0.out hr (by omega)⟩
      generalize hSD0 : strOf (l.take (digs l)) = SD at *
      have HSD := Bx.mk hSD0
      clear hr hln hSD0 hbig
      go_enter Tryz.func26, Tryz.ntmps26
      go_wp2_with fail
      refine (wtrim_any a n c l _ HB.out).mono ?_
      rintro e w1 ⟨a1, c1, rfl, hb1, hbl1⟩
      have HB1 := Bx.mk hb1
      have HL1 := Bx.mk hbl1
      have hcv : (convert 22 9 (.slice a (n - (n - digs l)) c)).run Tryz.prog w1 = .ok (.string SD) w1 := by
        rw [show n - (n - digs l) = digs l by have := HDL.out; omega, ← HSD.out]
        exact (HP.out.below hbl1).str
      have HE1 := Bx.mk (HE.out.below hbl1)
      clear hb1 hbl1
      generalize digs l = D at *
      have q1 : ((n : Int) - ((n - D : Nat) : Int)) ≤ (c : Int) := by have := HDC.out; have := HDL.out; omega
      have q2 : (0 : Int) ≤ ((n : Int) - ((n - D : Nat) : Int)) := by omega
      go_wp2_with fail
      refine (read_any SD _ (by omega) HE1.out.tens HE1.out.errs).mono ?_
      rintro e w2 ⟨hrd, hb2⟩
      unfold RdP at hrd
      have HL2 := Bx.mk (bstep HL1.out hb2)
      have HB2 := Bx.mk (HB1.out.below hb2)
      clear hb2
      rw [HLN.out] at hrd
      subst hrd
      go_wp2
      go_ret3
      exact ⟨HL2.out, 0, none, 0, 0, by rw [HF.out]; rfl, fun h => absurd h (by rw [HF.out]; decide)⟩
end Go.Proofs.YtdameoejigpnhabGreatDoor
