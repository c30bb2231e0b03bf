/- A first line, read; an answer, read. -/
import Derived.Test.YtdameoejigpnhabGreatDoorALen
namespace Go.Proofs.YtdameoejigpnhabGreatDoor
open Go.RowKit
set_option linter.unusedVariables false

set_option maxRecDepth 100000 in
theorem strL_lenH : strL lenH = [67, 111, 110, 116, 101, 110, 116, 45, 76, 101, 110, 103, 116, 104, 58, 32] := rfl
set_option maxRecDepth 100000 in
theorem strL_led (c : Int) : strL (stB c ++ lenH) = ledL c := by
  unfold stB ledL
  simp only [strL_append, strL_dec, strL_rsn, strL_lenH]
  simp only [List.append_assoc]
  rfl
set_option maxRecDepth 100000 in
theorem led_str (c : Int) : stB c ++ lenH = strOf (ledL c) := by rw [← strL_led, strOf_strL]
set_option maxRecDepth 100000 in
theorem led_byt (c : Int) : Byt (ledL c) := by rw [← strL_led]; exact strL_byt _
set_option maxRecDepth 100000 in
theorem led_size {c : Int} (hc : c ∈ cdsL) : (ledL c).length ≤ 80 := by
  rw [← strL_led, strL_length, size_append]
  have := stB_size hc
  show _ + 16 ≤ 80
  omega
set_option maxRecDepth 100000 in
theorem cds_mem (k : Nat) (hk : k < 12) : cdsL.getD k 0 ∈ cdsL := by
  match k, hk with
  | 0, _ | 1, _ | 2, _ | 3, _ | 4, _ | 5, _ | 6, _ | 7, _ | 8, _ | 9, _ | 10, _ | 11, _ => decide
set_option maxRecDepth 100000 in
theorem cds_at {c : Int} (hc : c ∈ cdsL) : ∃ j, j < 12 ∧ cdsL.getD j 0 = c := by
  obtain ⟨j, hj, e⟩ := List.getElem_of_mem hc
  exact ⟨j, hj, by rw [List.getD_eq_getElem?_getD, List.getElem?_eq_getElem hj]; exact e⟩
/-- what readStatus answers -/
def StP (a : Option Addr) (n cp : Nat) (l : List Int) (w : World) (e : Ending) (w' : World) : Prop := Below w.heap.size w w' ∧
  ((∃ c, c ∈ cdsL ∧ mtB l (ledL c) ∧ ∃ V, e = .returned (.tuple #[.int .i64 c, V, .int .i64 (ctE l (ledL c))]) ∧ (ctE l (ledL c) = 0 → V = .slice (slA a (ledL c).length cp) (n - (ledL c).length) (cp - (ledL c).length)) ∧ (ctE l (ledL c) ≠ 0 → V = .slice none 0 0)) ∨
   ((∀ c ∈ cdsL, ¬ mtB l (ledL c)) ∧ e = .returned (.tuple #[.int .i64 0, .slice none 0 0, .int .i64 4])))
set_option maxRecDepth 100000 in
theorem ctE_mt {b s : List Int} (h : ctE b s ≠ 4) : mtB b s := Classical.byContradiction fun hn => h (ctE_no hn)
set_option maxRecDepth 100000 in
theorem ctE_not {b s : List Int} (h : ctE b s = 4) : ¬ mtB b s := fun hm => by
  by_cases hl : b.length < s.length
  · rw [ctE_short hm hl] at h; cases h
  · rw [ctE_ok hm hl] at h; cases h
set_option maxRecDepth 100000 in
set_option maxHeartbeats 2000000 in
theorem wrstat_any (a : Option Addr) (n cp : Nat) (l : List Int) (w : World) (h : Bts w a n cp l) (hn : n ≤ 1000000) (hs : Stt w) (he : Env w.heap.size w) :
    Calls Tryz.prog 25 #[.slice a n cp] w (StP a n cp l w) := by
  have HST := Bx.mk hs
  have HE := Bx.mk he
  have HBT := Bx.mk h
  clear hs he h
  go_enter Tryz.func25, Tryz.ntmps25
  go_wp2_with (refine wpList_load_mid rfl 60 (.global 0) rfl 0 0 rfl stC _ HST.out.rng Tryz.underlying60 rfl stt_info ?_)
  go_loopw [10] (fun i wr => ∃ k : Nat, k ≤ 12 ∧ i = .int .i64 k ∧ Bx (Below w.heap.size w wr) ∧ Bx (∀ j, j < k → ¬ mtB l (ledL (cdsL.getD j 0)))) (fun i _ => 12 - (intOf i).toNat)
  case atStart => exact ⟨0, by omega, rfl, ⟨Below.refl _ _⟩, ⟨fun j hj => absurd hj (Nat.not_lt_zero j)⟩⟩
  case round =>
    obtain ⟨k, hk, rfl, HB, HN⟩ := hrel
    by_cases hlt : k < 12
    · have hkI : (k : Int) < 12 := by omega
      have hix := idx_st k hlt wr
      have HNX : Bx (¬ mtB l (ledL (cdsL.getD k 0)) → ∀ j, j < k + 1 → ¬ mtB l (ledL (cdsL.getD j 0))) := ⟨fun hne j hj => by
        by_cases e : j = k
        · rw [e]; exact hne
        · exact HN.out j (by omega)⟩
      have HM := Bx.mk (cds_mem k hlt)
      have HST2 : Bx (∀ W, Below w.heap.size w W → Calls Tryz.prog 21 #[.int .i64 (cdsL.getD k 0), .string (strOf (rsnL (cdsL.getD k 0)))] W fun e w' => e = .returned (.string (stB (cdsL.getD k 0))) ∧ Below W.heap.size W w') := ⟨fun W hW => wstat_any _ W HM.out (HE.out.below hW).tens⟩
      have HCT : Bx (∀ W, Below w.heap.size w W → Calls Tryz.prog 38 #[.slice a n cp, .string (strOf (ledL (cdsL.getD k 0)))] W fun e w' => ∃ V q, e = .returned (.tuple #[V, .int .i64 (ctE l (ledL (cdsL.getD k 0)))]) ∧ w' = W.drewN q ∧ (ctE l (ledL (cdsL.getD k 0)) = 0 → V = .slice (slA a (ledL (cdsL.getD k 0)).length cp) (n - (ledL (cdsL.getD k 0)).length) (cp - (ledL (cdsL.getD k 0)).length)) ∧ (ctE l (ledL (cdsL.getD k 0)) ≠ 0 → V = .slice none 0 0)) := ⟨fun W hW => wcut_any a n cp l _ W (HBT.out.below hW) (led_byt _) (by have := led_size HM.out; omega)⟩
      have hst := stB_size HM.out
      have eLD := led_str (cdsL.getD k 0)
      unfold lenH at eLD
      generalize strOf (rsnL (cdsL.getD k 0)) = R at *
      generalize cdsL.getD k 0 = K at *
      generalize stB K = SB at *
      have HB2 := Bx.mk (bstep HB.out ((Below.refl _ _).alloc (Nat.le_refl _) (.cells #[.int .i64 K, .string R] 59)))
      have hc0 : (wr.alloc (.cells #[.int .i64 K, .string R] 59)).cell? ⟨wr.heap.size, 0, none⟩ = some (.int .i64 K) := by rw [World.cell?_alloc_new]; rfl
      have HC0 := Bx.mk hc0
      have HLT0 : Bx (wr.heap.size < (wr.alloc (.cells #[.int .i64 K, .string R] 59)).heap.size) := ⟨by simp⟩
      generalize stC.toArray = SA at *
      generalize hLS : strOf (ledL K) = LS at *
      clear hLS
      go_wp2_with fail
      refine (HST2.out _ HB2.out).mono ?_
      rintro e w1 ⟨rfl, hb1⟩
      have HB3 := Bx.mk (bstep HB2.out hb1)
      have hc1 := (hb1.cell (p := ⟨wr.heap.size, 0, none⟩) HLT0.out).trans HC0.out
      have HC1 := Bx.mk hc1
      clear hb1 hc0 hc1
      go_wp2_with fail
      refine (HCT.out _ HB3.out).mono ?_
      rintro e w2 ⟨V, q, rfl, rfl, hv0, hv1⟩
      have HB4 := Bx.mk (below_drewN HB3.out q)
      have hc2 : (w1.drewN q).cell? ⟨wr.heap.size, 0, none⟩ = some (.int .i64 K) := HC1.out
      generalize w1.drewN q = w2 at *
      by_cases h4 : ctE l (ledL K) = 4
      · have g4 : (ctE l (ledL K) != 4) = false := by simpa using h4
        have HNN := Bx.mk (HNX.out (ctE_not h4))
        obtain rfl := hv1 (by rw [h4]; decide)
        generalize ctE l (ledL K) = CE at *
        clear h4 HNX hv0 hv1
        go_wp2
        go_roundw
        case rel => exact ⟨k + 1, by omega, by go_num, HB4, HNN⟩
        case measure => simp [intOf]; omega
      · have g4 : (ctE l (ledL K) != 4) = true := by simpa using h4
        have HMT := Bx.mk (ctE_mt h4)
        have HV0 := Bx.mk hv0
        have HV1 := Bx.mk hv1
        have HCE : ∃ CE, CE = ctE l (ledL K) := ⟨_, rfl⟩
        obtain ⟨CE, hCE⟩ := HCE
        have HCE := Bx.mk hCE
        rw [← hCE] at g4 ⊢
        clear h4 HNX hv0 hv1 hCE
        go_wp2
        go_ret3
        exact ⟨HB4.out, .inl ⟨K, HM.out, HMT.out, V, by rw [← HCE.out]; rfl, HV0.out, HV1.out⟩⟩
    · have hge : ¬ (k : Int) < 12 := by omega
      have HE : Bx (∀ c ∈ cdsL, ¬ mtB l (ledL c)) := ⟨fun c hc => by obtain ⟨j, hj, rfl⟩ := cds_at hc; exact HN.out j (by omega)⟩
      go_wp2
      go_ret3
      exact ⟨HB.out, .inr ⟨HE.out, rfl⟩⟩
end Go.Proofs.YtdameoejigpnhabGreatDoor
