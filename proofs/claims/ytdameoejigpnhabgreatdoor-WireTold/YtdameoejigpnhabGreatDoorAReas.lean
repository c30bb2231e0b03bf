/- A status in words. -/
import Derived.Test.YtdameoejigpnhabGreatDoorAStat
namespace Go.Proofs.YtdameoejigpnhabGreatDoor
open Go.RowKit
set_option linter.unusedVariables false

set_option maxRecDepth 100000 in
theorem stt_info : (Tryz.prog.info? 60).map (·.size) = some 24 := by kernel_rfl
set_option maxRecDepth 100000 in
theorem idx_st (k : Nat) (hk : k < 12) (w : World) : (Instr.index 60 (.agg stC.toArray) (.int .i64 (k : Int))).run Tryz.prog w = .ok (.agg #[.int .i64 (cdsL.getD k 0), .string (strOf (rsnL (cdsL.getD k 0)))]) w := by
  match k, hk with
  | 0, _ | 1, _ | 2, _ | 3, _ | 4, _ | 5, _ | 6, _ | 7, _ | 8, _ | 9, _ | 10, _ | 11, _ =>
    simp only [Instr.index, asIntOf, go_sem, part]
    simp
    rfl
set_option maxRecDepth 100000 in
theorem cds_get (k : Nat) (hk : k < 12) : 0 ≤ cdsL.getD k 0 ∧ cdsL.getD k 0 ≤ 600 := by
  match k, hk with
  | 0, _ | 1, _ | 2, _ | 3, _ | 4, _ | 5, _ | 6, _ | 7, _ | 8, _ | 9, _ | 10, _ | 11, _ => exact ⟨by decide, by decide⟩
set_option maxRecDepth 100000 in
theorem rsn_none {c : Int} (h : ∀ j, j < 12 → cdsL.getD j 0 ≠ c) : rsnL c = [] := by
  refine Classical.byContradiction fun hn => ?_
  have hm := (rsn_iff c).1 hn
  obtain ⟨j, hj, e⟩ := List.getElem_of_mem hm
  exact h j hj (by rw [List.getD_eq_getElem?_getD, List.getElem?_eq_getElem hj]; exact e)
set_option maxRecDepth 100000 in
set_option maxHeartbeats 2000000 in
theorem wreason_any (c : Int) (w : World) (hs : Stt w) :
    Calls Tryz.prog 12 #[.int .i64 c] w fun e w' => e = .returned (.string (strOf (rsnL c))) ∧ Below w.heap.size w w' := by
  have HST := Bx.mk hs
  clear hs
  go_enter Tryz.func12, Tryz.ntmps12
  go_wp2_with (refine wpList_load_mid rfl 60 (.global 0) rfl 0 0 rfl stC _ HST.out.rng Tryz.underlying60 rfl stt_info ?_)
  go_loopw [6] (fun i wr => ∃ k : Nat, k ≤ 12 ∧ i = .int .i64 k ∧ Bx (Below w.heap.size w wr) ∧ Bx (∀ j, j < k → cdsL.getD j 0 ≠ c)) (fun i _ => 12 - (intOf i).toNat)
  case atStart => exact ⟨0, by omega, rfl, ⟨Below.refl _ _⟩, ⟨fun j hj => absurd hj (Nat.not_lt_zero j)⟩⟩
  case round =>
    obtain ⟨k, hk, rfl, HB, HN⟩ := hrel
    by_cases hlt : k < 12
    · have hkI : (k : Int) < 12 := by omega
      have hix := idx_st k hlt wr
      have HNX : Bx (cdsL.getD k 0 ≠ c → ∀ j, j < k + 1 → cdsL.getD j 0 ≠ c) := ⟨fun hne j hj => by
        by_cases e : j = k
        · rw [e]; exact hne
        · exact HN.out j (by omega)⟩
      have HRS : Bx (cdsL.getD k 0 = c → strOf (rsnL (cdsL.getD k 0)) = strOf (rsnL c)) := ⟨fun e => by rw [e]⟩
      generalize strOf (rsnL (cdsL.getD k 0)) = R at *
      generalize cdsL.getD k 0 = K at *
      have HB2 := Bx.mk (bstep HB.out ((Below.refl _ _).alloc (Nat.le_refl _) (.cells #[.int .i64 K, .string R] 59)))
      generalize stC.toArray = SA at *
      by_cases hc : K = c
      · have g1 : (K == c) = true := by simpa using hc
        have HR := Bx.mk (HRS.out hc)
        clear hc
        go_wp2
        go_ret
        exact ⟨by rw [← HR.out]; rfl, HB2.out⟩
      · have g1 : (K == c) = false := by simpa using hc
        have HNN := Bx.mk (HNX.out hc)
        clear hc HNX
        go_wp2
        go_roundw
        case rel => exact ⟨k + 1, by omega, by go_num, HB2, HNN⟩
        case measure => simp [intOf]; omega
    · have hge : ¬ (k : Int) < 12 := by omega
      have HE : Bx (rsnL c = []) := ⟨rsn_none (fun j hj => HN.out j (by omega))⟩
      go_wp2
      go_ret
      exact ⟨by rw [HE.out]; rfl, HB.out⟩
set_option maxRecDepth 100000 in
set_option maxHeartbeats 2000000 in
theorem rreason_any (c : Int) (w : World) :
    Calls Tryz.prog 13 #[.int .i64 c] w fun e w' => e = .returned (.string (strOf (rsnL c))) ∧ w' = w := by
  by_cases h200 : c = 200
  · have HR : Bx (rsnL c = rsnL 200) := ⟨by rw [h200]⟩
    have g200 : (c == 200) = true := by simpa using h200
    clear h200
    go_enter Tryz.func13, Tryz.ntmps13
    go_wp2
    go_ret
    exact ⟨by rw [HR.out]; rfl, rfl⟩
  have g200 : (c == 200) = false := by simpa using h200
  by_cases h400 : c = 400
  · have HR : Bx (rsnL c = rsnL 400) := ⟨by rw [h400]⟩
    have g400 : (c == 400) = true := by simpa using h400
    clear h400
    go_enter Tryz.func13, Tryz.ntmps13
    go_wp2
    go_ret
    exact ⟨by rw [HR.out]; rfl, rfl⟩
  have g400 : (c == 400) = false := by simpa using h400
  by_cases h401 : c = 401
  · have HR : Bx (rsnL c = rsnL 401) := ⟨by rw [h401]⟩
    have g401 : (c == 401) = true := by simpa using h401
    clear h401
    go_enter Tryz.func13, Tryz.ntmps13
    go_wp2
    go_ret
    exact ⟨by rw [HR.out]; rfl, rfl⟩
  have g401 : (c == 401) = false := by simpa using h401
  by_cases h403 : c = 403
  · have HR : Bx (rsnL c = rsnL 403) := ⟨by rw [h403]⟩
    have g403 : (c == 403) = true := by simpa using h403
    clear h403
    go_enter Tryz.func13, Tryz.ntmps13
    go_wp2
    go_ret
    exact ⟨by rw [HR.out]; rfl, rfl⟩
  have g403 : (c == 403) = false := by simpa using h403
  by_cases h404 : c = 404
  · have HR : Bx (rsnL c = rsnL 404) := ⟨by rw [h404]⟩
    have g404 : (c == 404) = true := by simpa using h404
    clear h404
    go_enter Tryz.func13, Tryz.ntmps13
    go_wp2
    go_ret
    exact ⟨by rw [HR.out]; rfl, rfl⟩
  have g404 : (c == 404) = false := by simpa using h404
  by_cases h405 : c = 405
  · have HR : Bx (rsnL c = rsnL 405) := ⟨by rw [h405]⟩
    have g405 : (c == 405) = true := by simpa using h405
    clear h405
    go_enter Tryz.func13, Tryz.ntmps13
    go_wp2
    go_ret
    exact ⟨by rw [HR.out]; rfl, rfl⟩
  have g405 : (c == 405) = false := by simpa using h405
  by_cases h409 : c = 409
  · have HR : Bx (rsnL c = rsnL 409) := ⟨by rw [h409]⟩
    have g409 : (c == 409) = true := by simpa using h409
    clear h409
    go_enter Tryz.func13, Tryz.ntmps13
    go_wp2
    go_ret
    exact ⟨by rw [HR.out]; rfl, rfl⟩
  have g409 : (c == 409) = false := by simpa using h409
  by_cases h413 : c = 413
  · have HR : Bx (rsnL c = rsnL 413) := ⟨by rw [h413]⟩
    have g413 : (c == 413) = true := by simpa using h413
    clear h413
    go_enter Tryz.func13, Tryz.ntmps13
    go_wp2
    go_ret
    exact ⟨by rw [HR.out]; rfl, rfl⟩
  have g413 : (c == 413) = false := by simpa using h413
  by_cases h422 : c = 422
  · have HR : Bx (rsnL c = rsnL 422) := ⟨by rw [h422]⟩
    have g422 : (c == 422) = true := by simpa using h422
    clear h422
    go_enter Tryz.func13, Tryz.ntmps13
    go_wp2
    go_ret
    exact ⟨by rw [HR.out]; rfl, rfl⟩
  have g422 : (c == 422) = false := by simpa using h422
  by_cases h429 : c = 429
  · have HR : Bx (rsnL c = rsnL 429) := ⟨by rw [h429]⟩
    have g429 : (c == 429) = true := by simpa using h429
    clear h429
    go_enter Tryz.func13, Tryz.ntmps13
    go_wp2
    go_ret
    exact ⟨by rw [HR.out]; rfl, rfl⟩
  have g429 : (c == 429) = false := by simpa using h429
  by_cases h503 : c = 503
  · have HR : Bx (rsnL c = rsnL 503) := ⟨by rw [h503]⟩
    have g503 : (c == 503) = true := by simpa using h503
    clear h503
    go_enter Tryz.func13, Tryz.ntmps13
    go_wp2
    go_ret
    exact ⟨by rw [HR.out]; rfl, rfl⟩
  have g503 : (c == 503) = false := by simpa using h503
  by_cases h507 : c = 507
  · have HR : Bx (rsnL c = rsnL 507) := ⟨by rw [h507]⟩
    have g507 : (c == 507) = true := by simpa using h507
    clear h507
    go_enter Tryz.func13, Tryz.ntmps13
    go_wp2
    go_ret
    exact ⟨by rw [HR.out]; rfl, rfl⟩
  have g507 : (c == 507) = false := by simpa using h507
  have HR : Bx (rsnL c = []) := ⟨by unfold rsnL; rw [if_neg h200, if_neg h400, if_neg h401, if_neg h403, if_neg h404, if_neg h405, if_neg h409, if_neg h413, if_neg h422, if_neg h429, if_neg h503, if_neg h507]⟩
  clear h200 h400 h401 h403 h404 h405 h409 h413 h422 h429 h503 h507
  go_enter Tryz.func13, Tryz.ntmps13
  go_wp2
  go_ret
  exact ⟨by rw [HR.out]; rfl, rfl⟩
end Go.Proofs.YtdameoejigpnhabGreatDoor
