/- What the document's Claim answers. -/
import Derived.Test.YtdoedkgidcoibaaDoorOpen
import Derived.Test.YtdoedkgidcoibaaDoorRefRead
import Derived.Test.YtdoedkgidcoibaaDoorRefUnhex
namespace Go.Proofs.YtdoedkgidcoibaaDoor
open Go.RowKit
set_option linter.unusedVariables false

theorem no_claim {s : ByteArray} (h : readV s = none) : ⟨#[]⟩ = rN s ∧ 0 = rV s ∧ 4 = cE s := by
  obtain ⟨e1, e2, _, e4⟩ := rd_nofacts h
  refine ⟨e1.symm, e2.symm, ?_⟩
  unfold cE; rw [e4]; rfl
theorem yes_claim {s n : ByteArray} {v : Int} {l : List Int} (h : readV s = some (n, v, l)) : n = rN s ∧ v = rV s ∧ 0 = cE s := by
  obtain ⟨e1, e2, _, e4⟩ := rd_facts h
  refine ⟨e1.symm, e2.symm, ?_⟩
  unfold cE; rw [e4]; rfl
set_option maxRecDepth 100000 in
set_option maxHeartbeats 1000000 in
theorem refclaim_any (s : ByteArray) (w : World) (hs : s.size ≤ 300) :
    Calls Tryd.prog 19 #[.string s] w fun e w' => e = .returned (.tuple #[.agg #[.string (rN s), .int .i64 (rV s)], .int .i64 (cE s)]) ∧ Below w.heap.size w w' := by
  go_enter Tryd.func19, Tryd.ntmps19
  go_wp2_with fail
  have hc := rc_new w
  generalize w.alloc (.cells #[.string ⟨#[]⟩, .int .i64 0] 35) = w0 at hc ⊢
  go_loop [4] (fun x => ∃ i : Nat, i ≤ s.size ∧ x = .int .i64 i ∧ ∀ j, j < i → sb s j ≠ 46) (fun x => s.size - (intOf x).toNat)
  case atStart => exact ⟨0, Nat.zero_le _, rfl, fun j hj => by omega⟩
  case round =>
    obtain ⟨i, hi, rfl, hf⟩ := hrel
    have HF : Hid (∀ j, j < i → sb s j ≠ 46) := hf
    clear hf
    by_cases hlt : i < s.size
    · have hii : (i : Int) < (s.size : Int) := by omega
      have g1 : decide ((i : Int) < (s.size : Int)) = true := by simpa using hlt
      have hse : ∀ h, (((s[i]'h).toNat : Nat) : Int) = sb s i := fun h => sb_eq s i h
      by_cases h46 : sb s i = 46
      · have g2 : (sb s i != 46) = false := by simp [h46]
        have H46 : Hid (sb s i = 46) := h46
        clear h46
        go_wp2_with fail
        clear hse g1 g2
        go_loop [5] (fun x => ∃ k : Nat, i < k ∧ k ≤ s.size ∧ x = .int .i64 k ∧ ∀ j, i < j → j < k → sb s j ≠ 46) (fun x => s.size - (intOf x).toNat)
        case atStart => exact ⟨i + 1, by omega, by omega, by go_num, fun j h1 h2 => by omega⟩
        case round =>
          obtain ⟨k, hik, hk, rfl, hf⟩ := hrel
          have HF2 : Hid (∀ j, i < j → j < k → sb s j ≠ 46) := hf
          clear hf
          by_cases hlt2 : k < s.size
          · have hkk : (k : Int) < (s.size : Int) := by omega
            have g3 : decide ((k : Int) < (s.size : Int)) = true := by simpa using hlt2
            have hsk : ∀ h, (((s[k]'h).toNat : Nat) : Int) = sb s k := fun h => sb_eq s k h
            by_cases h46 : sb s k = 46
            · have g4 : (sb s k != 46) = false := by simp [h46]
              have HS : Hid (Scan s i k) := ⟨hi, HF.out, fun _ => H46.out, hik, HF2.out, fun _ => h46⟩
              clear h46 HF HF2 H46
              have g5 : decide ((s.size : Int) ≤ (i : Int)) = false := by simp; omega
              have g6 : decide ((s.size : Int) ≤ (k : Int)) = false := by simp; omega
              have g7 : ¬ (s.size : Int) ≤ (i : Int) := by omega
              have g8 : ¬ (s.size : Int) ≤ (k : Int) := by omega
              by_cases h65 : s.size = k + 65
              · have g9 : ((s.size : Int) - (k : Int) != 65) = false := by simp; omega
                have g10 : (i : Int) ≤ (s.size : Int) := by omega
                have HP : Hid (readV s = pieceV (s.extract 0 i) (s.extract (i + 1) k) (s.extract (k + 1) s.size)) := scan_read HS.out hlt hlt2
                have hzn : (s.extract 0 i).size ≤ 300 := by rw [Lib.size_eq, extract_list, List.length_take]; omega
                have hzt : (s.extract (i + 1) k).size ≤ 300 := by rw [Lib.size_eq, extract_list, List.length_take]; omega
                have HX : Hid ((s.extract (k + 1) s.size).size = 64) := by show _ = _; have := rest_size s (k + 1); unfold rest at this; omega
                have hzx : (s.extract (k + 1) s.size).size ≤ 64 := Nat.le_of_eq HX.out
                clear h65 HS
                go_wp2_with fail
                refine (refname_any (s.extract 0 i) _ (by omega)).mono ?_
                rintro e wz ⟨rfl, hwz⟩
                obtain rfl : w0 = wz := hwz.symm
                clear hwz
                cases hN : nameB (s.extract 0 i) with
                | false =>
                  have HN : Hid (⟨#[]⟩ = rN s ∧ 0 = rV s ∧ 4 = cE s) := no_claim (by
                    rw [HP.out]
                    cases hcr : rdv (s.extract (i + 1) k).data.toList with
                    | none => exact pv_rd hcr
                    | some v => exact pv_if hcr (by rw [hN]; simp))
                  clear hN HP
                  have c0 := hc.at0
                  have c1 := hc.at1
                  have f0 := hc.fr0
                  have f1 := hc.fr1
                  go_wp2_with fail
                  replace hc := hc.put2 (m := ⟨#[]⟩) (u := 0)
                  clear c0 c1 f0 f1
                  generalize ((w0).setCell ⟨w.heap.size, 0, none⟩ (.string ⟨#[]⟩)).setCell ⟨w.heap.size, 1, none⟩ (.int .i64 0) = w9 at hc ⊢
                  exact bodyPost_ret (v := .tuple #[.agg #[.string ⟨#[]⟩, .int .i64 0], .int .i64 4]) (by simp [results, Tryd.results19, go_sem, hc.at0, hc.at1]) rfl ⟨ret_claim HN.out.1 HN.out.2.1 HN.out.2.2, hc.low⟩
                | true =>
                  have HM : Hid (nameB (s.extract 0 i) = true) := hN
                  have g11 : (i : Int) + 1 ≤ (k : Int) := by omega
                  have g12 : (k : Int) ≤ (s.size : Int) := by omega
                  have g13 : (k : Int) + 1 ≤ (s.size : Int) := by omega
                  clear hN g3 g4 g5 g6 g7 g8 g9 hsk
                  go_wp2_with fail
                  refine (refread_any (s.extract (i + 1) k) _ (by omega)).mono ?_
                  rintro e wz ⟨hr, hwz⟩
                  obtain rfl : w0 = wz := hwz.symm
                  clear hwz
                  unfold RdP at hr
                  subst hr
                  generalize s.extract (i + 1) k = T at HP hzt
                  go_wp2_with fail
                  refine (refunhex_any (s.extract (k + 1) s.size) _ (by omega)).mono ?_
                  rintro e w1 ⟨a1, m1, c1, rfl, -, hb1⟩
                  replace hc := hc.step hb1
                  generalize s.extract (k + 1) s.size = X at HP HX hzx
                  clear hb1
                  cases hcr : rdv T.data.toList with
                  | none =>
                    have HN : Hid (⟨#[]⟩ = rN s ∧ 0 = rV s ∧ 4 = cE s) := no_claim (by rw [HP.out]; exact pv_rd hcr)
                    simp only [Option.getD_none, Option.isSome_none]
                    clear hcr HP HM
                    have c0 := hc.at0
                    have c1 := hc.at1
                    have f0 := hc.fr0
                    have f1 := hc.fr1
                    go_wp2_with fail
                    replace hc := hc.put2 (m := ⟨#[]⟩) (u := 0)
                    clear c0 c1 f0 f1
                    generalize ((w1).setCell ⟨w.heap.size, 0, none⟩ (.string ⟨#[]⟩)).setCell ⟨w.heap.size, 1, none⟩ (.int .i64 0) = w9 at hc ⊢
                    exact bodyPost_ret (v := .tuple #[.agg #[.string ⟨#[]⟩, .int .i64 0], .int .i64 4]) (by simp [results, Tryd.results19, go_sem, hc.at0, hc.at1]) rfl ⟨ret_claim HN.out.1 HN.out.2.1 HN.out.2.2, hc.low⟩
                  | some v =>
                    simp only [Option.getD_some, Option.isSome_some]
                    by_cases hv : 1099511627776 < v
                    · have HN : Hid (⟨#[]⟩ = rN s ∧ 0 = rV s ∧ 4 = cE s) := no_claim (by rw [HP.out]; exact pv_if hcr (by intro h; have := h.1; omega))
                      have q1 : decide (1099511627776 < v) = true := by simpa using hv
                      clear hcr HP HM
                      have c0 := hc.at0
                      have c1 := hc.at1
                      have f0 := hc.fr0
                      have f1 := hc.fr1
                      go_wp2_with fail
                      replace hc := hc.put2 (m := ⟨#[]⟩) (u := 0)
                      clear c0 c1 f0 f1
                      generalize ((w1).setCell ⟨w.heap.size, 0, none⟩ (.string ⟨#[]⟩)).setCell ⟨w.heap.size, 1, none⟩ (.int .i64 0) = w9 at hc ⊢
                      exact bodyPost_ret (v := .tuple #[.agg #[.string ⟨#[]⟩, .int .i64 0], .int .i64 4]) (by simp [results, Tryd.results19, go_sem, hc.at0, hc.at1]) rfl ⟨ret_claim HN.out.1 HN.out.2.1 HN.out.2.2, hc.low⟩
                    · have q1 : decide (1099511627776 < v) = false := by simp; omega
                      cases hcu : unhexV X with
                      | none =>
                        have HN : Hid (⟨#[]⟩ = rN s ∧ 0 = rV s ∧ 4 = cE s) := no_claim (by rw [HP.out]; exact pv_un hcu)
                        simp only [Option.isSome_none]
                        clear hcr hcu HP HM
                        have c0 := hc.at0
                        have c1 := hc.at1
                        have f0 := hc.fr0
                        have f1 := hc.fr1
                        go_wp2_with fail
                        replace hc := hc.put2 (m := ⟨#[]⟩) (u := 0)
                        clear c0 c1 f0 f1
                        generalize ((w1).setCell ⟨w.heap.size, 0, none⟩ (.string ⟨#[]⟩)).setCell ⟨w.heap.size, 1, none⟩ (.int .i64 0) = w9 at hc ⊢
                        exact bodyPost_ret (v := .tuple #[.agg #[.string ⟨#[]⟩, .int .i64 0], .int .i64 4]) (by simp [results, Tryd.results19, go_sem, hc.at0, hc.at1]) rfl ⟨ret_claim HN.out.1 HN.out.2.1 HN.out.2.2, hc.low⟩
                      | some l =>
                        have HN : Hid (s.extract 0 i = rN s ∧ v = rV s ∧ 0 = cE s) := yes_claim (by rw [HP.out]; exact pv_ok hcr hcu ⟨by omega, HM.out, HX.out⟩)
                        simp only [Option.isSome_some]
                        clear hcr hcu HP HM
                        have c0 := hc.at0
                        have c1 := hc.at1
                        have f0 := hc.fr0
                        have f1 := hc.fr1
                        go_wp2_with fail
                        replace hc := hc.put2 (m := (s.extract 0 i)) (u := v)
                        clear c0 c1 f0 f1
                        generalize ((w1).setCell ⟨w.heap.size, 0, none⟩ (.string (s.extract 0 i))).setCell ⟨w.heap.size, 1, none⟩ (.int .i64 v) = w9 at hc ⊢
                        exact bodyPost_ret (v := .tuple #[.agg #[.string (s.extract 0 i), .int .i64 v], .int .i64 0]) (by simp [results, Tryd.results19, go_sem, hc.at0, hc.at1]) rfl ⟨ret_claim HN.out.1 HN.out.2.1 HN.out.2.2, hc.low⟩
              · have HN : Hid (⟨#[]⟩ = rN s ∧ 0 = rV s ∧ 4 = cE s) := no_claim (scan_none HS.out (.inr (.inr h65)))
                have g9 : ((s.size : Int) - (k : Int) != 65) = true := by simp; omega
                clear HS h65
                have c0 := hc.at0
                have c1 := hc.at1
                have f0 := hc.fr0
                have f1 := hc.fr1
                go_wp2_with fail
                replace hc := hc.put2 (m := ⟨#[]⟩) (u := 0)
                clear c0 c1 f0 f1
                generalize ((w0).setCell ⟨w.heap.size, 0, none⟩ (.string ⟨#[]⟩)).setCell ⟨w.heap.size, 1, none⟩ (.int .i64 0) = w9 at hc ⊢
                exact bodyPost_ret (v := .tuple #[.agg #[.string ⟨#[]⟩, .int .i64 0], .int .i64 4]) (by simp [results, Tryd.results19, go_sem, hc.at0, hc.at1]) rfl ⟨ret_claim HN.out.1 HN.out.2.1 HN.out.2.2, hc.low⟩
            · have g4 : (sb s k != 46) = true := by simpa using h46
              have HF3 : Hid (∀ j, i < j → j < k + 1 → sb s j ≠ 46) := fun j h1 h2 => by
                by_cases e : j = k
                · rw [e]; exact h46
                · exact HF2.out j h1 (by omega)
              clear h46
              go_wp2_with fail
              go_round
              case rel => exact ⟨k + 1, by omega, by omega, by go_num, HF3.out⟩
              case measure => simp [intOf]; omega
          · have HN : Hid (⟨#[]⟩ = rN s ∧ 0 = rV s ∧ 4 = cE s) := no_claim (scan_none (i := i) (k := k) ⟨hi, HF.out, fun _ => H46.out, hik, HF2.out, fun h => absurd h hlt2⟩ (.inr (.inl hlt2)))
            have hkk : ¬ (k : Int) < (s.size : Int) := by omega
            have g3 : decide ((k : Int) < (s.size : Int)) = false := by simp; omega
            have g5 : decide ((s.size : Int) ≤ (i : Int)) = false := by simp; omega
            have g6 : decide ((s.size : Int) ≤ (k : Int)) = true := by simp; omega
            have g7 : ¬ (s.size : Int) ≤ (i : Int) := by omega
            have g8 : (s.size : Int) ≤ (k : Int) := by omega
            clear HF HF2 H46
            have c0 := hc.at0
            have c1 := hc.at1
            have f0 := hc.fr0
            have f1 := hc.fr1
            go_wp2_with fail
            replace hc := hc.put2 (m := ⟨#[]⟩) (u := 0)
            clear c0 c1 f0 f1
            generalize ((w0).setCell ⟨w.heap.size, 0, none⟩ (.string ⟨#[]⟩)).setCell ⟨w.heap.size, 1, none⟩ (.int .i64 0) = w9 at hc ⊢
            exact bodyPost_ret (v := .tuple #[.agg #[.string ⟨#[]⟩, .int .i64 0], .int .i64 4]) (by simp [results, Tryd.results19, go_sem, hc.at0, hc.at1]) rfl ⟨ret_claim HN.out.1 HN.out.2.1 HN.out.2.2, hc.low⟩
      · have g2 : (sb s i != 46) = true := by simpa using h46
        have HF3 : Hid (∀ j, j < i + 1 → sb s j ≠ 46) := fun j h2 => by
          by_cases e : j = i
          · rw [e]; exact h46
          · exact HF.out j (by omega)
        clear h46
        go_wp2_with fail
        go_round
        case rel => exact ⟨i + 1, by omega, by go_num, HF3.out⟩
        case measure => simp [intOf]; omega
    · have HN : Hid (⟨#[]⟩ = rN s ∧ 0 = rV s ∧ 4 = cE s) := no_claim (scan_none (i := i) (k := i + 1) ⟨hi, HF.out, fun h => absurd h hlt, by omega, fun j h1 h2 => by omega, fun h => by omega⟩ (.inl hlt))
      have hii : ¬ (i : Int) < (s.size : Int) := by omega
      have g1 : decide ((i : Int) < (s.size : Int)) = false := by simp; omega
      have g5 : decide ((s.size : Int) ≤ (i : Int)) = true := by simp; omega
      have g7 : (s.size : Int) ≤ (i : Int) := by omega
      have g3 : ¬ (i : Int) + 1 < (s.size : Int) := by omega
      have g4 : decide ((i : Int) + 1 < (s.size : Int)) = false := by simp; omega
      clear HF
      go_wp2_with fail
      go_loop [5] (fun x => x = .int .i64 ((i : Int) + 1)) (fun x => 0)
      case atStart => rfl
      case round =>
        obtain rfl := hrel
        have c0 := hc.at0
        have c1 := hc.at1
        have f0 := hc.fr0
        have f1 := hc.fr1
        go_wp2_with fail
        replace hc := hc.put2 (m := ⟨#[]⟩) (u := 0)
        clear c0 c1 f0 f1
        generalize ((w0).setCell ⟨w.heap.size, 0, none⟩ (.string ⟨#[]⟩)).setCell ⟨w.heap.size, 1, none⟩ (.int .i64 0) = w9 at hc ⊢
        exact bodyPost_ret (v := .tuple #[.agg #[.string ⟨#[]⟩, .int .i64 0], .int .i64 4]) (by simp [results, Tryd.results19, go_sem, hc.at0, hc.at1]) rfl ⟨ret_claim HN.out.1 HN.out.2.1 HN.out.2.2, hc.low⟩
end Go.Proofs.YtdoedkgidcoibaaDoor
