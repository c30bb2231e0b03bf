/- What Sync of a disk does. What Crash of a disk does. -/
import Derived.Test.YtjnjokbdoendkaaGreatSdw
namespace Go.Proofs.YtjnjokbdoendkaaGreat
open Go.RowKit
set_option linter.unusedVariables false

set_option maxRecDepth 100000 in
theorem Raw.nth {w : World} {g : Nat} {own : Nat → Prop} {n : Nat} {F N : List (List Int)} {O : List (Nat × List Int)} {armed : Bool} {left : Int} {off : Bool} {gf gn : Nat} {ao : Option Addr} {m c : Nat}
    (h : Raw w g own n F N O armed left off gf gn (.slice ao m c)) (j : Nat) (hj : j < O.length) : ∃ go p Z, ao = some ⟨go, 0, none⟩ ∧ O[j]? = some (p, Z) ∧ p < n ∧ Sx Z ∧ w.rangeAt go (j * 65) (wcl (p, Z)) := by
  obtain ⟨go, cap, hv, _, _⟩ := owns_form h.opn (by omega)
  injection hv with h1 h2 h3
  subst h1
  have ho : O[j]? = some O[j] := List.getElem?_eq_getElem hj
  have hop := h.opn
  obtain ⟨h4, h5⟩ := h.ok O[j] (List.getElem_mem hj)
  exact ⟨go, O[j].1, O[j].2, rfl, ho, h4, h5, opn_range hop h.ok j O[j] ho⟩
set_option maxRecDepth 100000 in
theorem wcl_sz {p : Nat} {Z : List Int} (h : Sx Z) : (wcl (p, Z)).toArray.size = 65 := by rw [List.size_toArray, wcl_len h]
set_option maxRecDepth 100000 in
set_option maxHeartbeats 1000000 in
theorem sync_ok (g : Nat) (own : Nat → Prop) (s : DS) (w : World) (h : Dsk w g own s) (h1 : s.off = false) (h2 : s.last = false) (hO : s.O.length ≤ 1000000) :
    Calls Tryz.prog 97 #[.pointer (some ⟨g, 0, none⟩)] w fun e w' => e = .returned (.int .i64 0) ∧ Dsk w' g own { s.tick with F := app s.F s.O, O := [] } ∧ Kept own w w' := by
  have H : Bx (Dsk w g own s) := ⟨h⟩
  have HRY : Bx (s.rdy = 0) := ⟨by simp [DS.rdy, h1]⟩
  clear h h1
  go_enter Tryz.func97, Tryz.ntmps97
  go_wp2_with fail
  refine (ready_any g own s _ H.out).mono ?_
  rintro e w' ⟨rfl, rfl⟩
  rw [HRY.out]
  go_wp2_with fail
  refine (step_on g own s _ H.out h2).mono ?_
  rintro e w1 ⟨rfl, hD1, hK1⟩
  obtain ⟨n, F, N, O, armed, left, off, gf, gn, vo, hR, hOl, HDD⟩ : ∃ n F N O armed left off gf gn vo, Raw w1 g own n F N O armed left off gf gn vo ∧ O.length ≤ 1000000 ∧ Bx (∀ w', (∃ gf gn vo, Raw w' g own n (app F O) N [] armed left off gf gn vo) → Dsk w' g own { s.tick with F := app s.F s.O, O := [] }) := by
    obtain ⟨gf, gn, vo, hR⟩ := hD1
    refine ⟨_, _, _, _, _, _, _, gf, gn, vo, hR, hO, ⟨fun w' hh => ?_⟩⟩
    obtain ⟨gf, gn, vo, hh⟩ := hh
    refine ⟨gf, gn, vo, ?_⟩
    show Raw w' g own (app s.F s.O).length (app s.F s.O) (app (app s.F s.O) []) [] s.armed s.tick.left s.off gf gn vo
    rw [app_len]; exact hh
  obtain ⟨ao, c, rfl⟩ := opn_form hR.opn
  have c2 := hR.c2
  have HR : Bx (∃ Fj, Bx (app Fj (O.drop 0) = app F O) ∧ Raw w1 g own n Fj N O armed left off gf gn (.slice ao O.length c)) := ⟨⟨F, ⟨rfl⟩, hR⟩⟩
  clear hR hD1 H HRY h2 hO
  go_wp2
  clear c2
  go_loopw [22] (fun i wr => ∃ j : Nat, j ≤ O.length ∧ i = .int .i64 j ∧ Kept own w wr ∧ ∃ Fj, Bx (app Fj (O.drop j) = app F O) ∧ Raw wr g own n Fj N O armed left off gf gn (.slice ao O.length c)) (fun i _ => O.length - (intOf i).toNat)
  case atStart => exact ⟨0, Nat.zero_le _, rfl, hK1, HR.out⟩
  case round =>
    clear HR hK1
    obtain ⟨j, hj, rfl, hkp, Fj, HFj, hR⟩ := hrel
    by_cases hlt : j < O.length
    · obtain ⟨go, p, Z, rfl, ho, hpn, hZ, hrg⟩ := hR.nth j hlt
      have HRND := app_round Fj O j (p, Z) ho
      rw [HFj.out] at HRND
      have HRD : Bx _ := ⟨HRND⟩
      have HZS : Bx (Sx Z) := ⟨hZ⟩
      have HR : Bx _ := ⟨hR⟩
      have hdi : (Tryz.prog.info? 109).map (·.size) = some (wcl (p, Z)).length := by rw [wcl_len hZ]; exact wri_size
      have HDI : Bx ((Tryz.prog.info? 109).map (·.size) = some (wcl (p, Z)).toArray.size) := ⟨by rw [wcl_sz hZ]; exact wri_size⟩
      have HDO : Bx ((wcl (p, Z)).toArray.all (·.oneCell') = true) := ⟨all_oneCell_toArray (wcl_one _)⟩
      have HWS : Bx ((wcl (p, Z)).toArray.size = 65) := ⟨wcl_sz hZ⟩
      have hds : (Tryz.prog.info? 107).map (·.size) = some (bv Z).length := by rw [bv_length, hZ.1]; exact sec_size
      have HIS : Bx ((Tryz.prog.info? 107).map (·.size) = some (bv Z).toArray.size) := ⟨by rw [List.size_toArray]; exact hds⟩
      have HOS : Bx ((bv Z).toArray.all (·.oneCell') = true) := ⟨all_oneCell_toArray (bv_one _)⟩
      have hlI : (j : Int) < (O.length : Int) := by omega
      have HKP : Bx _ := ⟨hkp⟩
      clear HRND hR hZ ho HFj hkp
      go_upto_region 10 with (first
        | (refine wpList_load_mid rfl 109 (.tmp 24) rfl go (j * 65) rfl (wcl (p, Z)) _ hrg Tryz.underlying109 rfl hdi ?_; clear hrg)
        | (refine wpList_alloc_at rfl 109 65 rfl wri_zero ?_; intro v wA cs hcs hrA hbA hvA)
        | (refine wpList_store_var rfl 109 (.tmp 6) (.tmp 25) rfl v cs hrA (wcl (p, Z)).toArray rfl rfl (by rw [HWS.out, hcs.out]) HDI.out HDO.out ?_; intro wB hrB hkB; clear hrA))
      obtain ⟨hR, hkp4, hnv⟩ := var_facts HR.out HKP.out hvA.out hbA.out hkB.out (Below.refl _ _)
      replace HKP : Bx (Kept own w wB.drew) := ⟨hkp4.drew⟩
      have HRN : Bx (Raw wB.drew g own n Fj N O armed left off gf gn (.slice (some ⟨go, 0, none⟩) O.length c)) := ⟨hR.drew⟩
      have hk : RawX wB.drew g own n O armed left off gf gn (.slice (some ⟨go, 0, none⟩) O.length c) ∧ wB.drew.heap[v]? = some (.cells (wcl (p, Z)).toArray 109 (0, 0)) := ⟨hR.drew.x, hrB⟩
      have hpI : (p : Int) < (n : Int) := by omega
      clear hR hkp4 hvA hbA hkB hcs hrB HR HDI HDO HWS hdi
      refine wp_region_held_drew (S := fun W => RawX W g own n O armed left off gf gn (.slice (some ⟨go, 0, none⟩) O.length c) ∧ W.heap[v]? = some (.cells (wcl (p, Z)).toArray 109 (0, 0))) (by kernel_rfl) hk (fun _ => ?_)
      generalize wB.drew = wk at hk HKP HRN ⊢
      refine wpAnyH_take (i := 0) (oi := ⟨some 26, .move (.tmp 0), 25, "disk.go:135", #[], none⟩) (v := ?vdsy101) rfl (by kernel_rfl) (by kernel_rfl) (by kernel_rfl) (fun _ _ _ h => h) (Or.inl ⟨by rfl, ?ydsy101⟩) hk ?rdsy101
      case ydsy101 => (intro w hSw; (try dsimp only at hSw); go_simp; first | done | with_reducible rfl)
      simp only [Act.put, List.setIfInBounds_toArray, List.set_cons_zero, List.set_cons_succ]
      refine wpAnyH_take (i := 1) (oi := ⟨some 27, .nilCheck (.tmp 26), 0, "disk.go:135", #[⟨0, .data⟩], none⟩) (v := ?vdsy102) rfl (by kernel_rfl) (by kernel_rfl) (by kernel_rfl) (fun _ _ _ h => h) (Or.inl ⟨by rfl, ?ydsy102⟩) hk ?rdsy102
      case ydsy102 => (intro w hSw; (try dsimp only at hSw); go_simp; first | done | with_reducible rfl)
      simp only [Act.put, List.setIfInBounds_toArray, List.set_cons_zero, List.set_cons_succ]
      refine wpAnyH_take (i := 2) (oi := ⟨some 28, .fieldAddr 77 (.tmp 27) 0, 0, "disk.go:135", #[⟨1, .data⟩], none⟩) (v := ?vdsy103) rfl (by kernel_rfl) (by kernel_rfl) (by kernel_rfl) (fun _ _ _ h => h) (Or.inl ⟨by rfl, ?ydsy103⟩) hk ?rdsy103
      case ydsy103 => (intro w hSw; (try dsimp only at hSw); go_simp; first | done | with_reducible rfl)
      simp only [Act.put, List.setIfInBounds_toArray, List.set_cons_zero, List.set_cons_succ]
      refine wpAnyH_take (i := 3) (oi := ⟨some 29, .load 74 (.tmp 28), 74, "disk.go:135", #[⟨2, .data⟩], none⟩) (v := ?vdsy104) rfl (by kernel_rfl) (by kernel_rfl) (by kernel_rfl) (fun _ _ _ h => h) (Or.inl ⟨by rfl, ?ydsy104⟩) hk ?rdsy104
      case ydsy104 => (intro w hSw; have hcw := hSw.1.c0; clear hSw; go_simp; first | done | with_reducible rfl)
      simp only [Act.put, List.setIfInBounds_toArray, List.set_cons_zero, List.set_cons_succ]
      refine wpAnyH_take (i := 4) (oi := ⟨some 30, .fieldAddr 109 (.tmp 6) 0, 0, "disk.go:135", #[], none⟩) (v := ?vdsy105) rfl (by kernel_rfl) (by kernel_rfl) (by kernel_rfl) (fun _ _ _ h => h) (Or.inl ⟨by rfl, ?ydsy105⟩) hk ?rdsy105
      case ydsy105 => (intro w hSw; (try dsimp only at hSw); go_simp; first | done | with_reducible rfl)
      simp only [Act.put, List.setIfInBounds_toArray, List.set_cons_zero, List.set_cons_succ]
      refine wpAnyH_take (i := 5) (oi := ⟨some 31, .load 3 (.tmp 30), 3, "disk.go:135", #[⟨4, .data⟩], none⟩) (v := ?vdsy106) rfl (by kernel_rfl) (by kernel_rfl) (by kernel_rfl) (fun _ _ _ h => h) (Or.inl ⟨by rfl, ?ydsy106⟩) hk ?rdsy106
      case ydsy106 => (intro w hSw; have hcw := row_num hSw.2; clear hSw; go_simp; first | done | with_reducible rfl)
      simp only [Act.put, List.setIfInBounds_toArray, List.set_cons_zero, List.set_cons_succ]
      refine wpAnyH_take (i := 6) (oi := ⟨some 32, .fieldAddr 109 (.tmp 6) 1, 0, "disk.go:135", #[], none⟩) (v := ?vdsy107) rfl (by kernel_rfl) (by kernel_rfl) (by kernel_rfl) (fun _ _ _ h => h) (Or.inl ⟨by rfl, ?ydsy107⟩) hk ?rdsy107
      case ydsy107 => (intro w hSw; (try dsimp only at hSw); go_simp; first | done | with_reducible rfl)
      simp only [Act.put, List.setIfInBounds_toArray, List.set_cons_zero, List.set_cons_succ]
      refine wpAnyH_take (i := 7) (oi := ⟨some 33, .load 107 (.tmp 32), 107, "disk.go:135", #[⟨6, .data⟩], none⟩) (v := .agg (bv Z).toArray) rfl (by kernel_rfl) (by kernel_rfl) (by kernel_rfl) (fun _ _ _ h => h) (yieldsIf_load_mid (by rfl) 107 (.tmp 32) rfl v 1 rfl (bv Z) _ (fun W h => row_puts h.2) Tryz.underlying107 rfl hds) hk ?_
      simp only [Act.put, List.setIfInBounds_toArray, List.set_cons_zero, List.set_cons_succ]
      refine wpAnyH_take (i := 8) (oi := ⟨some 34, .indexAddr 74 (.tmp 29) (.tmp 31), 0, "disk.go:135", #[⟨3, .data⟩, ⟨5, .data⟩, ⟨0, .phase⟩, ⟨1, .phase⟩, ⟨2, .phase⟩, ⟨3, .phase⟩, ⟨4, .phase⟩, ⟨5, .phase⟩, ⟨6, .phase⟩, ⟨7, .phase⟩], none⟩) (v := ?vdsy108) rfl (by kernel_rfl) (by kernel_rfl) (by kernel_rfl) (fun _ _ _ h => h) (Or.inl ⟨by rfl, ?ydsy108⟩) hk ?rdsy108
      case ydsy108 => (intro w hSw; (try dsimp only at hSw); go_simp; first | done | with_reducible rfl)
      simp only [Act.put, List.setIfInBounds_toArray, List.set_cons_zero, List.set_cons_succ]
      refine wpAnyH_ready (rs := [9]) (by decide +kernel) (by simp) ?_
      refine AllReadyH.cons (o := ⟨none, .store 107 (.tmp 34) (.tmp 33), 0, "disk.go:135", #[⟨8, .data⟩, ⟨7, .data⟩, ⟨0, .phase⟩, ⟨1, .phase⟩, ⟨2, .phase⟩, ⟨3, .phase⟩, ⟨4, .phase⟩, ⟨5, .phase⟩, ⟨6, .phase⟩, ⟨7, .phase⟩], none⟩) rfl (fun K hK => ?_) AllReadyH.nil
      rw [if_pos (by rfl)]
      refine wp_store_mid 107 (.tmp 34) (.tmp 33) rfl gf (p * 64) (bv Z).toArray rfl rfl ?htdsy109 HIS.out HOS.out ?_
      case htdsy109 => exact there_sz (HRN.out.thereF p hpn) HZS.out
      have hon := HRN.out.of_
      replace HRN : Bx _ := ⟨HRN.out.setFast p hpn Z HZS.out⟩
      replace hk := And.intro HRN.out.x (far_row hk.2 (ne_of_own hnv hon) (bv Z).toArray.toList (p * 64))
      replace HKP : Bx (Kept own w _) := ⟨HKP.out.setCells (.inl hon) (bv Z).toArray.toList (p * 64)⟩
      clear hon
      generalize wk.setCells gf (p * 64) (bv Z).toArray.toList = wk at hk HKP HRN ⊢
      simp only [Act.put]
      refine hK.out _ _ hk (fun _ => ?_)
      clear hK K
      try simp only [Act.put, List.setIfInBounds_toArray, List.set_cons_zero, List.set_cons_succ]
      refine wpAnyH_done (by decide +kernel) ?_ _
      clear hk
      go_wp2
      go_roundw
      case rel => exact ⟨j + 1, by omega, by go_num, HKP.out, _, ⟨HRD.out.symm⟩, HRN.out⟩
      case measure => simp [intOf]; omega
    · obtain rfl : j = O.length := by omega
      have HRD : Bx (Fj = app F O) := ⟨by rw [← HFj.out, List.drop_length]; rfl⟩
      have c2 := hR.c2
      have f2 := hR.fr 2
      have HD : Bx (Dsk (wr.setCell ⟨g, 2, none⟩ (.slice none 0 0)) g own { s.tick with F := app s.F s.O, O := [] }) := ⟨HDD.out _ ⟨gf, gn, _, by rw [← HRD.out]; exact hR.setNil⟩⟩
      have HK : Bx (Kept own w (wr.setCell ⟨g, 2, none⟩ (.slice none 0 0))) := ⟨hkp.setCell (.inl hR.og) 2 _⟩
      clear hR hkp HFj HDD HRD
      go_wp2
      go_ret
      exact ⟨rfl, HD.out, HK.out⟩
set_option maxRecDepth 100000 in
set_option maxHeartbeats 400000 in
theorem sync_any (g : Nat) (own : Nat → Prop) (s : DS) (w : World) (h : Dsk w g own s) (hO : s.O.length ≤ 1000000) :
    Calls Tryz.prog 97 #[.pointer (some ⟨g, 0, none⟩)] w fun e w' => e = .returned (.int .i64 s.syE) ∧ Dsk w' g own s.sy ∧ Kept own w w' := by
  have H : Bx (Dsk w g own s) := ⟨h⟩
  by_cases h1 : s.off = true
  · have HE : Bx (s.syE = 14 ∧ s.sy = s ∧ s.rdy = 14) := ⟨by simp [DS.syE, DS.sy, DS.rdy, h1]⟩
    clear h1 h hO
    go_enter Tryz.func97, Tryz.ntmps97
    go_wp2_with fail
    refine (ready_any g own s _ H.out).mono ?_
    rintro e w' ⟨rfl, rfl⟩
    rw [HE.out.2.2]
    go_wp2
    go_ret
    exact ⟨ret_int HE.out.1.symm, by rw [HE.out.2.1]; exact H.out, Kept.refl _ _⟩
  · have h1' : s.off = false := by simpa using h1
    by_cases h6 : s.last = true
    · have HE : Bx (s.syE = 14 ∧ s.sy = s.dead ∧ s.rdy = 0) := ⟨by simp [DS.syE, DS.sy, DS.rdy, h1', h6]⟩
      clear h1 h1' h hO
      go_enter Tryz.func97, Tryz.ntmps97
      go_wp2_with fail
      refine (ready_any g own s _ H.out).mono ?_
      rintro e w' ⟨rfl, rfl⟩
      rw [HE.out.2.2]
      go_wp2_with fail
      refine (step_last g own s _ H.out h6).mono ?_
      rintro e w1 ⟨rfl, hD1, hK1⟩
      clear h6
      go_wp2
      go_ret
      exact ⟨ret_int HE.out.1.symm, by rw [HE.out.2.1]; exact hD1, hK1⟩
    · have h6' : s.last = false := by simpa using h6
      have e1 : s.syE = 0 := by simp [DS.syE, h1', h6']
      have e2 : s.sy = { s.tick with F := app s.F s.O, O := [] } := by simp [DS.sy, h1', h6']
      rw [e1, e2]
      exact sync_ok g own s w h h1' h6' hO
end Go.Proofs.YtjnjokbdoendkaaGreat
namespace Go.Proofs.YtjnjokbdoendkaaGreat
open Go.RowKit
set_option linter.unusedVariables false

end Go.Proofs.YtjnjokbdoendkaaGreat
