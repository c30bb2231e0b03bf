/- What Sync of a disk does. What Crash of a disk does. -/
import Derived.Test.YtjnjokbdoendkaaGreatSdw
namespace Go.Proofs.YtjnjokbdoendkaaGreat
open Go.RowKit
set_option linter.unusedVariables false

set_option maxRecDepth 100000 in
theorem Raw.nth {w : World} {g : Nat} {own : Nat → Prop} {n : Nat} {F N : List (List Int)} {O : List (Nat × List Int)} {armed : Bool} {left : Int} {off : Bool} {gf gn : Nat} {ao : Option Addr} {m c : Nat}
    (h : Raw w g own n F N O armed left off gf gn (.slice ao m c)) (j : Nat) (hj : j < O.length) : ∃ go p Z, ao = some ⟨go, 0, none⟩ ∧ O[j]? = some (p, Z) ∧ p < n ∧ Sx Z ∧ w.rangeAt go (j * 65) (wcl (p, Z)) := by
  obtain ⟨go, cap, hv, _, _⟩ := owns_form h.opn (by omega)
  injection hv with h1 h2 h3
  subst h1
  have ho : O[j]? = some O[j] := List.getElem?_eq_getElem hj
  have hop := h.opn
  obtain ⟨h4, h5⟩ := h.ok O[j] (List.getElem_mem hj)
  exact ⟨go, O[j].1, O[j].2, rfl, ho, h4, h5, opn_range hop h.ok j O[j] ho⟩
set_option maxRecDepth 100000 in
theorem wcl_sz {p : Nat} {Z : List Int} (h : Sx Z) : (wcl (p, Z)).toArray.size = 65 := by rw [List.size_toArray, wcl_len h]
set_option maxRecDepth 100000 in
set_option maxHeartbeats 1000000 in
theorem sync_ok (g : Nat) (own : Nat → Prop) (s : DS) (w : World) (h : Dsk w g own s) (h1 : s.off = false) (h2 : s.last = false) (hO : s.O.length ≤ 1000000) :
    Calls Tryz.prog 97 #[.pointer (some ⟨g, 0, none⟩)] w fun e w' => e = .returned (.int .i64 0) ∧ Dsk w' g own { s.tick with F := app s.F s.O, O := [] } ∧ Kept own w w' := by
  have H : Bx (Dsk w g own s) := ⟨h⟩
  have HRY : Bx (s.rdy = 0) := ⟨by simp [DS.rdy, h1]⟩
  clear h h1
  go_enter Tryz.func97, Tryz.ntmps97
  go_wp2_with fail
  refine (ready_any g own s _ H.out).mono ?_
  rintro e w' ⟨rfl, rfl⟩
  rw [HRY.out]
  go_wp2_with fail
  refine (step_on g own s _ H.out h2).mono ?_
  rintro e w1 ⟨rfl, hD1, hK1⟩
  obtain ⟨n, F, N, O, armed, left, off, gf, gn, vo, hR, hOl, HDD⟩ : ∃ n F N O armed left off gf gn vo, Raw w1 g own n F N O armed left off gf gn vo ∧ O.length ≤ 1000000 ∧ Bx (∀ w', (∃ gf gn vo, Raw w' g own n (app F O) N [] armed left off gf gn vo) → Dsk w' g own { s.tick with F := app s.F s.O, O := [] }) := by
    obtain ⟨gf, gn, vo, hR⟩ := hD1
    refine ⟨_, _, _, _, _, _, _, gf, gn, vo, hR, hO, ⟨fun w' hh => ?_⟩⟩
    obtain ⟨gf, gn, vo, hh⟩ := hh
    refine ⟨gf, gn, vo, ?_⟩
    show Raw w' g own (app s.F s.O).length (app s.F s.O) (app (app s.F s.O) []) [] s.armed s.tick.left s.off gf gn vo
    rw [app_len]; exact hh
  obtain ⟨ao, c, rfl⟩ := opn_form hR.opn
  have c2 := hR.c2
  have HR : Bx (∃ Fj, Bx (app Fj (O.drop 0) = app F O) ∧ Raw w1 g own n Fj N O armed left off gf gn (.slice ao O.length c)) := ⟨⟨F, ⟨rfl⟩, hR⟩⟩
  clear hR hD1 H HRY h2 hO
  go_wp2
  clear c2
  go_loopw [22] (fun i wr => ∃ j : Nat, j ≤ O.length ∧ i = .int .i64 j ∧ Kept own w wr ∧ ∃ Fj, Bx (app Fj (O.drop j) = app F O) ∧ Raw wr g own n Fj N O armed left off gf gn (.slice ao O.length c)) (fun i _ => O.length - (intOf i).toNat)
  case atStart => exact ⟨0, Nat.zero_le _, rfl, hK1, HR.out⟩
  case round =>
    clear HR hK1
    obtain ⟨j, hj, rfl, hkp, Fj, HFj, hR⟩ := hrel
    by_cases hlt : j < O.length
    · obtain ⟨go, p, Z, rfl, ho, hpn, hZ, hrg⟩ := hR.nth j hlt
      have HRND := app_round Fj O j (p, Z) ho
      rw [HFj.out] at HRND
      have HRD : Bx _ := ⟨HRND⟩
      have HZS : Bx (Sx Z) := ⟨hZ⟩
      have HR : Bx _ := ⟨hR⟩
      have hdi : (Tryz.prog.info? 109).map (·.size) = some (wcl (p, Z)).length := by rw [wcl_len hZ]; exact wri_size
      have HDI : Bx ((Tryz.prog.info? 109).map (·.size) = some (wcl (p, Z)).toArray.size) := ⟨by rw [wcl_sz hZ]; exact wri_size⟩
      have HDO : Bx ((wcl (p, Z)).toArray.all (·.oneCell') = true) := ⟨all_oneCell_toArray (wcl_one _)⟩
      have HWS : Bx ((wcl (p, Z)).toArray.size = 65) := ⟨wcl_sz hZ⟩
      have hds : (Tryz.prog.info? 107).map (·.size) = some (bv Z).length := by rw [bv_length, hZ.1]; exact sec_size
      have HIS : Bx ((Tryz.prog.info? 107).map (·.size) = some (bv Z).toArray.size) := ⟨by rw [List.size_toArray]; exact hds⟩
      have HOS : Bx ((bv Z).toArray.all (·.oneCell') = true) := ⟨all_oneCell_toArray (bv_one _)⟩
      have hlI : (j : Int) < (O.length : Int) := by omega
      have HKP : Bx _ := ⟨hkp⟩
      clear HRND hR hZ ho HFj hkp
      go_upto_region 10 with (first
        | (refine wpList_load_mid rfl 109 (.tmp 24) rfl go (j * 65) rfl (wcl (p, Z)) _ hrg Tryz.underlying109 rfl hdi ?_; clear hrg)
        | (refine wpList_alloc_at rfl 109 65 rfl wri_zero ?_; intro v wA cs hcs hrA hbA hvA)
        | (refine wpList_store_var rfl 109 (.tmp 6) (.tmp 25) rfl v cs hrA (wcl (p, Z)).toArray rfl rfl (by rw [HWS.out, hcs.out]) HDI.out HDO.out ?_; intro wB hrB hkB; clear hrA))
      obtain ⟨hR, hkp4, hnv⟩ := var_facts HR.out HKP.out hvA.out hbA.out hkB.out (Below.refl _ _)
      replace HKP : Bx (Kept own w wB.drew) := ⟨hkp4.drew⟩
      have HRN : Bx (Raw wB.drew g own n Fj N O armed left off gf gn (.slice (some ⟨go, 0, none⟩) O.length c)) := ⟨hR.drew⟩
      have hk : RawX wB.drew g own n O armed left off gf gn (.slice (some ⟨go, 0, none⟩) O.length c) ∧ wB.drew.heap[v]? = some (.cells (wcl (p, Z)).toArray 109 (0, 0)) := ⟨hR.drew.x, hrB⟩
      have hpI : (p : Int) < (n : Int) := by omega
      clear hR hkp4 hvA hbA hkB hcs hrB HR HDI HDO HWS hdi
      refine wp_region_held_drew (S := fun W => RawX W g own n O armed left off gf gn (.slice (some ⟨go, 0, none⟩) O.length c) ∧ W.heap[v]? = some (.cells (wcl (p, Z)).toArray 109 (0, 0))) (by kernel_rfl) hk (fun _ => ?_)
      generalize wB.drew = wk at hk HKP HRN ⊢
      refine wpAnyH_take (i := 0) (oi := { dst := some 26, op := Op.move (Operand.tmp 0), type := 25, pos := "disk.go:135", after := #[], guard := none }) (v := ?vdsy101) rfl (by kernel_rfl) (by kernel_rfl) (by kernel_rfl) (fun _ _ _ h => h) (Or.inl ⟨by rfl, ?ydsy101⟩) hk ?rdsy101
      case ydsy101 => (intro w hSw; (try dsimp only at hSw); go_simp; first | done | with_reducible rfl)
      simp only [Act.put, List.setIfInBounds_toArray, List.set_cons_zero, List.set_cons_succ]
      refine wpAnyH_take (i := 1) (oi := { dst := some 27, op := Op.nilCheck (Operand.tmp 26), type := 0, pos := "disk.go:135", after := #[{ on := 0, ground := Ground.data }], guard := none }) (v := ?vdsy102) rfl (by kernel_rfl) (by kernel_rfl) (by kernel_rfl) (fun _ _ _ h => h) (Or.inl ⟨by rfl, ?ydsy102⟩) hk ?rdsy102
      case ydsy102 => (intro w hSw; (try dsimp only at hSw); go_simp; first | done | with_reducible rfl)
      simp only [Act.put, List.setIfInBounds_toArray, List.set_cons_zero, List.set_cons_succ]
      refine wpAnyH_take (i := 2) (oi := { dst := some 28, op := Op.fieldAddr 77 (Operand.tmp 27) 0, type := 0, pos := "disk.go:135", after := #[{ on := 1, ground := Ground.data }], guard := none }) (v := ?vdsy103) rfl (by kernel_rfl) (by kernel_rfl) (by kernel_rfl) (fun _ _ _ h => h) (Or.inl ⟨by rfl, ?ydsy103⟩) hk ?rdsy103
      case ydsy103 => (intro w hSw; (try dsimp only at hSw); go_simp; first | done | with_reducible rfl)
      simp only [Act.put, List.setIfInBounds_toArray, List.set_cons_zero, List.set_cons_succ]
      refine wpAnyH_take (i := 3) (oi := { dst := some 29, op := Op.load 74 (Operand.tmp 28), type := 74, pos := "disk.go:135", after := #[{ on := 2, ground := Ground.data }], guard := none }) (v := ?vdsy104) rfl (by kernel_rfl) (by kernel_rfl) (by kernel_rfl) (fun _ _ _ h => h) (Or.inl ⟨by rfl, ?ydsy104⟩) hk ?rdsy104
      case ydsy104 => (intro w hSw; have hcw := hSw.1.c0; clear hSw; go_simp; first | done | with_reducible rfl)
      simp only [Act.put, List.setIfInBounds_toArray, List.set_cons_zero, List.set_cons_succ]
      refine wpAnyH_take (i := 4) (oi := { dst := some 30, op := Op.fieldAddr 109 (Operand.tmp 6) 0, type := 0, pos := "disk.go:135", after := #[], guard := none }) (v := ?vdsy105) rfl (by kernel_rfl) (by kernel_rfl) (by kernel_rfl) (fun _ _ _ h => h) (Or.inl ⟨by rfl, ?ydsy105⟩) hk ?rdsy105
      case ydsy105 => (intro w hSw; (try dsimp only at hSw); go_simp; first | done | with_reducible rfl)
      simp only [Act.put, List.setIfInBounds_toArray, List.set_cons_zero, List.set_cons_succ]
      refine wpAnyH_take (i := 5) (oi := { dst := some 31, op := Op.load 3 (Operand.tmp 30), type := 3, pos := "disk.go:135", after := #[{ on := 4, ground := Ground.data }], guard := none }) (v := ?vdsy106) rfl (by kernel_rfl) (by kernel_rfl) (by kernel_rfl) (fun _ _ _ h => h) (Or.inl ⟨by rfl, ?ydsy106⟩) hk ?rdsy106
      case ydsy106 => (intro w hSw; have hcw := row_num hSw.2; clear hSw; go_simp; first | done | with_reducible rfl)
      simp only [Act.put, List.setIfInBounds_toArray, List.set_cons_zero, List.set_cons_succ]
      refine wpAnyH_take (i := 6) (oi := { dst := some 32, op := Op.fieldAddr 109 (Operand.tmp 6) 1, type := 0, pos := "disk.go:135", after := #[], guard := none }) (v := ?vdsy107) rfl (by kernel_rfl) (by kernel_rfl) (by kernel_rfl) (fun _ _ _ h => h) (Or.inl ⟨by rfl, ?ydsy107⟩) hk ?rdsy107
      case ydsy107 => (intro w hSw; (try dsimp only at hSw); go_simp; first | done | with_reducible rfl)
      simp only [Act.put, List.setIfInBounds_toArray, List.set_cons_zero, List.set_cons_succ]
      refine wpAnyH_take (i := 7) (oi := { dst := some 33, op := Op.load 107 (Operand.tmp 32), type := 107, pos := "disk.go:135", after := #[{ on := 6, ground := Ground.data }], guard := none }) (v := .agg (bv Z).toArray) rfl (by kernel_rfl) (by kernel_rfl) (by kernel_rfl) (fun _ _ _ h => h) (yieldsIf_load_mid (by rfl) 107 (.tmp 32) rfl v 1 rfl (bv Z) _ (fun W h => row_puts h.2) Tryz.underlying107 rfl hds) hk ?_
      simp only [Act.put, List.setIfInBounds_toArray, List.set_cons_zero, List.set_cons_succ]
      refine wpAnyH_take (i := 8) (oi := { dst := some 34, op := Op.indexAddr 74 (Operand.tmp 29) (Operand.tmp 31), type := 0, pos := "disk.go:135", after := #[{ on := 3, ground := Ground.data }, { on := 5, ground := Ground.data }, { on := 0, ground := Ground.phase }, { on := 1, ground := Ground.phase }, { on := 2, ground := Ground.phase }, { on := 3, ground := Ground.phase }, { on := 4, ground := Ground.phase }, { on := 5, ground := Ground.phase }, { on := 6, ground := Ground.phase }, { on := 7, ground := Ground.phase }], guard := none }) (v := ?vdsy108) rfl (by kernel_rfl) (by kernel_rfl) (by kernel_rfl) (fun _ _ _ h => h) (Or.inl ⟨by rfl, ?ydsy108⟩) hk ?rdsy108
      case ydsy108 => (intro w hSw; (try dsimp only at hSw); go_simp; first | done | with_reducible rfl)
      simp only [Act.put, List.setIfInBounds_toArray, List.set_cons_zero, List.set_cons_succ]
      refine wpAnyH_ready (rs := [9]) (by decide +kernel) (by simp) ?_
      refine AllReadyH.cons (o := { dst := none, op := Op.store 107 (Operand.tmp 34) (Operand.tmp 33), type := 0, pos := "disk.go:135", after := #[{ on := 8, ground := Ground.data }, { on := 7, ground := Ground.data }, { on := 0, ground := Ground.phase }, { on := 1, ground := Ground.phase }, { on := 2, ground := Ground.phase }, { on := 3, ground := Ground.phase }, { on := 4, ground := Ground.phase }, { on := 5, ground := Ground.phase }, { on := 6, ground := Ground.phase }, { on := 7, ground := Ground.phase }], guard := none }) rfl (fun K hK => ?_) AllReadyH.nil
      rw [if_pos (by rfl)]
      refine wp_store_mid 107 (.tmp 34) (.tmp 33) rfl gf (p * 64) (bv Z).toArray rfl rfl ?htdsy109 HIS.out HOS.out ?_
      case htdsy109 => exact there_sz (HRN.out.thereF p hpn) HZS.out
      have hon := HRN.out.of_
      replace HRN : Bx _ := ⟨HRN.out.setFast p hpn Z HZS.out⟩
      replace hk := And.intro HRN.out.x (far_row hk.2 (ne_of_own hnv hon) (bv Z).toArray.toList (p * 64))
      replace HKP : Bx (Kept own w _) := ⟨HKP.out.setCells (.inl hon) (bv Z).toArray.toList (p * 64)⟩
      clear hon
      generalize wk.setCells gf (p * 64) (bv Z).toArray.toList = wk at hk HKP HRN ⊢
      simp only [Act.put]
      refine hK.out _ _ hk (fun _ => ?_)
      clear hK K
      try simp only [Act.put, List.setIfInBounds_toArray, List.set_cons_zero, List.set_cons_succ]
      refine wpAnyH_done (by decide +kernel) ?_ _
      clear hk
      go_wp2
      go_roundw
      case rel => exact ⟨j + 1, by omega, by go_num, HKP.out, _, ⟨HRD.out.symm⟩, HRN.out⟩
      case measure => simp [intOf]; omega
    · obtain rfl : j = O.length := by omega
      have HRD : Bx (Fj = app F O) := ⟨by rw [← HFj.out, List.drop_length]; rfl⟩
      have c2 := hR.c2
      have f2 := hR.fr 2
      have HD : Bx (Dsk (wr.setCell ⟨g, 2, none⟩ (.slice none 0 0)) g own { s.tick with F := app s.F s.O, O := [] }) := ⟨HDD.out _ ⟨gf, gn, _, by rw [← HRD.out]; exact hR.setNil⟩⟩
      have HK : Bx (Kept own w (wr.setCell ⟨g, 2, none⟩ (.slice none 0 0))) := ⟨hkp.setCell (.inl hR.og) 2 _⟩
      clear hR hkp HFj HDD HRD
      go_wp2
      go_ret
      exact ⟨rfl, HD.out, HK.out⟩
set_option maxRecDepth 100000 in
set_option maxHeartbeats 400000 in
theorem sync_any (g : Nat) (own : Nat → Prop) (s : DS) (w : World) (h : Dsk w g own s) (hO : s.O.length ≤ 1000000) :
    Calls Tryz.prog 97 #[.pointer (some ⟨g, 0, none⟩)] w fun e w' => e = .returned (.int .i64 s.syE) ∧ Dsk w' g own s.sy ∧ Kept own w w' := by
  have H : Bx (Dsk w g own s) := ⟨h⟩
  by_cases h1 : s.off = true
  · have HE : Bx (s.syE = 14 ∧ s.sy = s ∧ s.rdy = 14) := ⟨by simp [DS.syE, DS.sy, DS.rdy, h1]⟩
    clear h1 h hO
    go_enter Tryz.func97, Tryz.ntmps97
    go_wp2_with fail
    refine (ready_any g own s _ H.out).mono ?_
    rintro e w' ⟨rfl, rfl⟩
    rw [HE.out.2.2]
    go_wp2
    go_ret
    exact ⟨ret_int HE.out.1.symm, by rw [HE.out.2.1]; exact H.out, Kept.refl _ _⟩
  · have h1' : s.off = false := by simpa using h1
    by_cases h6 : s.last = true
    · have HE : Bx (s.syE = 14 ∧ s.sy = s.dead ∧ s.rdy = 0) := ⟨by simp [DS.syE, DS.sy, DS.rdy, h1', h6]⟩
      clear h1 h1' h hO
      go_enter Tryz.func97, Tryz.ntmps97
      go_wp2_with fail
      refine (ready_any g own s _ H.out).mono ?_
      rintro e w' ⟨rfl, rfl⟩
      rw [HE.out.2.2]
      go_wp2_with fail
      refine (step_last g own s _ H.out h6).mono ?_
      rintro e w1 ⟨rfl, hD1, hK1⟩
      clear h6
      go_wp2
      go_ret
      exact ⟨ret_int HE.out.1.symm, by rw [HE.out.2.1]; exact hD1, hK1⟩
    · have h6' : s.last = false := by simpa using h6
      have e1 : s.syE = 0 := by simp [DS.syE, h1', h6']
      have e2 : s.sy = { s.tick with F := app s.F s.O, O := [] } := by simp [DS.sy, h1', h6']
      rw [e1, e2]
      exact sync_ok g own s w h h1' h6' hO
end Go.Proofs.YtjnjokbdoendkaaGreat
namespace Go.Proofs.YtjnjokbdoendkaaGreat
open Go.RowKit
set_option linter.unusedVariables false

/-- a list of bools in memory -/
structure Bls (w : World) (ao : Option Addr) (len cap : Nat) (K : List Bool) : Prop where
  len_eq : K.length = len
  le_cap : len ≤ cap
  cap_le : cap ≤ maxLen
  spot : 0 < len → ∃ b off, ao = some ⟨b, off, none⟩ ∧ b < w.heap.size ∧ ∀ i, i < len → w.cell? ⟨b, off + i, none⟩ = some (.bool (K.getD i false))
set_option maxRecDepth 100000 in
theorem Bls.below {w w' : World} {ao : Option Addr} {len cap : Nat} {K : List Bool} (h : Bls w ao len cap K) (hb : Below w.heap.size w w') : Bls w' ao len cap K :=
  ⟨h.len_eq, h.le_cap, h.cap_le, fun hp => by
    obtain ⟨b, off, e, hlt, hc⟩ := h.spot hp
    exact ⟨b, off, e, Nat.lt_of_lt_of_le hlt hb.size, fun i hi => (hb.cell hlt).trans (hc i hi)⟩⟩
set_option maxRecDepth 100000 in
theorem Bls.kept {own : Nat → Prop} {w w' : World} {ao : Option Addr} {len cap : Nat} {K : List Bool} (h : Bls w ao len cap K) (hb : Kept own w w') (ha : 0 < len → ∀ p, ao = some p → ¬ own p.block) : Bls w' ao len cap K :=
  ⟨h.len_eq, h.le_cap, h.cap_le, fun hp => by
    obtain ⟨b, off, e, hlt, hc⟩ := h.spot hp
    exact ⟨b, off, e, Nat.lt_of_lt_of_le hlt hb.size, fun i hi => (World.cell?_of_block (w := w) (hb.block b hlt (ha hp _ e))).trans (hc i hi)⟩⟩
set_option maxRecDepth 100000 in
theorem bls_nil (w : World) (ao : Option Addr) : Bls w ao 0 0 [] := ⟨rfl, Nat.le_refl _, Nat.zero_le _, fun hp => absurd hp (Nat.lt_irrefl _)⟩
/-- whatever is now -/
def RawZ (w : World) (g : Nat) (own : Nat → Prop) (n : Nat) (F : List (List Int)) (O : List (Nat × List Int)) (armed : Bool) (left : Int) (off : Bool) (gf gn : Nat) (vo : Value) : Prop := ∃ N, Raw w g own n F N O armed left off gf gn vo
section
variable {w : World} {g : Nat} {own : Nat → Prop} {n : Nat} {F N : List (List Int)} {O : List (Nat × List Int)} {armed : Bool} {left : Int} {off : Bool} {gf gn : Nat} {vo : Value}
set_option maxRecDepth 100000 in
theorem Raw.z (h : Raw w g own n F N O armed left off gf gn vo) : RawZ w g own n F O armed left off gf gn vo := ⟨N, h⟩
set_option maxRecDepth 100000 in
theorem RawZ.c0 (h : RawZ w g own n F O armed left off gf gn vo) : w.cell? ⟨g, 0, none⟩ = some (.slice (some ⟨gf, 0, none⟩) n n) := by obtain ⟨N, h⟩ := h; exact h.c0
set_option maxRecDepth 100000 in
theorem RawZ.c1 (h : RawZ w g own n F O armed left off gf gn vo) : w.cell? ⟨g, 1, none⟩ = some (.slice (some ⟨gn, 0, none⟩) n n) := by obtain ⟨N, h⟩ := h; exact h.c1
set_option maxRecDepth 100000 in
theorem RawZ.rangeF (h : RawZ w g own n F O armed left off gf gn vo) (k : Nat) (hk : k < n) : w.rangeAt gf (k * 64) (bv (F.getD k [])) := by obtain ⟨N, h⟩ := h; exact h.rangeF k hk
end
set_option maxRecDepth 100000 in
theorem range_list {w : World} {b o : Nat} {Y X : List Int} (e : Y = X) (h : w.rangeAt b o (bv X)) : w.rangeAt b o (bv Y) := by rw [e]; exact h
set_option maxRecDepth 100000 in
set_option maxHeartbeats 1000000 in
theorem crash_any (g : Nat) (own : Nat → Prop) (s : DS) (a : Option Addr) (len cap : Nat) (K : List Bool) (w : World) (h : Dsk w g own s) (hK : Bls w a len cap K) (hfar : 0 < len → ∀ p, a = some p → ¬ own p.block) (hO : s.O.length ≤ 1000000) :
    Calls Tryz.prog 19 #[.pointer (some ⟨g, 0, none⟩), .slice a len cap] w fun e w' => e = .returned (.int .i64 0) ∧ Dsk w' g own (s.cr K) ∧ Kept own w w' := by
  have H : Bx (Dsk w g own s) := ⟨h⟩
  obtain ⟨n, F, N, O, armed, left, off, gf, gn, vo, hR, hOl, HNO, HDD⟩ : ∃ n F N O armed left off gf gn vo, Raw w g own n F N O armed left off gf gn vo ∧ O.length ≤ 1000000 ∧ Bx (resN (app F (kpt O K)) N O = app F (kpt O K)) ∧ Bx (∀ w', (∃ gf gn vo, Raw w' g own n (app F (kpt O K)) (app F (kpt O K)) [] false 0 false gf gn vo) → Dsk w' g own (s.cr K)) := by
    obtain ⟨gf, gn, vo, hR⟩ := h
    refine ⟨_, _, _, _, _, _, _, gf, gn, vo, hR, hO, ⟨resN_all s.F s.O K⟩, ⟨fun w' hh => ?_⟩⟩
    obtain ⟨gf, gn, vo, hh⟩ := hh
    refine ⟨gf, gn, vo, ?_⟩
    show Raw w' g own (app s.F (kpt s.O K)).length (app s.F (kpt s.O K)) (app (app s.F (kpt s.O K)) []) [] false 0 false gf gn vo
    rw [app_len]; exact hh
  obtain ⟨ao, c, rfl⟩ := opn_form hR.opn
  have c2 := hR.c2
  have hcc := hK.le_cap
  have hcm := hK.cap_le
  unfold maxLen at hcm
  have HKB : Bx (∀ w', Kept own w w' → Bls w' a len cap K) := ⟨fun w' h1 => hK.kept h1 hfar⟩
  have HR : Bx (∃ Fj, Bx (app Fj (kpt (O.drop 0) (K.drop 0)) = app F (kpt O K)) ∧ Raw w g own n Fj N O armed left off gf gn (.slice ao O.length c)) := ⟨⟨F, ⟨rfl⟩, hR⟩⟩
  have HKL : Bx (K.length = len) := ⟨hK.len_eq⟩
  clear hR hK hfar hO
  go_enter Tryz.func19, Tryz.ntmps19
  go_wp2_with fail
  refine (made_yes g own s _ H.out).mono ?_
  rintro e w' ⟨rfl, rfl⟩
  clear H
  go_wp2
  clear c2
  go_loopw [17] (fun i wr => ∃ j : Nat, j ≤ O.length ∧ i = .int .i64 j ∧ Kept own w wr ∧ ∃ Fj, Bx (app Fj (kpt (O.drop j) (K.drop j)) = app F (kpt O K)) ∧ Raw wr g own n Fj N O armed left off gf gn (.slice ao O.length c)) (fun i _ => O.length - (intOf i).toNat)
  case atStart => exact ⟨0, Nat.zero_le _, rfl, Kept.refl _ _, HR.out⟩
  case round =>
    clear HR
    obtain ⟨j, hj, rfl, hkp, Fj, HFj, hR⟩ := hrel
    by_cases hlt : j < O.length
    · obtain ⟨go, p, Z, rfl, ho, hpn, hZ, hrg⟩ := hR.nth j hlt
      have HRND := kpt_round O K Fj j (p, Z) ho
      rw [HFj.out] at HRND
      have HRD : Bx _ := ⟨HRND⟩
      have HZS : Bx (Sx Z) := ⟨hZ⟩
      have HR : Bx _ := ⟨hR⟩
      have hdi : (Tryz.prog.info? 109).map (·.size) = some (wcl (p, Z)).length := by rw [wcl_len hZ]; exact wri_size
      have HDI : Bx ((Tryz.prog.info? 109).map (·.size) = some (wcl (p, Z)).toArray.size) := ⟨by rw [wcl_sz hZ]; exact wri_size⟩
      have HDO : Bx ((wcl (p, Z)).toArray.all (·.oneCell') = true) := ⟨all_oneCell_toArray (wcl_one _)⟩
      have HWS : Bx ((wcl (p, Z)).toArray.size = 65) := ⟨wcl_sz hZ⟩
      have hds : (Tryz.prog.info? 107).map (·.size) = some (bv Z).length := by rw [bv_length, hZ.1]; exact sec_size
      have HIS : Bx ((Tryz.prog.info? 107).map (·.size) = some (bv Z).toArray.size) := ⟨by rw [List.size_toArray]; exact hds⟩
      have HOS : Bx ((bv Z).toArray.all (·.oneCell') = true) := ⟨all_oneCell_toArray (bv_one _)⟩
      have hlI : (j : Int) < (O.length : Int) := by omega
      have HKP : Bx _ := ⟨hkp⟩
      clear HRND hR hZ ho HFj hkp
      go_upto_region 6 with (first
        | (refine wpList_load_mid rfl 109 (.tmp 20) rfl go (j * 65) rfl (wcl (p, Z)) _ hrg Tryz.underlying109 rfl hdi ?_; clear hrg)
        | (refine wpList_alloc_at rfl 109 65 rfl wri_zero ?_; intro v wA cs hcs hrA hbA hvA)
        | (refine wpList_store_var rfl 109 (.tmp 6) (.tmp 21) rfl v cs hrA (wcl (p, Z)).toArray rfl rfl (by rw [HWS.out, hcs.out]) HDI.out HDO.out ?_; intro wB hrB hkB; clear hrA))
      obtain ⟨hR, hkp4, hnv⟩ := var_facts HR.out HKP.out hvA.out hbA.out hkB.out (Below.refl _ _)
      have hkb := HKB.out wB hkp4
      clear HKP HR
      have HR : Bx _ := ⟨hR⟩
      have HK4 : Bx _ := ⟨hkp4⟩
      have hrB2 : Bx _ := ⟨hrB⟩
      clear hR hkp4 hvA hbA hkB hcs hrB HDI HDO HWS hdi
      by_cases hyes : K.getD j false = true
      · have hjl : j < len := by
          refine Classical.byContradiction fun hge => ?_
          rw [List.getD_eq_getElem?_getD, List.getElem?_eq_none (by have := HKL.out; omega)] at hyes
          cases hyes
        obtain ⟨kb, ko, rfl, hkbl, hkc⟩ := hkb.spot (by omega)
        have hkcell := hkc j hjl
        rw [hyes] at hkcell
        have hjI : (j : Int) < (len : Int) := by omega
        have gj : decide ((j : Int) < (len : Int)) = true := by simpa using hjI
        have hRD2 := HRD.out
        rw [if_pos hyes] at hRD2
        replace HRD : Bx _ := ⟨hRD2⟩
        clear hRD2 hkc hkb hyes
        go_upto_region 7 with fail
        have HKP : Bx (Kept own w wB.drew) := ⟨HK4.out.drew⟩
        have HRN : Bx (Raw wB.drew g own n Fj N O armed left off gf gn (.slice (some ⟨go, 0, none⟩) O.length c)) := ⟨HR.out.drew⟩
        have hk : RawX wB.drew g own n O armed left off gf gn (.slice (some ⟨go, 0, none⟩) O.length c) ∧ wB.drew.heap[v]? = some (.cells (wcl (p, Z)).toArray 109 (0, 0)) := ⟨HR.out.drew.x, hrB2.out⟩
        have hpI : (p : Int) < (n : Int) := by omega
        clear HR HK4 hrB2 hkcell
        refine wp_region_held_drew (S := fun W => RawX W g own n O armed left off gf gn (.slice (some ⟨go, 0, none⟩) O.length c) ∧ W.heap[v]? = some (.cells (wcl (p, Z)).toArray 109 (0, 0))) (by kernel_rfl) hk (fun _ => ?_)
        generalize wB.drew = wk at hk HKP HRN ⊢
        refine wpAnyH_take (i := 0) (oi := { dst := some 32, op := Op.move (Operand.tmp 0), type := 25, pos := "disk.go:148", after := #[], guard := none }) (v := ?vdcr71) rfl (by kernel_rfl) (by kernel_rfl) (by kernel_rfl) (fun _ _ _ h => h) (Or.inl ⟨by rfl, ?ydcr71⟩) hk ?rdcr71
        case ydcr71 => (intro w hSw; (try dsimp only at hSw); go_simp; first | done | with_reducible rfl)
        simp only [Act.put, List.setIfInBounds_toArray, List.set_cons_zero, List.set_cons_succ]
        refine wpAnyH_take (i := 1) (oi := { dst := some 33, op := Op.nilCheck (Operand.tmp 32), type := 0, pos := "disk.go:148", after := #[{ on := 0, ground := Ground.data }], guard := none }) (v := ?vdcr72) rfl (by kernel_rfl) (by kernel_rfl) (by kernel_rfl) (fun _ _ _ h => h) (Or.inl ⟨by rfl, ?ydcr72⟩) hk ?rdcr72
        case ydcr72 => (intro w hSw; (try dsimp only at hSw); go_simp; first | done | with_reducible rfl)
        simp only [Act.put, List.setIfInBounds_toArray, List.set_cons_zero, List.set_cons_succ]
        refine wpAnyH_take (i := 2) (oi := { dst := some 34, op := Op.fieldAddr 77 (Operand.tmp 33) 0, type := 0, pos := "disk.go:148", after := #[{ on := 1, ground := Ground.data }], guard := none }) (v := ?vdcr73) rfl (by kernel_rfl) (by kernel_rfl) (by kernel_rfl) (fun _ _ _ h => h) (Or.inl ⟨by rfl, ?ydcr73⟩) hk ?rdcr73
        case ydcr73 => (intro w hSw; (try dsimp only at hSw); go_simp; first | done | with_reducible rfl)
        simp only [Act.put, List.setIfInBounds_toArray, List.set_cons_zero, List.set_cons_succ]
        refine wpAnyH_take (i := 3) (oi := { dst := some 35, op := Op.load 74 (Operand.tmp 34), type := 74, pos := "disk.go:148", after := #[{ on := 2, ground := Ground.data }], guard := none }) (v := ?vdcr74) rfl (by kernel_rfl) (by kernel_rfl) (by kernel_rfl) (fun _ _ _ h => h) (Or.inl ⟨by rfl, ?ydcr74⟩) hk ?rdcr74
        case ydcr74 => (intro w hSw; have hcw := hSw.1.c0; clear hSw; go_simp; first | done | with_reducible rfl)
        simp only [Act.put, List.setIfInBounds_toArray, List.set_cons_zero, List.set_cons_succ]
        refine wpAnyH_take (i := 4) (oi := { dst := some 36, op := Op.fieldAddr 109 (Operand.tmp 6) 0, type := 0, pos := "disk.go:148", after := #[], guard := none }) (v := ?vdcr75) rfl (by kernel_rfl) (by kernel_rfl) (by kernel_rfl) (fun _ _ _ h => h) (Or.inl ⟨by rfl, ?ydcr75⟩) hk ?rdcr75
        case ydcr75 => (intro w hSw; (try dsimp only at hSw); go_simp; first | done | with_reducible rfl)
        simp only [Act.put, List.setIfInBounds_toArray, List.set_cons_zero, List.set_cons_succ]
        refine wpAnyH_take (i := 5) (oi := { dst := some 37, op := Op.load 3 (Operand.tmp 36), type := 3, pos := "disk.go:148", after := #[{ on := 4, ground := Ground.data }], guard := none }) (v := ?vdcr76) rfl (by kernel_rfl) (by kernel_rfl) (by kernel_rfl) (fun _ _ _ h => h) (Or.inl ⟨by rfl, ?ydcr76⟩) hk ?rdcr76
        case ydcr76 => (intro w hSw; have hcw := row_num hSw.2; clear hSw; go_simp; first | done | with_reducible rfl)
        simp only [Act.put, List.setIfInBounds_toArray, List.set_cons_zero, List.set_cons_succ]
        refine wpAnyH_take (i := 6) (oi := { dst := some 38, op := Op.fieldAddr 109 (Operand.tmp 6) 1, type := 0, pos := "disk.go:148", after := #[], guard := none }) (v := ?vdcr77) rfl (by kernel_rfl) (by kernel_rfl) (by kernel_rfl) (fun _ _ _ h => h) (Or.inl ⟨by rfl, ?ydcr77⟩) hk ?rdcr77
        case ydcr77 => (intro w hSw; (try dsimp only at hSw); go_simp; first | done | with_reducible rfl)
        simp only [Act.put, List.setIfInBounds_toArray, List.set_cons_zero, List.set_cons_succ]
        refine wpAnyH_take (i := 7) (oi := { dst := some 39, op := Op.load 107 (Operand.tmp 38), type := 107, pos := "disk.go:148", after := #[{ on := 6, ground := Ground.data }], guard := none }) (v := .agg (bv Z).toArray) rfl (by kernel_rfl) (by kernel_rfl) (by kernel_rfl) (fun _ _ _ h => h) (yieldsIf_load_mid (by rfl) 107 (.tmp 38) rfl v 1 rfl (bv Z) _ (fun W h => row_puts h.2) Tryz.underlying107 rfl hds) hk ?_
        simp only [Act.put, List.setIfInBounds_toArray, List.set_cons_zero, List.set_cons_succ]
        refine wpAnyH_take (i := 8) (oi := { dst := some 40, op := Op.indexAddr 74 (Operand.tmp 35) (Operand.tmp 37), type := 0, pos := "disk.go:148", after := #[{ on := 3, ground := Ground.data }, { on := 5, ground := Ground.data }, { on := 0, ground := Ground.phase }, { on := 1, ground := Ground.phase }, { on := 2, ground := Ground.phase }, { on := 3, ground := Ground.phase }, { on := 4, ground := Ground.phase }, { on := 5, ground := Ground.phase }, { on := 6, ground := Ground.phase }, { on := 7, ground := Ground.phase }], guard := none }) (v := ?vdcr78) rfl (by kernel_rfl) (by kernel_rfl) (by kernel_rfl) (fun _ _ _ h => h) (Or.inl ⟨by rfl, ?ydcr78⟩) hk ?rdcr78
        case ydcr78 => (intro w hSw; (try dsimp only at hSw); go_simp; first | done | with_reducible rfl)
        simp only [Act.put, List.setIfInBounds_toArray, List.set_cons_zero, List.set_cons_succ]
        refine wpAnyH_ready (rs := [9]) (by decide +kernel) (by simp) ?_
        refine AllReadyH.cons (o := { dst := none, op := Op.store 107 (Operand.tmp 40) (Operand.tmp 39), type := 0, pos := "disk.go:148", after := #[{ on := 8, ground := Ground.data }, { on := 7, ground := Ground.data }, { on := 0, ground := Ground.phase }, { on := 1, ground := Ground.phase }, { on := 2, ground := Ground.phase }, { on := 3, ground := Ground.phase }, { on := 4, ground := Ground.phase }, { on := 5, ground := Ground.phase }, { on := 6, ground := Ground.phase }, { on := 7, ground := Ground.phase }], guard := none }) rfl (fun K hK => ?_) AllReadyH.nil
        rw [if_pos (by rfl)]
        refine wp_store_mid 107 (.tmp 40) (.tmp 39) rfl gf (p * 64) (bv Z).toArray rfl rfl ?htdcr79 HIS.out HOS.out ?_
        case htdcr79 => exact there_sz (HRN.out.thereF p hpn) HZS.out
        have hon := HRN.out.of_
        replace HRN : Bx _ := ⟨HRN.out.setFast p hpn Z HZS.out⟩
        replace hk := And.intro HRN.out.x (far_row hk.2 (ne_of_own hnv hon) (bv Z).toArray.toList (p * 64))
        replace HKP : Bx (Kept own w _) := ⟨HKP.out.setCells (.inl hon) (bv Z).toArray.toList (p * 64)⟩
        clear hon
        generalize wk.setCells gf (p * 64) (bv Z).toArray.toList = wk at hk HKP HRN ⊢
        simp only [Act.put]
        refine hK.out _ _ hk (fun _ => ?_)
        clear hK K
        try simp only [Act.put, List.setIfInBounds_toArray, List.set_cons_zero, List.set_cons_succ]
        refine wpAnyH_done (by decide +kernel) ?_ _
        clear hk
        go_wp2
        go_roundw
        case rel => exact ⟨j + 1, by omega, by go_num, HKP.out, _, ⟨HRD.out.symm⟩, HRN.out⟩
        case measure => simp [intOf]; omega
      · have hno : K.getD j false = false := by simpa using hyes
        have hRD2 := HRD.out
        rw [if_neg hyes] at hRD2
        replace HRD : Bx _ := ⟨hRD2⟩
        clear hRD2 hyes
        by_cases hjl : j < len
        · obtain ⟨kb, ko, rfl, hkbl, hkc⟩ := hkb.spot (by omega)
          have hkcell := hkc j hjl
          rw [hno] at hkcell
          have hjI : (j : Int) < (len : Int) := by omega
          have gj : decide ((j : Int) < (len : Int)) = true := by simpa using hjI
          clear hkc hkb hno
          go_wp2
          go_roundw
          case rel => exact ⟨j + 1, by omega, by go_num, HK4.out, _, ⟨HRD.out.symm⟩, HR.out⟩
          case measure => simp [intOf]; omega
        · have gj : decide ((j : Int) < (len : Int)) = false := by simp; omega
          clear hkb hno
          go_wp2
          go_roundw
          case rel => exact ⟨j + 1, by omega, by go_num, HK4.out, _, ⟨HRD.out.symm⟩, HR.out⟩
          case measure => simp [intOf]; omega
    · obtain rfl : j = O.length := by omega
      have HRD : Bx (Fj = app F (kpt O K)) := ⟨by rw [← HFj.out, List.drop_length]; rfl⟩
      obtain rfl : Fj = app F (kpt O K) := HRD.out
      have c2 := hR.c2
      have HR : Bx (∃ Nj, Bx (resN (app F (kpt O K)) Nj (O.drop 0) = app F (kpt O K)) ∧ Raw wr g own n (app F (kpt O K)) Nj O armed left off gf gn (.slice ao O.length c)) := ⟨⟨N, ⟨HNO.out⟩, hR⟩⟩
      have HKP : Bx _ := ⟨hkp⟩
      obtain ⟨w9, hw9⟩ : ∃ w9, w9 = wr := ⟨_, rfl⟩
      subst hw9
      clear hR hkp HFj HRD HNO HKB
      generalize app F (kpt O K) = F at HR HDD
      go_wp2
      clear c2
      go_loopw [47] (fun i wr => ∃ j : Nat, j ≤ O.length ∧ i = .int .i64 j ∧ Kept own w wr ∧ ∃ Nj, Bx (resN F Nj (O.drop j) = F) ∧ Raw wr g own n F Nj O armed left off gf gn (.slice ao O.length c)) (fun i _ => O.length - (intOf i).toNat)
      case atStart => exact ⟨0, Nat.zero_le _, rfl, HKP.out, HR.out⟩
      case round =>
        clear HR HKP
        obtain ⟨j, hj, rfl, hkp, Nj, HNj, hR⟩ := hrel
        by_cases hlt : j < O.length
        · obtain ⟨go, p, Z, rfl, ho, hpn, hZ, hrg⟩ := hR.nth j hlt
          have HRND := resN_round F Nj O j (p, Z) ho
          rw [HNj.out] at HRND
          have hY := hR.fs.getD p (by rw [hR.fl]; exact hpn)
          obtain ⟨Y, hYe⟩ : ∃ Y, Y = F.getD p [] := ⟨_, rfl⟩
          have HY : Bx (Y = F.getD p []) := ⟨hYe⟩
          have HRD : Bx (F = resN F (Nj.set p Y) (O.drop (j + 1))) := ⟨by rw [hYe]; exact HRND⟩
          rw [← hYe] at hY
          have HYS : Bx (Sx Y) := ⟨hY⟩
          have HR : Bx _ := ⟨hR⟩
          have hdi : (Tryz.prog.info? 109).map (·.size) = some (wcl (p, Z)).length := by rw [wcl_len hZ]; exact wri_size
          have HDI : Bx ((Tryz.prog.info? 109).map (·.size) = some (wcl (p, Z)).toArray.size) := ⟨by rw [wcl_sz hZ]; exact wri_size⟩
          have HDO : Bx ((wcl (p, Z)).toArray.all (·.oneCell') = true) := ⟨all_oneCell_toArray (wcl_one _)⟩
          have HWS : Bx ((wcl (p, Z)).toArray.size = 65) := ⟨wcl_sz hZ⟩
          have hds : (Tryz.prog.info? 107).map (·.size) = some (bv Y).length := by rw [bv_length, hY.1]; exact sec_size
          have HIS : Bx ((Tryz.prog.info? 107).map (·.size) = some (bv Y).toArray.size) := ⟨by rw [List.size_toArray]; exact hds⟩
          have HOS : Bx ((bv Y).toArray.all (·.oneCell') = true) := ⟨all_oneCell_toArray (bv_one _)⟩
          have hlI : (j : Int) < (O.length : Int) := by omega
          have HKP : Bx _ := ⟨hkp⟩
          clear HRND hR hZ ho HNj hkp hY hYe
          go_upto_region 12 with (first
            | (refine wpList_load_mid rfl 109 (.tmp 49) rfl go (j * 65) rfl (wcl (p, Z)) _ hrg Tryz.underlying109 rfl hdi ?_; clear hrg)
            | (refine wpList_alloc_at rfl 109 65 rfl wri_zero ?_; intro v wA cs hcs hrA hbA hvA)
            | (refine wpList_store_var rfl 109 (.tmp 8) (.tmp 50) rfl v cs hrA (wcl (p, Z)).toArray rfl rfl (by rw [HWS.out, hcs.out]) HDI.out HDO.out ?_; intro wB hrB hkB; clear hrA))
          obtain ⟨hR, hkp4, hnv⟩ := var_facts HR.out HKP.out hvA.out hbA.out hkB.out (Below.refl _ _)
          replace HKP : Bx (Kept own w wB.drew) := ⟨hkp4.drew⟩
          have HRN : Bx (Raw wB.drew g own n F Nj O armed left off gf gn (.slice (some ⟨go, 0, none⟩) O.length c)) := ⟨hR.drew⟩
          have hk : RawZ wB.drew g own n F O armed left off gf gn (.slice (some ⟨go, 0, none⟩) O.length c) ∧ wB.drew.heap[v]? = some (.cells (wcl (p, Z)).toArray 109 (0, 0)) := ⟨hR.drew.z, hrB⟩
          have hpI : (p : Int) < (n : Int) := by omega
          clear hR hkp4 hvA hbA hkB hcs hrB HR HDI HDO HWS hdi
          refine wp_region_held_drew (S := fun W => RawZ W g own n F O armed left off gf gn (.slice (some ⟨go, 0, none⟩) O.length c) ∧ W.heap[v]? = some (.cells (wcl (p, Z)).toArray 109 (0, 0))) (by kernel_rfl) hk (fun _ => ?_)
          generalize wB.drew = wk at hk HKP HRN ⊢
          refine wpAnyH_take (i := 0) (oi := { dst := some 51, op := Op.move (Operand.tmp 0), type := 25, pos := "disk.go:153", after := #[], guard := none }) (v := ?vdcr121) rfl (by kernel_rfl) (by kernel_rfl) (by kernel_rfl) (fun _ _ _ h => h) (Or.inl ⟨by rfl, ?ydcr121⟩) hk ?rdcr121
          case ydcr121 => (intro w hSw; (try dsimp only at hSw); go_simp; first | done | with_reducible rfl)
          simp only [Act.put, List.setIfInBounds_toArray, List.set_cons_zero, List.set_cons_succ]
          refine wpAnyH_take (i := 1) (oi := { dst := some 52, op := Op.nilCheck (Operand.tmp 51), type := 0, pos := "disk.go:153", after := #[{ on := 0, ground := Ground.data }], guard := none }) (v := ?vdcr122) rfl (by kernel_rfl) (by kernel_rfl) (by kernel_rfl) (fun _ _ _ h => h) (Or.inl ⟨by rfl, ?ydcr122⟩) hk ?rdcr122
          case ydcr122 => (intro w hSw; (try dsimp only at hSw); go_simp; first | done | with_reducible rfl)
          simp only [Act.put, List.setIfInBounds_toArray, List.set_cons_zero, List.set_cons_succ]
          refine wpAnyH_take (i := 2) (oi := { dst := some 53, op := Op.fieldAddr 77 (Operand.tmp 52) 1, type := 0, pos := "disk.go:153", after := #[{ on := 1, ground := Ground.data }], guard := none }) (v := ?vdcr123) rfl (by kernel_rfl) (by kernel_rfl) (by kernel_rfl) (fun _ _ _ h => h) (Or.inl ⟨by rfl, ?ydcr123⟩) hk ?rdcr123
          case ydcr123 => (intro w hSw; (try dsimp only at hSw); go_simp; first | done | with_reducible rfl)
          simp only [Act.put, List.setIfInBounds_toArray, List.set_cons_zero, List.set_cons_succ]
          refine wpAnyH_take (i := 3) (oi := { dst := some 54, op := Op.load 74 (Operand.tmp 53), type := 74, pos := "disk.go:153", after := #[{ on := 2, ground := Ground.data }], guard := none }) (v := ?vdcr124) rfl (by kernel_rfl) (by kernel_rfl) (by kernel_rfl) (fun _ _ _ h => h) (Or.inl ⟨by rfl, ?ydcr124⟩) hk ?rdcr124
          case ydcr124 => (intro w hSw; have hcw := hSw.1.c1; clear hSw; go_simp; first | done | with_reducible rfl)
          simp only [Act.put, List.setIfInBounds_toArray, List.set_cons_zero, List.set_cons_succ]
          refine wpAnyH_take (i := 4) (oi := { dst := some 55, op := Op.fieldAddr 109 (Operand.tmp 8) 0, type := 0, pos := "disk.go:153", after := #[], guard := none }) (v := ?vdcr125) rfl (by kernel_rfl) (by kernel_rfl) (by kernel_rfl) (fun _ _ _ h => h) (Or.inl ⟨by rfl, ?ydcr125⟩) hk ?rdcr125
          case ydcr125 => (intro w hSw; (try dsimp only at hSw); go_simp; first | done | with_reducible rfl)
          simp only [Act.put, List.setIfInBounds_toArray, List.set_cons_zero, List.set_cons_succ]
          refine wpAnyH_take (i := 5) (oi := { dst := some 56, op := Op.load 3 (Operand.tmp 55), type := 3, pos := "disk.go:153", after := #[{ on := 4, ground := Ground.data }], guard := none }) (v := ?vdcr126) rfl (by kernel_rfl) (by kernel_rfl) (by kernel_rfl) (fun _ _ _ h => h) (Or.inl ⟨by rfl, ?ydcr126⟩) hk ?rdcr126
          case ydcr126 => (intro w hSw; have hcw := row_num hSw.2; clear hSw; go_simp; first | done | with_reducible rfl)
          simp only [Act.put, List.setIfInBounds_toArray, List.set_cons_zero, List.set_cons_succ]
          refine wpAnyH_take (i := 6) (oi := { dst := some 57, op := Op.move (Operand.tmp 0), type := 25, pos := "disk.go:153", after := #[], guard := none }) (v := ?vdcr127) rfl (by kernel_rfl) (by kernel_rfl) (by kernel_rfl) (fun _ _ _ h => h) (Or.inl ⟨by rfl, ?ydcr127⟩) hk ?rdcr127
          case ydcr127 => (intro w hSw; (try dsimp only at hSw); go_simp; first | done | with_reducible rfl)
          simp only [Act.put, List.setIfInBounds_toArray, List.set_cons_zero, List.set_cons_succ]
          refine wpAnyH_take (i := 7) (oi := { dst := some 58, op := Op.nilCheck (Operand.tmp 57), type := 0, pos := "disk.go:153", after := #[{ on := 6, ground := Ground.data }], guard := none }) (v := ?vdcr128) rfl (by kernel_rfl) (by kernel_rfl) (by kernel_rfl) (fun _ _ _ h => h) (Or.inl ⟨by rfl, ?ydcr128⟩) hk ?rdcr128
          case ydcr128 => (intro w hSw; (try dsimp only at hSw); go_simp; first | done | with_reducible rfl)
          simp only [Act.put, List.setIfInBounds_toArray, List.set_cons_zero, List.set_cons_succ]
          refine wpAnyH_take (i := 8) (oi := { dst := some 59, op := Op.fieldAddr 77 (Operand.tmp 58) 0, type := 0, pos := "disk.go:153", after := #[{ on := 7, ground := Ground.data }], guard := none }) (v := ?vdcr129) rfl (by kernel_rfl) (by kernel_rfl) (by kernel_rfl) (fun _ _ _ h => h) (Or.inl ⟨by rfl, ?ydcr129⟩) hk ?rdcr129
          case ydcr129 => (intro w hSw; (try dsimp only at hSw); go_simp; first | done | with_reducible rfl)
          simp only [Act.put, List.setIfInBounds_toArray, List.set_cons_zero, List.set_cons_succ]
          refine wpAnyH_take (i := 9) (oi := { dst := some 60, op := Op.load 74 (Operand.tmp 59), type := 74, pos := "disk.go:153", after := #[{ on := 8, ground := Ground.data }], guard := none }) (v := ?vdcr1210) rfl (by kernel_rfl) (by kernel_rfl) (by kernel_rfl) (fun _ _ _ h => h) (Or.inl ⟨by rfl, ?ydcr1210⟩) hk ?rdcr1210
          case ydcr1210 => (intro w hSw; have hcw := hSw.1.c0; clear hSw; go_simp; first | done | with_reducible rfl)
          simp only [Act.put, List.setIfInBounds_toArray, List.set_cons_zero, List.set_cons_succ]
          refine wpAnyH_take (i := 10) (oi := { dst := some 61, op := Op.fieldAddr 109 (Operand.tmp 8) 0, type := 0, pos := "disk.go:153", after := #[], guard := none }) (v := ?vdcr1211) rfl (by kernel_rfl) (by kernel_rfl) (by kernel_rfl) (fun _ _ _ h => h) (Or.inl ⟨by rfl, ?ydcr1211⟩) hk ?rdcr1211
          case ydcr1211 => (intro w hSw; (try dsimp only at hSw); go_simp; first | done | with_reducible rfl)
          simp only [Act.put, List.setIfInBounds_toArray, List.set_cons_zero, List.set_cons_succ]
          refine wpAnyH_take (i := 11) (oi := { dst := some 62, op := Op.load 3 (Operand.tmp 61), type := 3, pos := "disk.go:153", after := #[{ on := 10, ground := Ground.data }], guard := none }) (v := ?vdcr1212) rfl (by kernel_rfl) (by kernel_rfl) (by kernel_rfl) (fun _ _ _ h => h) (Or.inl ⟨by rfl, ?ydcr1212⟩) hk ?rdcr1212
          case ydcr1212 => (intro w hSw; have hcw := row_num hSw.2; clear hSw; go_simp; first | done | with_reducible rfl)
          simp only [Act.put, List.setIfInBounds_toArray, List.set_cons_zero, List.set_cons_succ]
          refine wpAnyH_take (i := 12) (oi := { dst := some 63, op := Op.indexAddr 74 (Operand.tmp 60) (Operand.tmp 62), type := 0, pos := "disk.go:153", after := #[{ on := 9, ground := Ground.data }, { on := 11, ground := Ground.data }], guard := none }) (v := ?vdcr1213) rfl (by kernel_rfl) (by kernel_rfl) (by kernel_rfl) (fun _ _ _ h => h) (Or.inl ⟨by rfl, ?ydcr1213⟩) hk ?rdcr1213
          case ydcr1213 => (intro w hSw; (try dsimp only at hSw); go_simp; first | done | with_reducible rfl)
          simp only [Act.put, List.setIfInBounds_toArray, List.set_cons_zero, List.set_cons_succ]
          refine wpAnyH_take (i := 13) (oi := { dst := some 64, op := Op.load 107 (Operand.tmp 63), type := 107, pos := "disk.go:153", after := #[{ on := 12, ground := Ground.data }], guard := none }) (v := .agg (bv Y).toArray) rfl (by kernel_rfl) (by kernel_rfl) (by kernel_rfl) (fun _ _ _ h => h) (yieldsIf_load_mid (by rfl) 107 (.tmp 63) rfl gf (p * 64) rfl (bv Y) _ (fun W h => range_list HY.out (h.1.rangeF p hpn)) Tryz.underlying107 rfl hds) hk ?_
          simp only [Act.put, List.setIfInBounds_toArray, List.set_cons_zero, List.set_cons_succ]
          refine wpAnyH_take (i := 14) (oi := { dst := some 65, op := Op.indexAddr 74 (Operand.tmp 54) (Operand.tmp 56), type := 0, pos := "disk.go:153", after := #[{ on := 3, ground := Ground.data }, { on := 5, ground := Ground.data }, { on := 0, ground := Ground.phase }, { on := 1, ground := Ground.phase }, { on := 2, ground := Ground.phase }, { on := 3, ground := Ground.phase }, { on := 4, ground := Ground.phase }, { on := 5, ground := Ground.phase }, { on := 6, ground := Ground.phase }, { on := 7, ground := Ground.phase }, { on := 8, ground := Ground.phase }, { on := 9, ground := Ground.phase }, { on := 10, ground := Ground.phase }, { on := 11, ground := Ground.phase }, { on := 12, ground := Ground.phase }, { on := 13, ground := Ground.phase }], guard := none }) (v := ?vdcr1214) rfl (by kernel_rfl) (by kernel_rfl) (by kernel_rfl) (fun _ _ _ h => h) (Or.inl ⟨by rfl, ?ydcr1214⟩) hk ?rdcr1214
          case ydcr1214 => (intro w hSw; (try dsimp only at hSw); go_simp; first | done | with_reducible rfl)
          simp only [Act.put, List.setIfInBounds_toArray, List.set_cons_zero, List.set_cons_succ]
          refine wpAnyH_ready (rs := [15]) (by decide +kernel) (by simp) ?_
          refine AllReadyH.cons (o := { dst := none, op := Op.store 107 (Operand.tmp 65) (Operand.tmp 64), type := 0, pos := "disk.go:153", after := #[{ on := 14, ground := Ground.data }, { on := 13, ground := Ground.data }, { on := 0, ground := Ground.phase }, { on := 1, ground := Ground.phase }, { on := 2, ground := Ground.phase }, { on := 3, ground := Ground.phase }, { on := 4, ground := Ground.phase }, { on := 5, ground := Ground.phase }, { on := 6, ground := Ground.phase }, { on := 7, ground := Ground.phase }, { on := 8, ground := Ground.phase }, { on := 9, ground := Ground.phase }, { on := 10, ground := Ground.phase }, { on := 11, ground := Ground.phase }, { on := 12, ground := Ground.phase }, { on := 13, ground := Ground.phase }], guard := none }) rfl (fun K hK => ?_) AllReadyH.nil
          rw [if_pos (by rfl)]
          refine wp_store_mid 107 (.tmp 65) (.tmp 64) rfl gn (p * 64) (bv Y).toArray rfl rfl ?htdcr1215 HIS.out HOS.out ?_
          case htdcr1215 => exact there_sz (HRN.out.thereN p hpn) HYS.out
          have hon := HRN.out.on_
          replace HRN : Bx _ := ⟨HRN.out.setNow p hpn Y HYS.out⟩
          replace hk := And.intro HRN.out.z (far_row hk.2 (ne_of_own hnv hon) (bv Y).toArray.toList (p * 64))
          replace HKP : Bx (Kept own w _) := ⟨HKP.out.setCells (.inl hon) (bv Y).toArray.toList (p * 64)⟩
          clear hon
          generalize wk.setCells gn (p * 64) (bv Y).toArray.toList = wk at hk HKP HRN ⊢
          simp only [Act.put]
          refine hK.out _ _ hk (fun _ => ?_)
          clear hK K
          try simp only [Act.put, List.setIfInBounds_toArray, List.set_cons_zero, List.set_cons_succ]
          refine wpAnyH_done (by decide +kernel) ?_ _
          clear hk
          go_wp2
          go_roundw
          case rel => exact ⟨j + 1, by omega, by go_num, HKP.out, _, ⟨HRD.out.symm⟩, HRN.out⟩
          case measure => simp [intOf]; omega
        · obtain rfl : j = O.length := by omega
          have HRD : Bx (Nj = F) := ⟨by have := HNj.out; rw [List.drop_length] at this; exact this⟩
          obtain rfl : Nj = F := HRD.out
          have c2 := hR.c2
          have c3 := hR.c3
          have c4 := hR.c4
          have c5 := hR.c5
          have f2 := hR.fr 2
          have f3 := hR.fr 3
          have f4 := hR.fr 4
          have f5 := hR.fr 5
          have HD : Bx (Dsk ((((wr.setCell ⟨g, 2, none⟩ (.slice none 0 0)).setCell ⟨g, 3, none⟩ (.bool false)).setCell ⟨g, 4, none⟩ (.int .i64 0)).setCell ⟨g, 5, none⟩ (.bool false)) g own (s.cr K)) := ⟨HDD.out _ ⟨gf, gn, _, ((hR.setNil.setArmed false).setLeft 0 (by decide)).setOff false⟩⟩
          have HK : Bx (Kept own w ((((wr.setCell ⟨g, 2, none⟩ (.slice none 0 0)).setCell ⟨g, 3, none⟩ (.bool false)).setCell ⟨g, 4, none⟩ (.int .i64 0)).setCell ⟨g, 5, none⟩ (.bool false))) := ⟨(((hkp.setCell (.inl hR.og) 2 _).setCell (.inl hR.og) 3 _).setCell (.inl hR.og) 4 _).setCell (.inl hR.og) 5 _⟩
          clear hR hkp HNj HDD HRD
          go_wp2
          go_ret
          exact ⟨rfl, HD.out, HK.out⟩
end Go.Proofs.YtjnjokbdoendkaaGreat
