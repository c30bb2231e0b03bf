/- What the document's own Root answers. -/
import Derived.Test.YtbednfacipphhaaDoorRoot
import Derived.Test.YtbednfacipphhaaDoorAuaq
namespace Go.Proofs.YtbednfacipphhaaDoor
open Go.RowKit
set_option linter.unusedVariables false

set_option maxRecDepth 100000 in
set_option maxHeartbeats 1000000 in
theorem refroot_any (n : Nat) : ∀ (a : Option Addr) (len cap : Nat) (L : List (List Int)) (x : Int) (w : World), len ≤ n → Dgs w a len cap L → Tab w → len ≤ 1000000 →
    Calls Tryd.prog 74 #[.slice a len cap, .int .i64 x] w fun e w' => e = .returned (.agg (bv (rootL L x)).toArray) ∧ Below w.heap.size w w' := by
  induction n using Nat.strongRecOn with
  | ind n ih =>
  intro a len cap L x w hn hL htab hbd
  have hpos := htab.pos
  have hlen := hL.len_eq
  have hb0 : Below w.heap.size w (w.alloc (.cells #[.int .u8 0, .int .u8 0, .int .u8 0, .int .u8 0, .int .u8 0, .int .u8 0, .int .u8 0, .int .u8 0, .int .u8 0, .int .u8 0, .int .u8 0, .int .u8 0, .int .u8 0, .int .u8 0, .int .u8 0, .int .u8 0, .int .u8 0, .int .u8 0, .int .u8 0, .int .u8 0, .int .u8 0, .int .u8 0, .int .u8 0, .int .u8 0, .int .u8 0, .int .u8 0, .int .u8 0, .int .u8 0, .int .u8 0, .int .u8 0, .int .u8 0, .int .u8 0] 30)) := (Below.refl _ _).alloc (Nat.le_refl _) _
  obtain ⟨cs, hcs, hres0⟩ : ∃ cs : Array Value, cs.size = 32 ∧ (w.alloc (.cells #[.int .u8 0, .int .u8 0, .int .u8 0, .int .u8 0, .int .u8 0, .int .u8 0, .int .u8 0, .int .u8 0, .int .u8 0, .int .u8 0, .int .u8 0, .int .u8 0, .int .u8 0, .int .u8 0, .int .u8 0, .int .u8 0, .int .u8 0, .int .u8 0, .int .u8 0, .int .u8 0, .int .u8 0, .int .u8 0, .int .u8 0, .int .u8 0, .int .u8 0, .int .u8 0, .int .u8 0, .int .u8 0, .int .u8 0, .int .u8 0, .int .u8 0, .int .u8 0] 30)).heap[w.heap.size]? = some (.cells cs 30 (0, 0)) := ⟨#[.int .u8 0, .int .u8 0, .int .u8 0, .int .u8 0, .int .u8 0, .int .u8 0, .int .u8 0, .int .u8 0, .int .u8 0, .int .u8 0, .int .u8 0, .int .u8 0, .int .u8 0, .int .u8 0, .int .u8 0, .int .u8 0, .int .u8 0, .int .u8 0, .int .u8 0, .int .u8 0, .int .u8 0, .int .u8 0, .int .u8 0, .int .u8 0, .int .u8 0, .int .u8 0, .int .u8 0, .int .u8 0, .int .u8 0, .int .u8 0, .int .u8 0, .int .u8 0], rfl, heap_alloc_new _ _⟩
  by_cases h0 : len = 0
  · have e0 : ((len : Int) == 0) = true := by simp; omega
    have HE : Bx (rootL L x = cutL (sumL []) x) := ⟨by rw [List.eq_nil_of_length_eq_zero (hlen.trans h0), rootL_nil]⟩
    have hT0 := htab.below hb0
    have HB0 : Bx _ := ⟨hb0⟩
    have HR0 : Bx _ := ⟨hres0⟩
    have HT0 : Bx _ := ⟨hT0⟩
    clear hb0 hres0 hT0 ih hL hlen h0
    go_enter Tryd.func74, Tryd.ntmps74
    go_wp2_with fail
    have hb0 := HB0.out
    have hres0 := HR0.out
    have hT0 := HT0.out
    clear HB0 HR0 HT0
    generalize w.alloc (.cells #[.int .u8 0, .int .u8 0, .int .u8 0, .int .u8 0, .int .u8 0, .int .u8 0, .int .u8 0, .int .u8 0, .int .u8 0, .int .u8 0, .int .u8 0, .int .u8 0, .int .u8 0, .int .u8 0, .int .u8 0, .int .u8 0, .int .u8 0, .int .u8 0, .int .u8 0, .int .u8 0, .int .u8 0, .int .u8 0, .int .u8 0, .int .u8 0, .int .u8 0, .int .u8 0, .int .u8 0, .int .u8 0, .int .u8 0, .int .u8 0, .int .u8 0, .int .u8 0] 30) = w0 at hb0 hres0 hT0 ⊢
    refine (refsum_any none 0 0 [] _ (Bts.none rfl) (by decide)).mono ?_
    rintro e w4 ⟨rfl, hb4⟩
    have hlow4 := bstep hb0 hb4
    have hres4 := (hb4.block w.heap.size (Array.getElem?_eq_some_iff.1 hres0).1).trans hres0
    have hdg : Dg (sumL []) := ⟨sumL_length _, sum_byt _⟩
    generalize sumL [] = d at HE hdg ⊢
    clear hb0 hres0 hT0 hb4
    go_wp2_with fail
    refine (refmcut_any d x _ hdg).mono ?_
    rintro e w5 ⟨rfl, hb5⟩
    have hlow5 := bstep hlow4 hb5
    have hres5 := (hb5.block w.heap.size (Array.getElem?_eq_some_iff.1 hres4).1).trans hres4
    have hZ := cutL_dg hdg.2 x
    clear hlow4 hres4 hb5
    obtain ⟨D, hD⟩ : ∃ D, (bv (cutL d x)).toArray = D := ⟨_, rfl⟩
    obtain ⟨HTH, HI2, HO2, HST, HBS⟩ := res_end hres5 hcs hlow5 (Nat.le_refl _) hZ.1 D hD
    have HD : Bx (Ending.returned (.agg D) = .returned (.agg (bv (rootL L x)).toArray)) := ⟨by rw [HE.out, hD]⟩
    rw [hD]
    clear hD hres5 hlow5 hcs
    go_wp2_with (refine wpList_store_mid rfl 30 (.tmp 4) (.tmp 11) rfl w.heap.size 0 D rfl rfl HTH.out HI2.out HO2.out ?_)
    exact bodyPost_ret (v := .agg D) (results_cell_row rfl _ _ w.heap.size 30 D (0, 0) _ rfl HST.out Tryd.underlying30 rfl HI2.out) rfl ⟨HD.out, HBS.out⟩
  · by_cases h1 : len = 1
    · have e0 : ((len : Int) == 0) = false := by simp; omega
      have e1 : ((len : Int) == 1) = true := by simp; omega
      obtain ⟨b, off, rfl, hlt, hcc⟩ := hL.spot (by omega)
      have hl0 : (0 : Int) < (len : Int) := by omega
      have hZ := hL.dig.getD 0 (by omega)
      have HE : Bx (rootL L x = L.getD 0 []) := ⟨rootL_one L x (hlen.trans h1)⟩
      have hr := range_below (hcc 0 (by omega)) hb0 hlt
      rw [Nat.mul_zero, Nat.add_zero] at hr
      have hdi : (Tryd.prog.info? 30).map (·.size) = some (bv (L.getD 0 [])).length := by rw [bv_length, hZ.1]; exact dig_info
      generalize L.getD 0 [] = Z at HE hr hZ hdi
      obtain ⟨D, hD⟩ : ∃ D, (bv Z).toArray = D := ⟨_, rfl⟩
      obtain ⟨HTH, HI2, HO2, HST, HBS⟩ := res_end hres0 hcs hb0 (Nat.le_refl _) hZ.1 D hD
      have HD : Bx (Ending.returned (.agg D) = .returned (.agg (bv (rootL L x)).toArray)) := ⟨by rw [HE.out, hD]⟩
      have HR : Bx _ := ⟨hr⟩
      have HDI : Bx _ := ⟨hdi⟩
      clear hres0 hb0 hcs ih hcc hr hdi hL hZ
      go_enter Tryd.func74, Tryd.ntmps74
      go_wp2_with (first
        | (refine wpList_load_mid rfl 30 (.tmp 16) rfl b off rfl (bv Z) _ HR.out Tryd.underlying30 rfl HDI.out ?_; rw [hD]; clear hD)
        | (refine wpList_store_mid rfl 30 (.tmp 4) (.tmp 17) rfl w.heap.size 0 D rfl rfl HTH.out HI2.out HO2.out ?_))
      exact bodyPost_ret (v := .agg D) (results_cell_row rfl _ _ w.heap.size 30 D (0, 0) _ rfl HST.out Tryd.underlying30 rfl HI2.out) rfl ⟨HD.out, HBS.out⟩
    · have e0 : ((len : Int) == 0) = false := by simp; omega
      have e1 : ((len : Int) == 1) = false := by simp; omega
      obtain ⟨b, off, rfl, hlt, hcc⟩ := hL.spot (by omega)
      have hk1 := splitN_pos (n := len) (by omega)
      have hk2 := splitN_lt (n := len) (by omega)
      have HE : Bx (rootL L x = nodeL (rootL (L.take (splitN len)) x) (rootL (L.drop (splitN len)) x) x) := ⟨by rw [rootL_more L x (by omega), hlen]⟩
      have hcap := hL.le_cap
      have hRT : RT w.heap.size ⟨b, off, none⟩ len cap L w (w.alloc (.cells #[.int .u8 0, .int .u8 0, .int .u8 0, .int .u8 0, .int .u8 0, .int .u8 0, .int .u8 0, .int .u8 0, .int .u8 0, .int .u8 0, .int .u8 0, .int .u8 0, .int .u8 0, .int .u8 0, .int .u8 0, .int .u8 0, .int .u8 0, .int .u8 0, .int .u8 0, .int .u8 0, .int .u8 0, .int .u8 0, .int .u8 0, .int .u8 0, .int .u8 0, .int .u8 0, .int .u8 0, .int .u8 0, .int .u8 0, .int .u8 0, .int .u8 0, .int .u8 0] 30)) := ⟨hb0, hL.below hb0, hlt, ⟨cs, hcs, hres0⟩, htab.below hb0⟩
      have HRT : Bx _ := ⟨hRT⟩
      have HSP : Bx (∀ W, Calls Tryd.prog 97 #[.int .i64 (len : Int)] W fun e w' => e = .returned (.int .i64 (splitN len : Int)) ∧ W = w') := ⟨fun W => refsplit_any (len : Int) W (by omega)⟩
      have HI1 : Bx (∀ W, Dgs W (some ⟨b, off, none⟩) len cap L → Tab W → Calls Tryd.prog 74 #[.slice (some ⟨b, off, none⟩) (splitN len) cap, .int .i64 x] W fun e w' => e = .returned (.agg (bv (rootL (L.take (splitN len)) x)).toArray) ∧ Below W.heap.size W w') :=
        ⟨fun W hW hT => ih (splitN len) (by omega) _ _ _ _ x W (Nat.le_refl _) (hW.take _ (by omega)) hT (by omega)⟩
      have HI2 : Bx (∀ W, Dgs W (some ⟨b, off, none⟩) len cap L → Tab W → Calls Tryd.prog 74 #[.slice (some ⟨b, off + 32 * splitN len, none⟩) (len - splitN len) (cap - splitN len), .int .i64 x] W fun e w' => e = .returned (.agg (bv (rootL (L.drop (splitN len)) x)).toArray) ∧ Below W.heap.size W w') :=
        ⟨fun W hW hT => ih (len - splitN len) (by omega) _ _ _ _ x W (Nat.le_refl _) (hW.drop _ (by omega)) hT (by omega)⟩
      have hd1 := rootL_dg (L.take (splitN len)) x (hL.dig.take _)
      have hd2 := rootL_dg (L.drop (splitN len)) x (hL.dig.drop _)
      generalize rootL (L.take (splitN len)) x = R1 at HE HI1 hd1
      generalize rootL (L.drop (splitN len)) x = R2 at HE HI2 hd2
      generalize splitN len = k at hk1 hk2 HSP HI1 HI2
      clear hb0 hres0 hcs hRT hcc hL htab ih hlen
      go_enter Tryd.func74, Tryd.ntmps74
      go_wp2_with fail
      have hRT := HRT.out
      clear HRT
      generalize w.alloc (.cells #[.int .u8 0, .int .u8 0, .int .u8 0, .int .u8 0, .int .u8 0, .int .u8 0, .int .u8 0, .int .u8 0, .int .u8 0, .int .u8 0, .int .u8 0, .int .u8 0, .int .u8 0, .int .u8 0, .int .u8 0, .int .u8 0, .int .u8 0, .int .u8 0, .int .u8 0, .int .u8 0, .int .u8 0, .int .u8 0, .int .u8 0, .int .u8 0, .int .u8 0, .int .u8 0, .int .u8 0, .int .u8 0, .int .u8 0, .int .u8 0, .int .u8 0, .int .u8 0] 30) = w0 at hRT ⊢
      refine (HSP.out _).mono ?_
      rintro e w' ⟨rfl, rfl⟩
      go_wp2_with fail
      obtain ⟨N, hN⟩ : ∃ N, N = w.heap.size := ⟨_, rfl⟩
      rw [← hN] at hRT ⊢
      have HN : Hid (N = w.heap.size) := hN
      have hNp : 0 < N := by omega
      clear hN
      obtain ⟨Z, hZ⟩ : ∃ Z, Z = nodeL R1 R2 x := ⟨_, rfl⟩
      have HC : Bx (∀ W, Tab W → Calls Tryd.prog 90 #[.agg (bv R1).toArray, .agg (bv R2).toArray, .int .i64 x] W fun e w' => e = .returned (.agg (bv Z).toArray) ∧ Below W.heap.size W w') := ⟨fun W hT => by rw [hZ]; exact refnode_any R1 R2 x W hd1 hd2⟩
      have hZd : Dg Z := by rw [hZ]; exact nodeL_dg _ _ _
      have HZE : Bx (Ending.returned (.agg (bv Z).toArray) = .returned (.agg (bv (rootL L x)).toArray)) := ⟨by rw [HE.out, hZ]⟩
      have hZl : (bv Z).length = 32 := by rw [bv_length, hZd.1]
      have hZi : (Tryd.prog.info? 30).map (·.size) = some (bv Z).length := by rw [hZl]; exact dig_info
      have hZo := bv_one Z
      have HZi : Bx ((Tryd.prog.info? 30).map (·.size) = some (bv Z).toArray.size) := ⟨by rw [List.size_toArray]; exact hZi⟩
      have HZl : Bx ((bv Z).length = 32) := ⟨hZl⟩
      have hc1 := dgs_cut b off len cap k (by omega)
      have hc2 := dgs_rest b off len cap k (by omega) (by omega)
      clear hZ hd1 hd2 HE hZd HSP
      generalize hm : off + 32 * k = o2 at hc2 HI2
      generalize hm2 : len - k = l2 at hc2 HI2
      generalize hm3 : cap - k = c2 at hc2 HI2
      clear hm hm2 hm3
      have h0 := (hRT.drewN 1).held
      go_region_held3 (fun W => W.there N 0 32 ∧ RT N ⟨b, off, none⟩ len cap L w W) (first | (exact h0) | (exact rt_step (by assumption) hb5) | (exact rt_step (by assumption) hb6) | (exact rt_step (by assumption) hb7) | (exact rt_store (by assumption) hNp HZl.out)) (first
        | (go_at_call 74; have hq5 := hb5; clear hq5; refine (HI2.out _ (rt_lst (by assumption)) (rt_tab (by assumption))).mono ?_; rintro e6 w6 ⟨rfl, hb6⟩)
        | (go_at_call 74; refine (HI1.out _ (rt_lst (by assumption)) (rt_tab (by assumption))).mono ?_; rintro e5 w5 ⟨rfl, hb5⟩)
        | (go_at_call 90; refine (HC.out _ (rt_tab (by assumption))).mono ?_; rintro e7 w7 ⟨rfl, hb7⟩; have hms7 := And.right (rt_step (by assumption) hb7)))
      have HF := hms7.store hNp HZl.out
      have HST : Bx _ := ⟨HF.2⟩
      have HBS : Bx (Below w.heap.size w (w7.setCells N 0 (bv Z))) := ⟨by rw [← HN.out]; exact HF.1.low⟩
      clear HF hms7
      go_wp2
      exact bodyPost_ret (v := .agg (bv Z).toArray) (results_cell_row rfl _ _ N 30 (bv Z).toArray (0, 0) _ rfl HST.out Tryd.underlying30 rfl HZi.out) rfl ⟨HZE.out, HBS.out⟩
end Go.Proofs.YtbednfacipphhaaDoor
