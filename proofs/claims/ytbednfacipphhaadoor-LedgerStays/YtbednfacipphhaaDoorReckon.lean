/- What reckonPath and CheckPath answer. -/
import Derived.Test.YtbednfacipphhaaDoorRoot
import Derived.Test.YtbednfacipphhaaDoorCutLast
import Derived.Test.YtbednfacipphhaaDoorAuaw
namespace Go.Proofs.YtbednfacipphhaaDoor
open Go.RowKit
set_option linter.unusedVariables false

/-- the digest of noughts -/
def z0 : List Int := List.replicate 32 0
set_option maxRecDepth 100000 in
theorem z0_dg : Dg z0 := ⟨by simp [z0], by intro c hc; rw [List.eq_of_mem_replicate hc]; decide⟩
set_option maxRecDepth 100000 in
theorem z0_eval : Value.agg #[.int .u8 0, .int .u8 0, .int .u8 0, .int .u8 0, .int .u8 0, .int .u8 0, .int .u8 0, .int .u8 0, .int .u8 0, .int .u8 0, .int .u8 0, .int .u8 0, .int .u8 0, .int .u8 0, .int .u8 0, .int .u8 0, .int .u8 0, .int .u8 0, .int .u8 0, .int .u8 0, .int .u8 0, .int .u8 0, .int .u8 0, .int .u8 0, .int .u8 0, .int .u8 0, .int .u8 0, .int .u8 0, .int .u8 0, .int .u8 0, .int .u8 0, .int .u8 0] = .agg (bv z0).toArray := rfl

set_option maxRecDepth 100000 in
set_option maxHeartbeats 2000000 in
theorem reckonp_any (n : Nat) : ∀ (i : Nat) (leaf : List Int) (a : Option Addr) (len cap : Nat) (P : List (List Int)) (x : Int) (w : World), 1 ≤ n → n ≤ 9223372036854775807 → i < n → Dg leaf → Dgs w a len cap P → Tab w →
    Calls Tryd.prog 58 #[.int .i64 n, .int .i64 i, .agg (bv leaf).toArray, .slice a len cap, .int .i64 x] w fun e w' => ∃ d, e = .returned (.tuple #[.agg (bv d).toArray, .bool (decide ((stepsL n i).length = P.length))]) ∧ Dg d ∧ ((stepsL n i).length = P.length → d = upL x (stepsL n i).reverse P leaf) ∧ Below w.heap.size w w' := by
  induction n using Nat.strongRecOn with
  | ind n ih =>
  intro i leaf a len cap P x w hn hn63 hi hleaf hP htab
  have hlen := hP.len_eq
  have hb0 : Below w.heap.size w ((w.alloc (.cells (bv leaf).toArray 30)).alloc (.cells #[.int .u8 0, .int .u8 0, .int .u8 0, .int .u8 0, .int .u8 0, .int .u8 0, .int .u8 0, .int .u8 0, .int .u8 0, .int .u8 0, .int .u8 0, .int .u8 0, .int .u8 0, .int .u8 0, .int .u8 0, .int .u8 0, .int .u8 0, .int .u8 0, .int .u8 0, .int .u8 0, .int .u8 0, .int .u8 0, .int .u8 0, .int .u8 0, .int .u8 0, .int .u8 0, .int .u8 0, .int .u8 0, .int .u8 0, .int .u8 0, .int .u8 0, .int .u8 0] 30)) := ((Below.refl _ _).alloc (Nat.le_refl _) _).alloc (by simp) _
  have hlf0 : ((w.alloc (.cells (bv leaf).toArray 30)).alloc (.cells #[.int .u8 0, .int .u8 0, .int .u8 0, .int .u8 0, .int .u8 0, .int .u8 0, .int .u8 0, .int .u8 0, .int .u8 0, .int .u8 0, .int .u8 0, .int .u8 0, .int .u8 0, .int .u8 0, .int .u8 0, .int .u8 0, .int .u8 0, .int .u8 0, .int .u8 0, .int .u8 0, .int .u8 0, .int .u8 0, .int .u8 0, .int .u8 0, .int .u8 0, .int .u8 0, .int .u8 0, .int .u8 0, .int .u8 0, .int .u8 0, .int .u8 0, .int .u8 0] 30)).heap[w.heap.size]? = some (.cells (bv leaf).toArray 30 (0, 0)) := by rw [heap_alloc_old _ _ (by simp), heap_alloc_new]
  obtain ⟨cs, hcs, hres0⟩ : ∃ cs : Array Value, cs.size = 32 ∧ ((w.alloc (.cells (bv leaf).toArray 30)).alloc (.cells #[.int .u8 0, .int .u8 0, .int .u8 0, .int .u8 0, .int .u8 0, .int .u8 0, .int .u8 0, .int .u8 0, .int .u8 0, .int .u8 0, .int .u8 0, .int .u8 0, .int .u8 0, .int .u8 0, .int .u8 0, .int .u8 0, .int .u8 0, .int .u8 0, .int .u8 0, .int .u8 0, .int .u8 0, .int .u8 0, .int .u8 0, .int .u8 0, .int .u8 0, .int .u8 0, .int .u8 0, .int .u8 0, .int .u8 0, .int .u8 0, .int .u8 0, .int .u8 0] 30)).heap[w.heap.size + 1]? = some (.cells cs 30 (0, 0)) := ⟨#[.int .u8 0, .int .u8 0, .int .u8 0, .int .u8 0, .int .u8 0, .int .u8 0, .int .u8 0, .int .u8 0, .int .u8 0, .int .u8 0, .int .u8 0, .int .u8 0, .int .u8 0, .int .u8 0, .int .u8 0, .int .u8 0, .int .u8 0, .int .u8 0, .int .u8 0, .int .u8 0, .int .u8 0, .int .u8 0, .int .u8 0, .int .u8 0, .int .u8 0, .int .u8 0, .int .u8 0, .int .u8 0, .int .u8 0, .int .u8 0, .int .u8 0, .int .u8 0], rfl, by rw [show w.heap.size + 1 = (w.alloc (.cells (bv leaf).toArray 30)).heap.size from by simp, heap_alloc_new]⟩
  have hs0 : ((w.alloc (.cells (bv leaf).toArray 30)).alloc (.cells #[.int .u8 0, .int .u8 0, .int .u8 0, .int .u8 0, .int .u8 0, .int .u8 0, .int .u8 0, .int .u8 0, .int .u8 0, .int .u8 0, .int .u8 0, .int .u8 0, .int .u8 0, .int .u8 0, .int .u8 0, .int .u8 0, .int .u8 0, .int .u8 0, .int .u8 0, .int .u8 0, .int .u8 0, .int .u8 0, .int .u8 0, .int .u8 0, .int .u8 0, .int .u8 0, .int .u8 0, .int .u8 0, .int .u8 0, .int .u8 0, .int .u8 0, .int .u8 0] 30)).heap.size = w.heap.size + 1 + 1 := by simp
  have hil : (Tryd.prog.info? 30).map (·.size) = some (bv leaf).toArray.size := by rw [List.size_toArray, bv_length, hleaf.1]; exact dig_info
  by_cases h1 : n = 1
  · have e1 : ((n : Int) == 1) = true := by simp; omega
    have HS : Bx (stepsL n i = []) := ⟨stepsL_one i (by omega)⟩
    obtain ⟨ok, hok, hokn⟩ : ∃ ok, ((len : Int) == 0) = ok ∧ ok = decide ((stepsL n i).length = P.length) := ⟨_, rfl, by
      rw [HS.out, hlen]
      by_cases h : len = 0
      · subst h; rfl
      · rw [show ((len : Int) == 0) = false by simp; omega, decide_eq_false (by simp; omega)]⟩
    have HOK : Bx (ok = decide ((stepsL n i).length = P.length)) := ⟨hokn⟩
    obtain ⟨D, hD⟩ : ∃ D, (bv leaf).toArray = D := ⟨_, rfl⟩
    rw [hD] at hlf0 hres0 hb0 hil
    obtain ⟨HTH, HI2, HO2, HST, HBS⟩ := res_end hres0 hcs hb0 (Nat.le_succ _) hleaf.1 D hD
    have HLF : Bx _ := ⟨hlf0⟩
    have HIL : Bx _ := ⟨hil⟩
    have HD : Bx (Ending.returned (.tuple #[.agg D, .bool ok]) = .returned (.tuple #[.agg (bv leaf).toArray, .bool (decide ((stepsL n i).length = P.length))])) := ⟨by rw [hD, hokn]⟩
    rw [hD]
    clear hlf0 hres0 hb0 hs0 hil ih hP hlen hokn hcs h1
    go_enter Tryd.func58, Tryd.ntmps58
    go_wp2_with (first
      | (refine wpList_load_row rfl 30 (.tmp 7) rfl w.heap.size rfl 30 D (0, 0) _ HLF.out Tryd.underlying30 rfl HIL.out ?_)
      | (refine wpList_store_mid rfl 30 (.tmp 10) (.tmp 21) rfl (w.heap.size + 1) 0 D rfl rfl ?ht HI2.out HO2.out ?_; (case ht => exact HTH.out)))
    exact bodyPost_ret (v := .tuple #[.agg D, .bool ok]) (results_ct rfl _ _ (w.heap.size + 1) D _ rfl rfl HST.out HI2.out) rfl ⟨leaf, HD.out, hleaf, fun h => by rw [HS.out]; exact (upL_nil x P leaf).symm, HBS.out⟩
  · have e1 : ((n : Int) == 1) = false := by simp; omega
    by_cases h0 : len = 0
    · have e0 : ((len : Int) == 0) = true := by simp; omega
      have HNO : Bx (decide ((stepsL n i).length = P.length) = false) := ⟨by have := stepsL_pos i (show 2 ≤ n by omega); rw [hlen, h0, decide_eq_false (by omega)]⟩
      obtain ⟨HTH, HI2, HO2, HST, HBS⟩ := res_end (Z := z0) hres0 hcs hb0 (Nat.le_succ _) z0_dg.1 (bv z0).toArray rfl
      rw [HNO.out]
      have HNE : Bx ((stepsL n i).length = P.length → False) := ⟨fun h => by have := of_decide_eq_false HNO.out; exact this h⟩
      clear hlf0 hres0 hb0 hs0 hil ih hP hlen hcs h1 HNO
      go_enter Tryd.func58, Tryd.ntmps58
      go_wp2_with (refine wpList_store_mid rfl 30 (.tmp 10) (.tmp 28) rfl (w.heap.size + 1) 0 (bv z0).toArray rfl z0_eval ?ht HI2.out HO2.out ?_; (case ht => exact HTH.out))
      exact bodyPost_ret (v := .tuple #[.agg (bv z0).toArray, .bool false]) (results_ct rfl _ _ (w.heap.size + 1) (bv z0).toArray _ rfl rfl HST.out HI2.out) rfl ⟨z0, rfl, z0_dg, fun h => (HNE.out h).elim, HBS.out⟩
    · have e0 : ((len : Int) == 0) = false := by simp; omega
      have hk1 := splitN_pos (n := n) (by omega)
      have hk2 := splitN_lt (n := n) (by omega)
      have HPS : Bx (P = P.take (len - 1) ++ [P.getD (len - 1) []]) := ⟨last_split P len hlen (by omega)⟩
      have hRd := hP.dig.getD (len - 1) (by omega)
      have HSP : Bx (∀ W, Calls Tryd.prog 84 #[.int .i64 (n : Int)] W fun e w' => e = .returned (.int .i64 (splitN n : Int)) ∧ W = w') := ⟨fun W => split_any (n : Int) W (by omega)⟩
      have HCL : Bx (∀ W, Below w.heap.size w W → Calls Tryd.prog 85 #[.slice a len cap] W fun e w' => e = .returned (.tuple #[.slice a (len - 1) cap, .agg (bv (P.getD (len - 1) [])).toArray]) ∧ Below W.heap.size W w') := ⟨fun W hW => cutlast_any a len cap P W (hP.below hW) (by omega)⟩
      generalize hRR : P.getD (len - 1) [] = R at HPS hRd HCL
      clear hRR
      have HDL : Bx ((bv leaf).toArray = (bv leaf).toArray) := ⟨rfl⟩
      generalize hDL : (bv leaf).toArray = DL at hlf0 hres0 hb0 hil hs0 HDL ⊢
      replace HDL : Bx (DL = (bv leaf).toArray) := ⟨hDL.symm⟩
      have HIL : Bx _ := ⟨hil⟩
      have HB0 : Bx _ := ⟨hb0⟩
      have HLF0 : Bx _ := ⟨hlf0⟩
      have HRS0 : Bx _ := ⟨hres0⟩
      have HSZ0 : Bx _ := ⟨hs0⟩
      clear hb0 hlf0 hres0 hs0 hil hDL
      by_cases hik : i < splitN n
      · obtain ⟨S', hS'⟩ : ∃ S', S' = stepsL (splitN n) i := ⟨_, rfl⟩
        have HSL : Bx (stepsL n i = false :: S') := ⟨by rw [hS']; exact stepsL_left (by omega) hik⟩
        have HI1 : Bx (∀ W, Below w.heap.size w W → Calls Tryd.prog 58 #[.int .i64 (splitN n : Int), .int .i64 i, .agg (bv leaf).toArray, .slice a (len - 1) cap, .int .i64 x] W fun e w' => ∃ d, e = .returned (.tuple #[.agg (bv d).toArray, .bool (decide (S'.length = (P.take (len - 1)).length))]) ∧ Dg d ∧ (S'.length = (P.take (len - 1)).length → d = upL x S'.reverse (P.take (len - 1)) leaf) ∧ Below W.heap.size W w') :=
          ⟨fun W hW => by rw [hS']; exact ih (splitN n) hk2 i leaf a (len - 1) cap (P.take (len - 1)) x W hk1 (by omega) hik hleaf ((hP.below hW).take _ (by omega)) (htab.below hW)⟩
        have hki : (i : Int) < (splitN n : Int) := by omega
        clear hS' ih hP
        generalize splitN n = k at hk1 hk2 HSP HI1 hki
        generalize P.take (len - 1) = PT at HPS HI1
        go_enter Tryd.func58, Tryd.ntmps58
        go_wp2_with fail
        have hb0 := HB0.out
        have hlf0 := HLF0.out
        have hres0 := HRS0.out
        have hs0 := HSZ0.out
        clear HB0 HLF0 HRS0 HSZ0
        generalize (w.alloc (.cells DL 30)).alloc (.cells #[.int .u8 0, .int .u8 0, .int .u8 0, .int .u8 0, .int .u8 0, .int .u8 0, .int .u8 0, .int .u8 0, .int .u8 0, .int .u8 0, .int .u8 0, .int .u8 0, .int .u8 0, .int .u8 0, .int .u8 0, .int .u8 0, .int .u8 0, .int .u8 0, .int .u8 0, .int .u8 0, .int .u8 0, .int .u8 0, .int .u8 0, .int .u8 0, .int .u8 0, .int .u8 0, .int .u8 0, .int .u8 0, .int .u8 0, .int .u8 0, .int .u8 0, .int .u8 0] 30) = w0 at hb0 hlf0 hres0 hs0 ⊢
        refine (HSP.out _).mono ?_
        rintro e w' ⟨rfl, rfl⟩
        go_wp2_with fail
        refine (HCL.out _ hb0).mono ?_
        rintro e w1 ⟨rfl, hb1⟩
        have hlow1 := bstep hb0 hb1
        have hz1 := hb1.size
        have hN1 : w.heap.size < w1.heap.size := by omega
        have hN2 : w.heap.size + 1 < w1.heap.size := by omega
        have HLF1 : Bx _ := ⟨(hb1.block w.heap.size (by omega)).trans hlf0⟩
        have hres1 := (hb1.block (w.heap.size + 1) (by omega)).trans hres0
        obtain ⟨DR, hDR⟩ : ∃ DR, DR = (bv R).toArray := ⟨_, rfl⟩
        obtain ⟨hdv, hth, hinf, hone⟩ := dig_var w1 R hRd.1 DR hDR
        have HTHR : Bx _ := ⟨hth⟩
        have HDV : Bx _ := ⟨hdv⟩
        have HINF : Bx _ := ⟨hinf⟩
        have HONE : Bx _ := ⟨hone⟩
        have HDR : Bx (DR = (bv R).toArray) := ⟨hDR⟩
        rw [← hDR]
        clear hdv hth hinf hone hDR HSP HCL hb0 hlf0 hres0 hs0 hb1 hz1
        go_wp2_with (first
          | (refine wpList_store_mid rfl 30 (.tmp 14) (.tmp 35) rfl w1.heap.size 0 DR rfl rfl ?ht HINF.out HONE.out ?_; (case ht => exact HTHR.out); have hdv := HDV.out; generalize (w1.alloc (.cells #[.int .u8 0, .int .u8 0, .int .u8 0, .int .u8 0, .int .u8 0, .int .u8 0, .int .u8 0, .int .u8 0, .int .u8 0, .int .u8 0, .int .u8 0, .int .u8 0, .int .u8 0, .int .u8 0, .int .u8 0, .int .u8 0, .int .u8 0, .int .u8 0, .int .u8 0, .int .u8 0, .int .u8 0, .int .u8 0, .int .u8 0, .int .u8 0, .int .u8 0, .int .u8 0, .int .u8 0, .int .u8 0, .int .u8 0, .int .u8 0, .int .u8 0, .int .u8 0] 30)).setCells w1.heap.size 0 DR.toList = w2 at hdv ⊢; clear HDV HTHR; have hlow2 := bstep hlow1 hdv.low; have HLF2 : Bx _ := ⟨(hdv.low.block w.heap.size hN1).trans HLF1.out⟩; clear HLF1)
          | (refine wpList_load_row rfl 30 (.tmp 7) rfl w.heap.size rfl 30 DL (0, 0) _ HLF2.out Tryd.underlying30 rfl HIL.out ?_))
        rw [HDL.out]
        refine (HI1.out _ hlow2).mono ?_
        rintro e w3 ⟨d', rfl, hd', hup', hb3⟩
        have hlow3 := bstep hlow2 hb3
        have hrR := (hb3.block w1.heap.size (Array.getElem?_eq_some_iff.1 hdv.row).1).trans hdv.row
        have hres3 : w3.heap[w.heap.size + 1]? = some (.cells cs 30 (0, 0)) := (hb3.block _ (by have := hdv.low.size; omega)).trans ((hdv.low.block _ hN2).trans hres1)
        obtain ⟨ok, hok⟩ : ∃ ok, ok = decide (S'.length = PT.length) := ⟨_, rfl⟩
        rw [← hok]
        have HOK : Bx (ok = decide (S'.length = PT.length)) := ⟨hok⟩
        have HUP : Bx (S'.length = PT.length → d' = upL x S'.reverse PT leaf) := ⟨hup'⟩
        clear hup' hok HI1 HIL HLF2
        obtain ⟨DD, hDD⟩ : ∃ DD, DD = (bv d').toArray := ⟨_, rfl⟩
        obtain ⟨hdv3, hth3, hinf3, hone3⟩ := dig_var w3 d' hd'.1 DD hDD
        have HTH3 : Bx _ := ⟨hth3⟩
        have HDV3 : Bx _ := ⟨hdv3⟩
        have HINF3 : Bx _ := ⟨hinf3⟩
        have HONE3 : Bx _ := ⟨hone3⟩
        have HRR : Bx (∀ W, Below w3.heap.size w3 W → W.heap[w1.heap.size]? = some (.cells DR 30 (0, 0))) := ⟨fun W hW => (hW.block _ (Array.getElem?_eq_some_iff.1 hrR).1).trans (by rw [hrR, HDR.out])⟩
        have HDD : Bx (DD = (bv d').toArray) := ⟨hDD⟩
        have HST3 : Bx (w.heap.size + 1 < w3.heap.size) := ⟨(Array.getElem?_eq_some_iff.1 hres3).1⟩
        rw [← hDD]
        clear hdv3 hth3 hinf3 hone3 hDD hrR hdv hb3
        go_wp2_with (first
          | (refine wpList_store_mid rfl 30 (.tmp 15) (.tmp 46) rfl w3.heap.size 0 DD rfl rfl ?ht HINF3.out HONE3.out ?_; (case ht => exact HTH3.out); have hdv4 := HDV3.out; generalize (w3.alloc (.cells #[.int .u8 0, .int .u8 0, .int .u8 0, .int .u8 0, .int .u8 0, .int .u8 0, .int .u8 0, .int .u8 0, .int .u8 0, .int .u8 0, .int .u8 0, .int .u8 0, .int .u8 0, .int .u8 0, .int .u8 0, .int .u8 0, .int .u8 0, .int .u8 0, .int .u8 0, .int .u8 0, .int .u8 0, .int .u8 0, .int .u8 0, .int .u8 0, .int .u8 0, .int .u8 0, .int .u8 0, .int .u8 0, .int .u8 0, .int .u8 0, .int .u8 0, .int .u8 0] 30)).setCells w3.heap.size 0 DD.toList = w4 at hdv4 ⊢; clear HDV3 HTH3; have HR4 : Bx _ := ⟨HRR.out w4 hdv4.low⟩; have HD4 : Bx (w4.heap[w3.heap.size]? = some (.cells DD 30 (0, 0))) := ⟨by rw [hdv4.row, HDD.out]⟩)
          | (refine wpList_load_row rfl 30 (.tmp 15) rfl w3.heap.size rfl 30 DD (0, 0) _ HD4.out Tryd.underlying30 rfl HINF3.out ?_)
          | (refine wpList_load_row rfl 30 (.tmp 14) rfl w1.heap.size rfl 30 DR (0, 0) _ HR4.out Tryd.underlying30 rfl HINF.out ?_))
        have hlow4 := bstep hlow3 hdv4.low
        have hres4 := (hdv4.low.block _ HST3.out).trans hres3
        have hs4 := Nat.lt_of_lt_of_le HST3.out hdv4.low.size
        rw [HDD.out, HDR.out]
        refine (node_any d' R x _ hd' hRd (htab.below hlow4)).mono ?_
        rintro e w5 ⟨rfl, hb5⟩
        have hlow5 := bstep hlow4 hb5
        have hres5 := (hb5.block _ hs4).trans hres4
        clear hlow3 hlow4 hb5 hres3 hres4 hdv4 HR4 HD4 HRR HINF3 HONE3 hlow2 hlow1 hs4
        have hZ := nodeL_dg d' R x
        have HE : Bx (decide ((stepsL n i).length = P.length) = ok ∧ ((stepsL n i).length = P.length → nodeL d' R x = upL x (stepsL n i).reverse P leaf)) := ⟨by
          rw [HOK.out, HSL.out, HPS.out, List.length_cons, List.length_append, List.length_singleton]
          refine ⟨by congr 1; rw [eq_iff_iff]; omega, fun h => ?_⟩
          have h' : S'.length = PT.length := by omega
          rw [List.reverse_cons, upL_snoc x false _ _ _ _ (by rw [List.length_reverse]; exact h'), ← HUP.out h']; rfl⟩
        generalize nodeL d' R x = Z at hZ HE ⊢
        obtain ⟨D, hD⟩ : ∃ D, (bv Z).toArray = D := ⟨_, rfl⟩
        obtain ⟨HTH, HI2, HO2, HST, HBS⟩ := res_end hres5 hcs hlow5 (by omega) hZ.1 D hD
        have HD : Bx (Ending.returned (.tuple #[.agg D, .bool ok]) = .returned (.tuple #[.agg (bv Z).toArray, .bool (decide ((stepsL n i).length = P.length))])) := ⟨by rw [hD, HE.out.1]⟩
        rw [hD]
        clear hD hres5 hlow5 hcs
        go_wp2_with (refine wpList_store_mid rfl 30 (.tmp 10) (.tmp 51) rfl (w.heap.size + 1) 0 D rfl rfl ?ht HI2.out HO2.out ?_; (case ht => exact HTH.out))
        exact bodyPost_ret (v := .tuple #[.agg D, .bool ok]) (results_ct rfl _ _ (w.heap.size + 1) D _ rfl rfl HST.out HI2.out) rfl ⟨Z, HD.out, hZ, HE.out.2, HBS.out⟩
      · obtain ⟨S', hS'⟩ : ∃ S', S' = stepsL (n - splitN n) (i - splitN n) := ⟨_, rfl⟩
        have HSL : Bx (stepsL n i = true :: S') := ⟨by rw [hS']; exact stepsL_right (by omega) hik⟩
        have HI2 : Bx (∀ W, Below w.heap.size w W → Calls Tryd.prog 58 #[.int .i64 ((n : Int) - (splitN n : Int)), .int .i64 ((i : Int) - (splitN n : Int)), .agg (bv leaf).toArray, .slice a (len - 1) cap, .int .i64 x] W fun e w' => ∃ d, e = .returned (.tuple #[.agg (bv d).toArray, .bool (decide (S'.length = (P.take (len - 1)).length))]) ∧ Dg d ∧ (S'.length = (P.take (len - 1)).length → d = upL x S'.reverse (P.take (len - 1)) leaf) ∧ Below W.heap.size W w') :=
          ⟨fun W hW => by
            have h := ih (n - splitN n) (by omega) (i - splitN n) leaf a (len - 1) cap (P.take (len - 1)) x W (by omega) (by omega) (by omega) hleaf ((hP.below hW).take _ (by omega)) (htab.below hW)
            rw [show ((i - splitN n : Nat) : Int) = (i : Int) - (splitN n : Int) from by omega, show ((n - splitN n : Nat) : Int) = (n : Int) - (splitN n : Int) from by omega, ← hS'] at h
            exact h⟩
        have hki : ¬ (i : Int) < (splitN n : Int) := by omega
        have hsb1 : IntKind.i64.wrap ((n : Int) - (splitN n : Int)) = (n : Int) - (splitN n : Int) := IntWalk.i64_in _ (by omega)
        have hsb2 : IntKind.i64.wrap ((i : Int) - (splitN n : Int)) = (i : Int) - (splitN n : Int) := IntWalk.i64_in _ (by omega)
        clear hS' ih hP
        generalize splitN n = k at hk1 hk2 HSP HI2 hki hsb1 hsb2
        generalize P.take (len - 1) = PT at HPS HI2
        go_enter Tryd.func58, Tryd.ntmps58
        go_wp2_with fail
        have hb0 := HB0.out
        have hlf0 := HLF0.out
        have hres0 := HRS0.out
        have hs0 := HSZ0.out
        clear HB0 HLF0 HRS0 HSZ0
        generalize (w.alloc (.cells DL 30)).alloc (.cells #[.int .u8 0, .int .u8 0, .int .u8 0, .int .u8 0, .int .u8 0, .int .u8 0, .int .u8 0, .int .u8 0, .int .u8 0, .int .u8 0, .int .u8 0, .int .u8 0, .int .u8 0, .int .u8 0, .int .u8 0, .int .u8 0, .int .u8 0, .int .u8 0, .int .u8 0, .int .u8 0, .int .u8 0, .int .u8 0, .int .u8 0, .int .u8 0, .int .u8 0, .int .u8 0, .int .u8 0, .int .u8 0, .int .u8 0, .int .u8 0, .int .u8 0, .int .u8 0] 30) = w0 at hb0 hlf0 hres0 hs0 ⊢
        refine (HSP.out _).mono ?_
        rintro e w' ⟨rfl, rfl⟩
        go_wp2_with fail
        refine (HCL.out _ hb0).mono ?_
        rintro e w1 ⟨rfl, hb1⟩
        have hlow1 := bstep hb0 hb1
        have hz1 := hb1.size
        have hN1 : w.heap.size < w1.heap.size := by omega
        have hN2 : w.heap.size + 1 < w1.heap.size := by omega
        have HLF1 : Bx _ := ⟨(hb1.block w.heap.size (by omega)).trans hlf0⟩
        have hres1 := (hb1.block (w.heap.size + 1) (by omega)).trans hres0
        obtain ⟨DR, hDR⟩ : ∃ DR, DR = (bv R).toArray := ⟨_, rfl⟩
        obtain ⟨hdv, hth, hinf, hone⟩ := dig_var w1 R hRd.1 DR hDR
        have HTHR : Bx _ := ⟨hth⟩
        have HDV : Bx _ := ⟨hdv⟩
        have HINF : Bx _ := ⟨hinf⟩
        have HONE : Bx _ := ⟨hone⟩
        have HDR : Bx (DR = (bv R).toArray) := ⟨hDR⟩
        rw [← hDR]
        clear hdv hth hinf hone hDR HSP HCL hb0 hlf0 hres0 hs0 hb1 hz1
        go_wp2_with (first
          | (refine wpList_store_mid rfl 30 (.tmp 14) (.tmp 35) rfl w1.heap.size 0 DR rfl rfl ?ht HINF.out HONE.out ?_; (case ht => exact HTHR.out); have hdv := HDV.out; generalize (w1.alloc (.cells #[.int .u8 0, .int .u8 0, .int .u8 0, .int .u8 0, .int .u8 0, .int .u8 0, .int .u8 0, .int .u8 0, .int .u8 0, .int .u8 0, .int .u8 0, .int .u8 0, .int .u8 0, .int .u8 0, .int .u8 0, .int .u8 0, .int .u8 0, .int .u8 0, .int .u8 0, .int .u8 0, .int .u8 0, .int .u8 0, .int .u8 0, .int .u8 0, .int .u8 0, .int .u8 0, .int .u8 0, .int .u8 0, .int .u8 0, .int .u8 0, .int .u8 0, .int .u8 0] 30)).setCells w1.heap.size 0 DR.toList = w2 at hdv ⊢; clear HDV HTHR; have hlow2 := bstep hlow1 hdv.low; have HLF2 : Bx _ := ⟨(hdv.low.block w.heap.size hN1).trans HLF1.out⟩; clear HLF1)
          | (refine wpList_load_row rfl 30 (.tmp 7) rfl w.heap.size rfl 30 DL (0, 0) _ HLF2.out Tryd.underlying30 rfl HIL.out ?_))
        rw [HDL.out]
        refine (HI2.out _ hlow2).mono ?_
        rintro e w3 ⟨d', rfl, hd', hup', hb3⟩
        have hlow3 := bstep hlow2 hb3
        have hrR := (hb3.block w1.heap.size (Array.getElem?_eq_some_iff.1 hdv.row).1).trans hdv.row
        have hres3 : w3.heap[w.heap.size + 1]? = some (.cells cs 30 (0, 0)) := (hb3.block _ (by have := hdv.low.size; omega)).trans ((hdv.low.block _ hN2).trans hres1)
        obtain ⟨ok, hok⟩ : ∃ ok, ok = decide (S'.length = PT.length) := ⟨_, rfl⟩
        rw [← hok]
        have HOK : Bx (ok = decide (S'.length = PT.length)) := ⟨hok⟩
        have HUP : Bx (S'.length = PT.length → d' = upL x S'.reverse PT leaf) := ⟨hup'⟩
        clear hup' hok HI2 HIL HLF2
        obtain ⟨DD, hDD⟩ : ∃ DD, DD = (bv d').toArray := ⟨_, rfl⟩
        obtain ⟨hdv3, hth3, hinf3, hone3⟩ := dig_var w3 d' hd'.1 DD hDD
        have HTH3 : Bx _ := ⟨hth3⟩
        have HDV3 : Bx _ := ⟨hdv3⟩
        have HINF3 : Bx _ := ⟨hinf3⟩
        have HONE3 : Bx _ := ⟨hone3⟩
        have HRR : Bx (∀ W, Below w3.heap.size w3 W → W.heap[w1.heap.size]? = some (.cells DR 30 (0, 0))) := ⟨fun W hW => (hW.block _ (Array.getElem?_eq_some_iff.1 hrR).1).trans (by rw [hrR, HDR.out])⟩
        have HDD : Bx (DD = (bv d').toArray) := ⟨hDD⟩
        have HST3 : Bx (w.heap.size + 1 < w3.heap.size) := ⟨(Array.getElem?_eq_some_iff.1 hres3).1⟩
        rw [← hDD]
        clear hdv3 hth3 hinf3 hone3 hDD hrR hdv hb3
        go_wp2_with (first
          | (refine wpList_store_mid rfl 30 (.tmp 17) (.tmp 64) rfl w3.heap.size 0 DD rfl rfl ?ht HINF3.out HONE3.out ?_; (case ht => exact HTH3.out); have hdv4 := HDV3.out; generalize (w3.alloc (.cells #[.int .u8 0, .int .u8 0, .int .u8 0, .int .u8 0, .int .u8 0, .int .u8 0, .int .u8 0, .int .u8 0, .int .u8 0, .int .u8 0, .int .u8 0, .int .u8 0, .int .u8 0, .int .u8 0, .int .u8 0, .int .u8 0, .int .u8 0, .int .u8 0, .int .u8 0, .int .u8 0, .int .u8 0, .int .u8 0, .int .u8 0, .int .u8 0, .int .u8 0, .int .u8 0, .int .u8 0, .int .u8 0, .int .u8 0, .int .u8 0, .int .u8 0, .int .u8 0] 30)).setCells w3.heap.size 0 DD.toList = w4 at hdv4 ⊢; clear HDV3 HTH3; have HR4 : Bx _ := ⟨HRR.out w4 hdv4.low⟩; have HD4 : Bx (w4.heap[w3.heap.size]? = some (.cells DD 30 (0, 0))) := ⟨by rw [hdv4.row, HDD.out]⟩)
          | (refine wpList_load_row rfl 30 (.tmp 14) rfl w1.heap.size rfl 30 DR (0, 0) _ HR4.out Tryd.underlying30 rfl HINF.out ?_)
          | (refine wpList_load_row rfl 30 (.tmp 17) rfl w3.heap.size rfl 30 DD (0, 0) _ HD4.out Tryd.underlying30 rfl HINF3.out ?_))
        have hlow4 := bstep hlow3 hdv4.low
        have hres4 := (hdv4.low.block _ HST3.out).trans hres3
        have hs4 := Nat.lt_of_lt_of_le HST3.out hdv4.low.size
        rw [HDD.out, HDR.out]
        refine (node_any R d' x _ hRd hd' (htab.below hlow4)).mono ?_
        rintro e w5 ⟨rfl, hb5⟩
        have hlow5 := bstep hlow4 hb5
        have hres5 := (hb5.block _ hs4).trans hres4
        clear hlow3 hlow4 hb5 hres3 hres4 hdv4 HR4 HD4 HRR HINF3 HONE3 hlow2 hlow1 hs4
        have hZ := nodeL_dg R d' x
        have HE : Bx (decide ((stepsL n i).length = P.length) = ok ∧ ((stepsL n i).length = P.length → nodeL R d' x = upL x (stepsL n i).reverse P leaf)) := ⟨by
          rw [HOK.out, HSL.out, HPS.out, List.length_cons, List.length_append, List.length_singleton]
          refine ⟨by congr 1; rw [eq_iff_iff]; omega, fun h => ?_⟩
          have h' : S'.length = PT.length := by omega
          rw [List.reverse_cons, upL_snoc x true _ _ _ _ (by rw [List.length_reverse]; exact h'), ← HUP.out h']; rfl⟩
        generalize nodeL R d' x = Z at hZ HE ⊢
        obtain ⟨D, hD⟩ : ∃ D, (bv Z).toArray = D := ⟨_, rfl⟩
        obtain ⟨HTH, HI2, HO2, HST, HBS⟩ := res_end hres5 hcs hlow5 (by omega) hZ.1 D hD
        have HD : Bx (Ending.returned (.tuple #[.agg D, .bool ok]) = .returned (.tuple #[.agg (bv Z).toArray, .bool (decide ((stepsL n i).length = P.length))])) := ⟨by rw [hD, HE.out.1]⟩
        rw [hD]
        clear hD hres5 hlow5 hcs
        go_wp2_with (refine wpList_store_mid rfl 30 (.tmp 10) (.tmp 69) rfl (w.heap.size + 1) 0 D rfl rfl ?ht HI2.out HO2.out ?_; (case ht => exact HTH.out))
        exact bodyPost_ret (v := .tuple #[.agg D, .bool ok]) (results_ct rfl _ _ (w.heap.size + 1) D _ rfl rfl HST.out HI2.out) rfl ⟨Z, HD.out, hZ, HE.out.2, HBS.out⟩

set_option maxRecDepth 100000 in
set_option maxHeartbeats 1000000 in
theorem checkpath_any (root : List Int) (n i : Int) (leaf : List Int) (a : Option Addr) (len cap : Nat) (P : List (List Int)) (x : Int) (w : World) (hr : Dg root) (hleaf : Dg leaf) (hn : n ≤ 9223372036854775807) (hP : Dgs w a len cap P) (htab : Tab w) :
    Calls Tryd.prog 32 #[.agg (bv root).toArray, .int .i64 n, .int .i64 i, .agg (bv leaf).toArray, .slice a len cap, .int .i64 x] w fun e w' => e = .returned (.bool (chkP root n i leaf P x)) ∧ Below w.heap.size w w' := by
  have hb0 : Below w.heap.size w ((w.alloc (.cells (bv root).toArray 30)).alloc (.cells (bv leaf).toArray 30)) := ((Below.refl _ _).alloc (Nat.le_refl _) _).alloc (by simp) _
  have hrt0 : ((w.alloc (.cells (bv root).toArray 30)).alloc (.cells (bv leaf).toArray 30)).heap[w.heap.size]? = some (.cells (bv root).toArray 30 (0, 0)) := by rw [heap_alloc_old _ _ (by simp), heap_alloc_new]
  have hlf0 : ((w.alloc (.cells (bv root).toArray 30)).alloc (.cells (bv leaf).toArray 30)).heap[w.heap.size + 1]? = some (.cells (bv leaf).toArray 30 (0, 0)) := by rw [show w.heap.size + 1 = (w.alloc (.cells (bv root).toArray 30)).heap.size from by simp, heap_alloc_new]
  by_cases hin : 0 ≤ i ∧ i < n
  · obtain ⟨j, rfl⟩ : ∃ j : Nat, i = (j : Int) := ⟨i.toNat, by omega⟩
    obtain ⟨m, rfl⟩ : ∃ m : Nat, n = (m : Int) := ⟨n.toNat, by omega⟩
    have h1 : decide ((j : Int) < 0) = false := by simp
    have h2 : decide (m ≤ j) = false := by simp; omega
    have HCH : Bx (chkP root (m : Int) (j : Int) leaf P x = (decide ((stepsL m j).length = P.length) && decide (upL x (stepsL m j).reverse P leaf = root))) := ⟨by
      unfold chkP
      rw [show ((m : Int)).toNat = m from by omega, show ((j : Int)).toNat = j from by omega, decide_eq_true hin, Bool.true_and]⟩
    have HRK : Bx (∀ W, Below w.heap.size w W → Calls Tryd.prog 58 #[.int .i64 m, .int .i64 j, .agg (bv leaf).toArray, .slice a len cap, .int .i64 x] W fun e w' => ∃ d, e = .returned (.tuple #[.agg (bv d).toArray, .bool (decide ((stepsL m j).length = P.length))]) ∧ Dg d ∧ ((stepsL m j).length = P.length → d = upL x (stepsL m j).reverse P leaf) ∧ Below W.heap.size W w') :=
      ⟨fun W hW => reckonp_any m j leaf a len cap P x W (by omega) (by omega) (by omega) hleaf (hP.below hW) (htab.below hW)⟩
    have HIL : Bx ((Tryd.prog.info? 30).map (·.size) = some (bv leaf).toArray.size) := ⟨by rw [List.size_toArray, bv_length, hleaf.1]; exact dig_info⟩
    have HIR : Bx ((Tryd.prog.info? 30).map (·.size) = some (bv root).toArray.size) := ⟨by rw [List.size_toArray, bv_length, hr.1]; exact dig_info⟩
    rw [HCH.out]
    have hs0 : ((w.alloc (.cells (bv root).toArray 30)).alloc (.cells (bv leaf).toArray 30)).heap.size = w.heap.size + 1 + 1 := by simp
    have HB0 : Bx _ := ⟨hb0⟩
    have HLF0 : Bx _ := ⟨hlf0⟩
    have HRT0 : Bx _ := ⟨hrt0⟩
    have HSZ0 : Bx _ := ⟨hs0⟩
    clear hb0 hlf0 hrt0 hs0 hP htab HCH
    go_enter Tryd.func32, Tryd.ntmps32
    go_wp2_with (refine wpList_load_row rfl 30 (.tmp 9) rfl (w.heap.size + 1) rfl 30 (bv leaf).toArray (0, 0) _ HLF0.out Tryd.underlying30 rfl HIL.out ?_)
    have hb0 := HB0.out
    have hrt0 := HRT0.out
    have hs0 := HSZ0.out
    clear HB0 HLF0 HRT0 HSZ0
    generalize (w.alloc (.cells (bv root).toArray 30)).alloc (.cells (bv leaf).toArray 30) = w0 at hb0 hrt0 hs0 ⊢
    refine (HRK.out _ hb0).mono ?_
    rintro e w1 ⟨d, rfl, hd, hup, hb1⟩
    have hlow1 := bstep hb0 hb1
    have hrt1 := (hb1.block w.heap.size (by omega)).trans hrt0
    have hN1 : w.heap.size < w1.heap.size := by have := hb1.size; omega
    obtain ⟨ok, hok⟩ : ∃ ok, ok = decide ((stepsL m j).length = P.length) := ⟨_, rfl⟩
    have HUP : Bx (ok = true → d = upL x (stepsL m j).reverse P leaf) := ⟨fun h => hup (of_decide_eq_true (hok ▸ h))⟩
    have HOK : Bx (ok = decide ((stepsL m j).length = P.length)) := ⟨hok⟩
    rw [← hok]
    clear hup hok HRK HIL hb0 hb1 hrt0 hs0
    have hcmp := dig_cmp d root hd.1 hr.1
    obtain ⟨DD, hDD⟩ : ∃ DD, DD = (bv d).toArray := ⟨_, rfl⟩
    obtain ⟨DT, hDT⟩ : ∃ DT, DT = (bv root).toArray := ⟨_, rfl⟩
    obtain ⟨hdv, hth, hinf, hone⟩ := dig_var w1 d hd.1 DD hDD
    have HTH : Bx _ := ⟨hth⟩
    have HDV : Bx _ := ⟨hdv⟩
    have HINF : Bx _ := ⟨hinf⟩
    have HONE : Bx _ := ⟨hone⟩
    have HDD : Bx (DD = (bv d).toArray) := ⟨hDD⟩
    rw [← hDD, ← hDT] at hcmp
    rw [← hDT] at hrt1 HIR
    rw [← hDD, ← hDT]
    clear hdv hth hinf hone hDD hDT
    cases ok with
    | true =>
      have HU : Bx (decide (d = root) = (decide ((stepsL m j).length = P.length) && decide (upL x (stepsL m j).reverse P leaf = root))) := ⟨by rw [← HOK.out, HUP.out rfl, Bool.true_and]⟩
      generalize decide (d = root) = q at hcmp HU
      go_wp2_with (first
        | (refine wpList_store_mid rfl 30 (.tmp 13) (.tmp 29) rfl w1.heap.size 0 DD rfl rfl ?ht HINF.out HONE.out ?_; (case ht => exact HTH.out); have hdv2 := HDV.out; generalize (w1.alloc (.cells #[.int .u8 0, .int .u8 0, .int .u8 0, .int .u8 0, .int .u8 0, .int .u8 0, .int .u8 0, .int .u8 0, .int .u8 0, .int .u8 0, .int .u8 0, .int .u8 0, .int .u8 0, .int .u8 0, .int .u8 0, .int .u8 0, .int .u8 0, .int .u8 0, .int .u8 0, .int .u8 0, .int .u8 0, .int .u8 0, .int .u8 0, .int .u8 0, .int .u8 0, .int .u8 0, .int .u8 0, .int .u8 0, .int .u8 0, .int .u8 0, .int .u8 0, .int .u8 0] 30)).setCells w1.heap.size 0 DD.toList = w2 at hdv2 ⊢; clear HDV HTH; have HR2 : Bx _ := ⟨(hdv2.low.block w.heap.size hN1).trans hrt1⟩; have HD2 : Bx (w2.heap[w1.heap.size]? = some (.cells DD 30 (0, 0))) := ⟨by rw [hdv2.row, HDD.out]⟩)
        | (refine wpList_load_guarded (b := w1.heap.size) (D := DD) rfl (.tmp 13) rfl rfl HD2.out HINF.out ?_)
        | (refine wpList_load_guarded (b := w.heap.size) (D := DT) rfl (.tmp 6) rfl rfl HR2.out HIR.out ?_))
      go_ret
      exact ⟨ret_bool HU.out, bstep hlow1 hdv2.low⟩
    | false =>
      have HU : Bx (false = (decide ((stepsL m j).length = P.length) && decide (upL x (stepsL m j).reverse P leaf = root))) := ⟨by rw [← HOK.out, Bool.false_and]⟩
      go_wp2_with (first
        | (refine wpList_store_mid rfl 30 (.tmp 13) (.tmp 29) rfl w1.heap.size 0 DD rfl rfl ?ht HINF.out HONE.out ?_; (case ht => exact HTH.out); have hdv2 := HDV.out; generalize (w1.alloc (.cells #[.int .u8 0, .int .u8 0, .int .u8 0, .int .u8 0, .int .u8 0, .int .u8 0, .int .u8 0, .int .u8 0, .int .u8 0, .int .u8 0, .int .u8 0, .int .u8 0, .int .u8 0, .int .u8 0, .int .u8 0, .int .u8 0, .int .u8 0, .int .u8 0, .int .u8 0, .int .u8 0, .int .u8 0, .int .u8 0, .int .u8 0, .int .u8 0, .int .u8 0, .int .u8 0, .int .u8 0, .int .u8 0, .int .u8 0, .int .u8 0, .int .u8 0, .int .u8 0] 30)).setCells w1.heap.size 0 DD.toList = w2 at hdv2 ⊢; clear HDV HTH))
      go_ret
      exact ⟨ret_bool HU.out, bstep hlow1 hdv2.low⟩
  · have HCH : Bx (chkP root n i leaf P x = false) := ⟨by unfold chkP; rw [decide_eq_false hin, Bool.false_and]⟩
    rw [HCH.out]
    clear hrt0 hlf0 HCH hP htab
    by_cases h0 : i < 0
    · have h1 : decide (i < 0) = true := by simpa using h0
      clear hin
      go_enter Tryd.func32, Tryd.ntmps32
      go_wp2
      go_ret
      exact ⟨rfl, hb0⟩
    · have h1 : decide (i < 0) = false := by simpa using h0
      have h2 : decide (i ≥ n) = true := by simp; omega
      clear hin
      go_enter Tryd.func32, Tryd.ntmps32
      go_wp2
      go_ret
      exact ⟨rfl, hb0⟩
end Go.Proofs.YtbednfacipphhaaDoor
