/- What reckonPath and CheckPath answer. What Path answers: digests in memory of its own. What merkle's Path answers. What merkle's Growth answers: digests in memory of its own. -/
import Derived.Test.YtbednfacipphhaaDoorRoot
import Derived.Test.YtbednfacipphhaaDoorCutLast
import Derived.Test.YtbednfacipphhaaDoorAuaw
import Derived.Test.YtbednfacipphhaaDoorAuaj
namespace Go.Proofs.YtbednfacipphhaaDoor
open Go.RowKit
set_option linter.unusedVariables false

/-- the digest of noughts -/
def z0 : List Int := List.replicate 32 0
set_option maxRecDepth 100000 in
theorem z0_dg : Dg z0 := ⟨by simp [z0], by intro c hc; rw [List.eq_of_mem_replicate hc]; decide⟩
set_option maxRecDepth 100000 in
theorem z0_eval : Value.agg #[.int .u8 0, .int .u8 0, .int .u8 0, .int .u8 0, .int .u8 0, .int .u8 0, .int .u8 0, .int .u8 0, .int .u8 0, .int .u8 0, .int .u8 0, .int .u8 0, .int .u8 0, .int .u8 0, .int .u8 0, .int .u8 0, .int .u8 0, .int .u8 0, .int .u8 0, .int .u8 0, .int .u8 0, .int .u8 0, .int .u8 0, .int .u8 0, .int .u8 0, .int .u8 0, .int .u8 0, .int .u8 0, .int .u8 0, .int .u8 0, .int .u8 0, .int .u8 0] = .agg (bv z0).toArray := rfl

set_option maxRecDepth 100000 in
set_option maxHeartbeats 2000000 in
theorem reckonp_any (n : Nat) : ∀ (i : Nat) (leaf : List Int) (a : Option Addr) (len cap : Nat) (P : List (List Int)) (x : Int) (w : World), 1 ≤ n → n ≤ 9223372036854775807 → i < n → Dg leaf → Dgs w a len cap P → Tab w →
    Calls Tryd.prog 58 #[.int .i64 n, .int .i64 i, .agg (bv leaf).toArray, .slice a len cap, .int .i64 x] w fun e w' => ∃ d, e = .returned (.tuple #[.agg (bv d).toArray, .bool (decide ((stepsL n i).length = P.length))]) ∧ Dg d ∧ ((stepsL n i).length = P.length → d = upL x (stepsL n i).reverse P leaf) ∧ Below w.heap.size w w' := by
  induction n using Nat.strongRecOn with
  | ind n ih =>
  intro i leaf a len cap P x w hn hn63 hi hleaf hP htab
  have hlen := hP.len_eq
  have hb0 : Below w.heap.size w ((w.alloc (.cells (bv leaf).toArray 30)).alloc (.cells #[.int .u8 0, .int .u8 0, .int .u8 0, .int .u8 0, .int .u8 0, .int .u8 0, .int .u8 0, .int .u8 0, .int .u8 0, .int .u8 0, .int .u8 0, .int .u8 0, .int .u8 0, .int .u8 0, .int .u8 0, .int .u8 0, .int .u8 0, .int .u8 0, .int .u8 0, .int .u8 0, .int .u8 0, .int .u8 0, .int .u8 0, .int .u8 0, .int .u8 0, .int .u8 0, .int .u8 0, .int .u8 0, .int .u8 0, .int .u8 0, .int .u8 0, .int .u8 0] 30)) := ((Below.refl _ _).alloc (Nat.le_refl _) _).alloc (by simp) _
  have hlf0 : ((w.alloc (.cells (bv leaf).toArray 30)).alloc (.cells #[.int .u8 0, .int .u8 0, .int .u8 0, .int .u8 0, .int .u8 0, .int .u8 0, .int .u8 0, .int .u8 0, .int .u8 0, .int .u8 0, .int .u8 0, .int .u8 0, .int .u8 0, .int .u8 0, .int .u8 0, .int .u8 0, .int .u8 0, .int .u8 0, .int .u8 0, .int .u8 0, .int .u8 0, .int .u8 0, .int .u8 0, .int .u8 0, .int .u8 0, .int .u8 0, .int .u8 0, .int .u8 0, .int .u8 0, .int .u8 0, .int .u8 0, .int .u8 0] 30)).heap[w.heap.size]? = some (.cells (bv leaf).toArray 30 (0, 0)) := by rw [heap_alloc_old _ _ (by simp), heap_alloc_new]
  obtain ⟨cs, hcs, hres0⟩ : ∃ cs : Array Value, cs.size = 32 ∧ ((w.alloc (.cells (bv leaf).toArray 30)).alloc (.cells #[.int .u8 0, .int .u8 0, .int .u8 0, .int .u8 0, .int .u8 0, .int .u8 0, .int .u8 0, .int .u8 0, .int .u8 0, .int .u8 0, .int .u8 0, .int .u8 0, .int .u8 0, .int .u8 0, .int .u8 0, .int .u8 0, .int .u8 0, .int .u8 0, .int .u8 0, .int .u8 0, .int .u8 0, .int .u8 0, .int .u8 0, .int .u8 0, .int .u8 0, .int .u8 0, .int .u8 0, .int .u8 0, .int .u8 0, .int .u8 0, .int .u8 0, .int .u8 0] 30)).heap[w.heap.size + 1]? = some (.cells cs 30 (0, 0)) := ⟨#[.int .u8 0, .int .u8 0, .int .u8 0, .int .u8 0, .int .u8 0, .int .u8 0, .int .u8 0, .int .u8 0, .int .u8 0, .int .u8 0, .int .u8 0, .int .u8 0, .int .u8 0, .int .u8 0, .int .u8 0, .int .u8 0, .int .u8 0, .int .u8 0, .int .u8 0, .int .u8 0, .int .u8 0, .int .u8 0, .int .u8 0, .int .u8 0, .int .u8 0, .int .u8 0, .int .u8 0, .int .u8 0, .int .u8 0, .int .u8 0, .int .u8 0, .int .u8 0], rfl, by rw [show w.heap.size + 1 = (w.alloc (.cells (bv leaf).toArray 30)).heap.size from by simp, heap_alloc_new]⟩
  have hs0 : ((w.alloc (.cells (bv leaf).toArray 30)).alloc (.cells #[.int .u8 0, .int .u8 0, .int .u8 0, .int .u8 0, .int .u8 0, .int .u8 0, .int .u8 0, .int .u8 0, .int .u8 0, .int .u8 0, .int .u8 0, .int .u8 0, .int .u8 0, .int .u8 0, .int .u8 0, .int .u8 0, .int .u8 0, .int .u8 0, .int .u8 0, .int .u8 0, .int .u8 0, .int .u8 0, .int .u8 0, .int .u8 0, .int .u8 0, .int .u8 0, .int .u8 0, .int .u8 0, .int .u8 0, .int .u8 0, .int .u8 0, .int .u8 0] 30)).heap.size = w.heap.size + 1 + 1 := by simp
  have hil : (Tryd.prog.info? 30).map (·.size) = some (bv leaf).toArray.size := by rw [List.size_toArray, bv_length, hleaf.1]; exact dig_info
  by_cases h1 : n = 1
  · have e1 : ((n : Int) == 1) = true := by simp; omega
    have HS : Bx (stepsL n i = []) := ⟨stepsL_one i (by omega)⟩
    obtain ⟨ok, hok, hokn⟩ : ∃ ok, ((len : Int) == 0) = ok ∧ ok = decide ((stepsL n i).length = P.length) := ⟨_, rfl, by
      rw [HS.out, hlen]
      by_cases h : len = 0
      · subst h; rfl
      · rw [show ((len : Int) == 0) = false by simp; omega, decide_eq_false (by simp; omega)]⟩
    have HOK : Bx (ok = decide ((stepsL n i).length = P.length)) := ⟨hokn⟩
    obtain ⟨D, hD⟩ : ∃ D, (bv leaf).toArray = D := ⟨_, rfl⟩
    rw [hD] at hlf0 hres0 hb0 hil
    obtain ⟨HTH, HI2, HO2, HST, HBS⟩ := res_end hres0 hcs hb0 (Nat.le_succ _) hleaf.1 D hD
    have HLF : Bx _ := ⟨hlf0⟩
    have HIL : Bx _ := ⟨hil⟩
    have HD : Bx (Ending.returned (.tuple #[.agg D, .bool ok]) = .returned (.tuple #[.agg (bv leaf).toArray, .bool (decide ((stepsL n i).length = P.length))])) := ⟨by rw [hD, hokn]⟩
    rw [hD]
    clear hlf0 hres0 hb0 hs0 hil ih hP hlen hokn hcs h1
    go_enter Tryd.func58, Tryd.ntmps58
    go_wp2_with (first
      | (refine wpList_load_row rfl 30 (.tmp 7) rfl w.heap.size rfl 30 D (0, 0) _ HLF.out Tryd.underlying30 rfl HIL.out ?_)
      | (refine wpList_store_mid rfl 30 (.tmp 10) (.tmp 21) rfl (w.heap.size + 1) 0 D rfl rfl ?ht HI2.out HO2.out ?_; (case ht => exact HTH.out)))
    exact bodyPost_ret (v := .tuple #[.agg D, .bool ok]) (results_ct rfl _ _ (w.heap.size + 1) D _ rfl rfl HST.out HI2.out) rfl ⟨leaf, HD.out, hleaf, fun h => by rw [HS.out]; exact (upL_nil x P leaf).symm, HBS.out⟩
  · have e1 : ((n : Int) == 1) = false := by simp; omega
    by_cases h0 : len = 0
    · have e0 : ((len : Int) == 0) = true := by simp; omega
      have HNO : Bx (decide ((stepsL n i).length = P.length) = false) := ⟨by have := stepsL_pos i (show 2 ≤ n by omega); rw [hlen, h0, decide_eq_false (by omega)]⟩
      obtain ⟨HTH, HI2, HO2, HST, HBS⟩ := res_end (Z := z0) hres0 hcs hb0 (Nat.le_succ _) z0_dg.1 (bv z0).toArray rfl
      rw [HNO.out]
      have HNE : Bx ((stepsL n i).length = P.length → False) := ⟨fun h => by have := of_decide_eq_false HNO.out; exact this h⟩
      clear hlf0 hres0 hb0 hs0 hil ih hP hlen hcs h1 HNO
      go_enter Tryd.func58, Tryd.ntmps58
      go_wp2_with (refine wpList_store_mid rfl 30 (.tmp 10) (.tmp 28) rfl (w.heap.size + 1) 0 (bv z0).toArray rfl z0_eval ?ht HI2.out HO2.out ?_; (case ht => exact HTH.out))
      exact bodyPost_ret (v := .tuple #[.agg (bv z0).toArray, .bool false]) (results_ct rfl _ _ (w.heap.size + 1) (bv z0).toArray _ rfl rfl HST.out HI2.out) rfl ⟨z0, rfl, z0_dg, fun h => (HNE.out h).elim, HBS.out⟩
    · have e0 : ((len : Int) == 0) = false := by simp; omega
      have hk1 := splitN_pos (n := n) (by omega)
      have hk2 := splitN_lt (n := n) (by omega)
      have HPS : Bx (P = P.take (len - 1) ++ [P.getD (len - 1) []]) := ⟨last_split P len hlen (by omega)⟩
      have hRd := hP.dig.getD (len - 1) (by omega)
      have HSP : Bx (∀ W, Calls Tryd.prog 84 #[.int .i64 (n : Int)] W fun e w' => e = .returned (.int .i64 (splitN n : Int)) ∧ W = w') := ⟨fun W => split_any (n : Int) W (by omega)⟩
      have HCL : Bx (∀ W, Below w.heap.size w W → Calls Tryd.prog 85 #[.slice a len cap] W fun e w' => e = .returned (.tuple #[.slice a (len - 1) cap, .agg (bv (P.getD (len - 1) [])).toArray]) ∧ Below W.heap.size W w') := ⟨fun W hW => cutlast_any a len cap P W (hP.below hW) (by omega)⟩
      generalize hRR : P.getD (len - 1) [] = R at HPS hRd HCL
      clear hRR
      have HDL : Bx ((bv leaf).toArray = (bv leaf).toArray) := ⟨rfl⟩
      generalize hDL : (bv leaf).toArray = DL at hlf0 hres0 hb0 hil hs0 HDL ⊢
      replace HDL : Bx (DL = (bv leaf).toArray) := ⟨hDL.symm⟩
      have HIL : Bx _ := ⟨hil⟩
      have HB0 : Bx _ := ⟨hb0⟩
      have HLF0 : Bx _ := ⟨hlf0⟩
      have HRS0 : Bx _ := ⟨hres0⟩
      have HSZ0 : Bx _ := ⟨hs0⟩
      clear hb0 hlf0 hres0 hs0 hil hDL
      by_cases hik : i < splitN n
      · obtain ⟨S', hS'⟩ : ∃ S', S' = stepsL (splitN n) i := ⟨_, rfl⟩
        have HSL : Bx (stepsL n i = false :: S') := ⟨by rw [hS']; exact stepsL_left (by omega) hik⟩
        have HI1 : Bx (∀ W, Below w.heap.size w W → Calls Tryd.prog 58 #[.int .i64 (splitN n : Int), .int .i64 i, .agg (bv leaf).toArray, .slice a (len - 1) cap, .int .i64 x] W fun e w' => ∃ d, e = .returned (.tuple #[.agg (bv d).toArray, .bool (decide (S'.length = (P.take (len - 1)).length))]) ∧ Dg d ∧ (S'.length = (P.take (len - 1)).length → d = upL x S'.reverse (P.take (len - 1)) leaf) ∧ Below W.heap.size W w') :=
          ⟨fun W hW => by rw [hS']; exact ih (splitN n) hk2 i leaf a (len - 1) cap (P.take (len - 1)) x W hk1 (by omega) hik hleaf ((hP.below hW).take _ (by omega)) (htab.below hW)⟩
        have hki : (i : Int) < (splitN n : Int) := by omega
        clear hS' ih hP
        generalize splitN n = k at hk1 hk2 HSP HI1 hki
        generalize P.take (len - 1) = PT at HPS HI1
        go_enter Tryd.func58, Tryd.ntmps58
        go_wp2_with fail
        have hb0 := HB0.out
        have hlf0 := HLF0.out
        have hres0 := HRS0.out
        have hs0 := HSZ0.out
        clear HB0 HLF0 HRS0 HSZ0
        generalize (w.alloc (.cells DL 30)).alloc (.cells #[.int .u8 0, .int .u8 0, .int .u8 0, .int .u8 0, .int .u8 0, .int .u8 0, .int .u8 0, .int .u8 0, .int .u8 0, .int .u8 0, .int .u8 0, .int .u8 0, .int .u8 0, .int .u8 0, .int .u8 0, .int .u8 0, .int .u8 0, .int .u8 0, .int .u8 0, .int .u8 0, .int .u8 0, .int .u8 0, .int .u8 0, .int .u8 0, .int .u8 0, .int .u8 0, .int .u8 0, .int .u8 0, .int .u8 0, .int .u8 0, .int .u8 0, .int .u8 0] 30) = w0 at hb0 hlf0 hres0 hs0 ⊢
        refine (HSP.out _).mono ?_
        rintro e w' ⟨rfl, rfl⟩
        go_wp2_with fail
        refine (HCL.out _ hb0).mono ?_
        rintro e w1 ⟨rfl, hb1⟩
        have hlow1 := bstep hb0 hb1
        have hz1 := hb1.size
        have hN1 : w.heap.size < w1.heap.size := by omega
        have hN2 : w.heap.size + 1 < w1.heap.size := by omega
        have HLF1 : Bx _ := ⟨(hb1.block w.heap.size (by omega)).trans hlf0⟩
        have hres1 := (hb1.block (w.heap.size + 1) (by omega)).trans hres0
        obtain ⟨DR, hDR⟩ : ∃ DR, DR = (bv R).toArray := ⟨_, rfl⟩
        obtain ⟨hdv, hth, hinf, hone⟩ := dig_var w1 R hRd.1 DR hDR
        have HTHR : Bx _ := ⟨hth⟩
        have HDV : Bx _ := ⟨hdv⟩
        have HINF : Bx _ := ⟨hinf⟩
        have HONE : Bx _ := ⟨hone⟩
        have HDR : Bx (DR = (bv R).toArray) := ⟨hDR⟩
        rw [← hDR]
        clear hdv hth hinf hone hDR HSP HCL hb0 hlf0 hres0 hs0 hb1 hz1
        go_wp2_with (first
          | (refine wpList_store_mid rfl 30 (.tmp 14) (.tmp 35) rfl w1.heap.size 0 DR rfl rfl ?ht HINF.out HONE.out ?_; (case ht => exact HTHR.out); have hdv := HDV.out; generalize (w1.alloc (.cells #[.int .u8 0, .int .u8 0, .int .u8 0, .int .u8 0, .int .u8 0, .int .u8 0, .int .u8 0, .int .u8 0, .int .u8 0, .int .u8 0, .int .u8 0, .int .u8 0, .int .u8 0, .int .u8 0, .int .u8 0, .int .u8 0, .int .u8 0, .int .u8 0, .int .u8 0, .int .u8 0, .int .u8 0, .int .u8 0, .int .u8 0, .int .u8 0, .int .u8 0, .int .u8 0, .int .u8 0, .int .u8 0, .int .u8 0, .int .u8 0, .int .u8 0, .int .u8 0] 30)).setCells w1.heap.size 0 DR.toList = w2 at hdv ⊢; clear HDV HTHR; have hlow2 := bstep hlow1 hdv.low; have HLF2 : Bx _ := ⟨(hdv.low.block w.heap.size hN1).trans HLF1.out⟩; clear HLF1)
          | (refine wpList_load_row rfl 30 (.tmp 7) rfl w.heap.size rfl 30 DL (0, 0) _ HLF2.out Tryd.underlying30 rfl HIL.out ?_))
        rw [HDL.out]
        refine (HI1.out _ hlow2).mono ?_
        rintro e w3 ⟨d', rfl, hd', hup', hb3⟩
        have hlow3 := bstep hlow2 hb3
        have hrR := (hb3.block w1.heap.size (Array.getElem?_eq_some_iff.1 hdv.row).1).trans hdv.row
        have hres3 : w3.heap[w.heap.size + 1]? = some (.cells cs 30 (0, 0)) := (hb3.block _ (by have := hdv.low.size; omega)).trans ((hdv.low.block _ hN2).trans hres1)
        obtain ⟨ok, hok⟩ : ∃ ok, ok = decide (S'.length = PT.length) := ⟨_, rfl⟩
        rw [← hok]
        have HOK : Bx (ok = decide (S'.length = PT.length)) := ⟨hok⟩
        have HUP : Bx (S'.length = PT.length → d' = upL x S'.reverse PT leaf) := ⟨hup'⟩
        clear hup' hok HI1 HIL HLF2
        obtain ⟨DD, hDD⟩ : ∃ DD, DD = (bv d').toArray := ⟨_, rfl⟩
        obtain ⟨hdv3, hth3, hinf3, hone3⟩ := dig_var w3 d' hd'.1 DD hDD
        have HTH3 : Bx _ := ⟨hth3⟩
        have HDV3 : Bx _ := ⟨hdv3⟩
        have HINF3 : Bx _ := ⟨hinf3⟩
        have HONE3 : Bx _ := ⟨hone3⟩
        have HRR : Bx (∀ W, Below w3.heap.size w3 W → W.heap[w1.heap.size]? = some (.cells DR 30 (0, 0))) := ⟨fun W hW => (hW.block _ (Array.getElem?_eq_some_iff.1 hrR).1).trans (by rw [hrR, HDR.out])⟩
        have HDD : Bx (DD = (bv d').toArray) := ⟨hDD⟩
        have HST3 : Bx (w.heap.size + 1 < w3.heap.size) := ⟨(Array.getElem?_eq_some_iff.1 hres3).1⟩
        rw [← hDD]
        clear hdv3 hth3 hinf3 hone3 hDD hrR hdv hb3
        go_wp2_with (first
          | (refine wpList_store_mid rfl 30 (.tmp 15) (.tmp 46) rfl w3.heap.size 0 DD rfl rfl ?ht HINF3.out HONE3.out ?_; (case ht => exact HTH3.out); have hdv4 := HDV3.out; generalize (w3.alloc (.cells #[.int .u8 0, .int .u8 0, .int .u8 0, .int .u8 0, .int .u8 0, .int .u8 0, .int .u8 0, .int .u8 0, .int .u8 0, .int .u8 0, .int .u8 0, .int .u8 0, .int .u8 0, .int .u8 0, .int .u8 0, .int .u8 0, .int .u8 0, .int .u8 0, .int .u8 0, .int .u8 0, .int .u8 0, .int .u8 0, .int .u8 0, .int .u8 0, .int .u8 0, .int .u8 0, .int .u8 0, .int .u8 0, .int .u8 0, .int .u8 0, .int .u8 0, .int .u8 0] 30)).setCells w3.heap.size 0 DD.toList = w4 at hdv4 ⊢; clear HDV3 HTH3; have HR4 : Bx _ := ⟨HRR.out w4 hdv4.low⟩; have HD4 : Bx (w4.heap[w3.heap.size]? = some (.cells DD 30 (0, 0))) := ⟨by rw [hdv4.row, HDD.out]⟩)
          | (refine wpList_load_row rfl 30 (.tmp 15) rfl w3.heap.size rfl 30 DD (0, 0) _ HD4.out Tryd.underlying30 rfl HINF3.out ?_)
          | (refine wpList_load_row rfl 30 (.tmp 14) rfl w1.heap.size rfl 30 DR (0, 0) _ HR4.out Tryd.underlying30 rfl HINF.out ?_))
        have hlow4 := bstep hlow3 hdv4.low
        have hres4 := (hdv4.low.block _ HST3.out).trans hres3
        have hs4 := Nat.lt_of_lt_of_le HST3.out hdv4.low.size
        rw [HDD.out, HDR.out]
        refine (node_any d' R x _ hd' hRd (htab.below hlow4)).mono ?_
        rintro e w5 ⟨rfl, hb5⟩
        have hlow5 := bstep hlow4 hb5
        have hres5 := (hb5.block _ hs4).trans hres4
        clear hlow3 hlow4 hb5 hres3 hres4 hdv4 HR4 HD4 HRR HINF3 HONE3 hlow2 hlow1 hs4
        have hZ := nodeL_dg d' R x
        have HE : Bx (decide ((stepsL n i).length = P.length) = ok ∧ ((stepsL n i).length = P.length → nodeL d' R x = upL x (stepsL n i).reverse P leaf)) := ⟨by
          rw [HOK.out, HSL.out, HPS.out, List.length_cons, List.length_append, List.length_singleton]
          refine ⟨by congr 1; rw [eq_iff_iff]; omega, fun h => ?_⟩
          have h' : S'.length = PT.length := by omega
          rw [List.reverse_cons, upL_snoc x false _ _ _ _ (by rw [List.length_reverse]; exact h'), ← HUP.out h']; rfl⟩
        generalize nodeL d' R x = Z at hZ HE ⊢
        obtain ⟨D, hD⟩ : ∃ D, (bv Z).toArray = D := ⟨_, rfl⟩
        obtain ⟨HTH, HI2, HO2, HST, HBS⟩ := res_end hres5 hcs hlow5 (by omega) hZ.1 D hD
        have HD : Bx (Ending.returned (.tuple #[.agg D, .bool ok]) = .returned (.tuple #[.agg (bv Z).toArray, .bool (decide ((stepsL n i).length = P.length))])) := ⟨by rw [hD, HE.out.1]⟩
        rw [hD]
        clear hD hres5 hlow5 hcs
        go_wp2_with (refine wpList_store_mid rfl 30 (.tmp 10) (.tmp 51) rfl (w.heap.size + 1) 0 D rfl rfl ?ht HI2.out HO2.out ?_; (case ht => exact HTH.out))
        exact bodyPost_ret (v := .tuple #[.agg D, .bool ok]) (results_ct rfl _ _ (w.heap.size + 1) D _ rfl rfl HST.out HI2.out) rfl ⟨Z, HD.out, hZ, HE.out.2, HBS.out⟩
      · obtain ⟨S', hS'⟩ : ∃ S', S' = stepsL (n - splitN n) (i - splitN n) := ⟨_, rfl⟩
        have HSL : Bx (stepsL n i = true :: S') := ⟨by rw [hS']; exact stepsL_right (by omega) hik⟩
        have HI2 : Bx (∀ W, Below w.heap.size w W → Calls Tryd.prog 58 #[.int .i64 ((n : Int) - (splitN n : Int)), .int .i64 ((i : Int) - (splitN n : Int)), .agg (bv leaf).toArray, .slice a (len - 1) cap, .int .i64 x] W fun e w' => ∃ d, e = .returned (.tuple #[.agg (bv d).toArray, .bool (decide (S'.length = (P.take (len - 1)).length))]) ∧ Dg d ∧ (S'.length = (P.take (len - 1)).length → d = upL x S'.reverse (P.take (len - 1)) leaf) ∧ Below W.heap.size W w') :=
          ⟨fun W hW => by
            have h := ih (n - splitN n) (by omega) (i - splitN n) leaf a (len - 1) cap (P.take (len - 1)) x W (by omega) (by omega) (by omega) hleaf ((hP.below hW).take _ (by omega)) (htab.below hW)
            rw [show ((i - splitN n : Nat) : Int) = (i : Int) - (splitN n : Int) from by omega, show ((n - splitN n : Nat) : Int) = (n : Int) - (splitN n : Int) from by omega, ← hS'] at h
            exact h⟩
        have hki : ¬ (i : Int) < (splitN n : Int) := by omega
        have hsb1 : IntKind.i64.wrap ((n : Int) - (splitN n : Int)) = (n : Int) - (splitN n : Int) := IntWalk.i64_in _ (by omega)
        have hsb2 : IntKind.i64.wrap ((i : Int) - (splitN n : Int)) = (i : Int) - (splitN n : Int) := IntWalk.i64_in _ (by omega)
        clear hS' ih hP
        generalize splitN n = k at hk1 hk2 HSP HI2 hki hsb1 hsb2
        generalize P.take (len - 1) = PT at HPS HI2
        go_enter Tryd.func58, Tryd.ntmps58
        go_wp2_with fail
        have hb0 := HB0.out
        have hlf0 := HLF0.out
        have hres0 := HRS0.out
        have hs0 := HSZ0.out
        clear HB0 HLF0 HRS0 HSZ0
        generalize (w.alloc (.cells DL 30)).alloc (.cells #[.int .u8 0, .int .u8 0, .int .u8 0, .int .u8 0, .int .u8 0, .int .u8 0, .int .u8 0, .int .u8 0, .int .u8 0, .int .u8 0, .int .u8 0, .int .u8 0, .int .u8 0, .int .u8 0, .int .u8 0, .int .u8 0, .int .u8 0, .int .u8 0, .int .u8 0, .int .u8 0, .int .u8 0, .int .u8 0, .int .u8 0, .int .u8 0, .int .u8 0, .int .u8 0, .int .u8 0, .int .u8 0, .int .u8 0, .int .u8 0, .int .u8 0, .int .u8 0] 30) = w0 at hb0 hlf0 hres0 hs0 ⊢
        refine (HSP.out _).mono ?_
        rintro e w' ⟨rfl, rfl⟩
        go_wp2_with fail
        refine (HCL.out _ hb0).mono ?_
        rintro e w1 ⟨rfl, hb1⟩
        have hlow1 := bstep hb0 hb1
        have hz1 := hb1.size
        have hN1 : w.heap.size < w1.heap.size := by omega
        have hN2 : w.heap.size + 1 < w1.heap.size := by omega
        have HLF1 : Bx _ := ⟨(hb1.block w.heap.size (by omega)).trans hlf0⟩
        have hres1 := (hb1.block (w.heap.size + 1) (by omega)).trans hres0
        obtain ⟨DR, hDR⟩ : ∃ DR, DR = (bv R).toArray := ⟨_, rfl⟩
        obtain ⟨hdv, hth, hinf, hone⟩ := dig_var w1 R hRd.1 DR hDR
        have HTHR : Bx _ := ⟨hth⟩
        have HDV : Bx _ := ⟨hdv⟩
        have HINF : Bx _ := ⟨hinf⟩
        have HONE : Bx _ := ⟨hone⟩
        have HDR : Bx (DR = (bv R).toArray) := ⟨hDR⟩
        rw [← hDR]
        clear hdv hth hinf hone hDR HSP HCL hb0 hlf0 hres0 hs0 hb1 hz1
        go_wp2_with (first
          | (refine wpList_store_mid rfl 30 (.tmp 14) (.tmp 35) rfl w1.heap.size 0 DR rfl rfl ?ht HINF.out HONE.out ?_; (case ht => exact HTHR.out); have hdv := HDV.out; generalize (w1.alloc (.cells #[.int .u8 0, .int .u8 0, .int .u8 0, .int .u8 0, .int .u8 0, .int .u8 0, .int .u8 0, .int .u8 0, .int .u8 0, .int .u8 0, .int .u8 0, .int .u8 0, .int .u8 0, .int .u8 0, .int .u8 0, .int .u8 0, .int .u8 0, .int .u8 0, .int .u8 0, .int .u8 0, .int .u8 0, .int .u8 0, .int .u8 0, .int .u8 0, .int .u8 0, .int .u8 0, .int .u8 0, .int .u8 0, .int .u8 0, .int .u8 0, .int .u8 0, .int .u8 0] 30)).setCells w1.heap.size 0 DR.toList = w2 at hdv ⊢; clear HDV HTHR; have hlow2 := bstep hlow1 hdv.low; have HLF2 : Bx _ := ⟨(hdv.low.block w.heap.size hN1).trans HLF1.out⟩; clear HLF1)
          | (refine wpList_load_row rfl 30 (.tmp 7) rfl w.heap.size rfl 30 DL (0, 0) _ HLF2.out Tryd.underlying30 rfl HIL.out ?_))
        rw [HDL.out]
        refine (HI2.out _ hlow2).mono ?_
        rintro e w3 ⟨d', rfl, hd', hup', hb3⟩
        have hlow3 := bstep hlow2 hb3
        have hrR := (hb3.block w1.heap.size (Array.getElem?_eq_some_iff.1 hdv.row).1).trans hdv.row
        have hres3 : w3.heap[w.heap.size + 1]? = some (.cells cs 30 (0, 0)) := (hb3.block _ (by have := hdv.low.size; omega)).trans ((hdv.low.block _ hN2).trans hres1)
        obtain ⟨ok, hok⟩ : ∃ ok, ok = decide (S'.length = PT.length) := ⟨_, rfl⟩
        rw [← hok]
        have HOK : Bx (ok = decide (S'.length = PT.length)) := ⟨hok⟩
        have HUP : Bx (S'.length = PT.length → d' = upL x S'.reverse PT leaf) := ⟨hup'⟩
        clear hup' hok HI2 HIL HLF2
        obtain ⟨DD, hDD⟩ : ∃ DD, DD = (bv d').toArray := ⟨_, rfl⟩
        obtain ⟨hdv3, hth3, hinf3, hone3⟩ := dig_var w3 d' hd'.1 DD hDD
        have HTH3 : Bx _ := ⟨hth3⟩
        have HDV3 : Bx _ := ⟨hdv3⟩
        have HINF3 : Bx _ := ⟨hinf3⟩
        have HONE3 : Bx _ := ⟨hone3⟩
        have HRR : Bx (∀ W, Below w3.heap.size w3 W → W.heap[w1.heap.size]? = some (.cells DR 30 (0, 0))) := ⟨fun W hW => (hW.block _ (Array.getElem?_eq_some_iff.1 hrR).1).trans (by rw [hrR, HDR.out])⟩
        have HDD : Bx (DD = (bv d').toArray) := ⟨hDD⟩
        have HST3 : Bx (w.heap.size + 1 < w3.heap.size) := ⟨(Array.getElem?_eq_some_iff.1 hres3).1⟩
        rw [← hDD]
        clear hdv3 hth3 hinf3 hone3 hDD hrR hdv hb3
        go_wp2_with (first
          | (refine wpList_store_mid rfl 30 (.tmp 17) (.tmp 64) rfl w3.heap.size 0 DD rfl rfl ?ht HINF3.out HONE3.out ?_; (case ht => exact HTH3.out); have hdv4 := HDV3.out; generalize (w3.alloc (.cells #[.int .u8 0, .int .u8 0, .int .u8 0, .int .u8 0, .int .u8 0, .int .u8 0, .int .u8 0, .int .u8 0, .int .u8 0, .int .u8 0, .int .u8 0, .int .u8 0, .int .u8 0, .int .u8 0, .int .u8 0, .int .u8 0, .int .u8 0, .int .u8 0, .int .u8 0, .int .u8 0, .int .u8 0, .int .u8 0, .int .u8 0, .int .u8 0, .int .u8 0, .int .u8 0, .int .u8 0, .int .u8 0, .int .u8 0, .int .u8 0, .int .u8 0, .int .u8 0] 30)).setCells w3.heap.size 0 DD.toList = w4 at hdv4 ⊢; clear HDV3 HTH3; have HR4 : Bx _ := ⟨HRR.out w4 hdv4.low⟩; have HD4 : Bx (w4.heap[w3.heap.size]? = some (.cells DD 30 (0, 0))) := ⟨by rw [hdv4.row, HDD.out]⟩)
          | (refine wpList_load_row rfl 30 (.tmp 14) rfl w1.heap.size rfl 30 DR (0, 0) _ HR4.out Tryd.underlying30 rfl HINF.out ?_)
          | (refine wpList_load_row rfl 30 (.tmp 17) rfl w3.heap.size rfl 30 DD (0, 0) _ HD4.out Tryd.underlying30 rfl HINF3.out ?_))
        have hlow4 := bstep hlow3 hdv4.low
        have hres4 := (hdv4.low.block _ HST3.out).trans hres3
        have hs4 := Nat.lt_of_lt_of_le HST3.out hdv4.low.size
        rw [HDD.out, HDR.out]
        refine (node_any R d' x _ hRd hd' (htab.below hlow4)).mono ?_
        rintro e w5 ⟨rfl, hb5⟩
        have hlow5 := bstep hlow4 hb5
        have hres5 := (hb5.block _ hs4).trans hres4
        clear hlow3 hlow4 hb5 hres3 hres4 hdv4 HR4 HD4 HRR HINF3 HONE3 hlow2 hlow1 hs4
        have hZ := nodeL_dg R d' x
        have HE : Bx (decide ((stepsL n i).length = P.length) = ok ∧ ((stepsL n i).length = P.length → nodeL R d' x = upL x (stepsL n i).reverse P leaf)) := ⟨by
          rw [HOK.out, HSL.out, HPS.out, List.length_cons, List.length_append, List.length_singleton]
          refine ⟨by congr 1; rw [eq_iff_iff]; omega, fun h => ?_⟩
          have h' : S'.length = PT.length := by omega
          rw [List.reverse_cons, upL_snoc x true _ _ _ _ (by rw [List.length_reverse]; exact h'), ← HUP.out h']; rfl⟩
        generalize nodeL R d' x = Z at hZ HE ⊢
        obtain ⟨D, hD⟩ : ∃ D, (bv Z).toArray = D := ⟨_, rfl⟩
        obtain ⟨HTH, HI2, HO2, HST, HBS⟩ := res_end hres5 hcs hlow5 (by omega) hZ.1 D hD
        have HD : Bx (Ending.returned (.tuple #[.agg D, .bool ok]) = .returned (.tuple #[.agg (bv Z).toArray, .bool (decide ((stepsL n i).length = P.length))])) := ⟨by rw [hD, HE.out.1]⟩
        rw [hD]
        clear hD hres5 hlow5 hcs
        go_wp2_with (refine wpList_store_mid rfl 30 (.tmp 10) (.tmp 69) rfl (w.heap.size + 1) 0 D rfl rfl ?ht HI2.out HO2.out ?_; (case ht => exact HTH.out))
        exact bodyPost_ret (v := .tuple #[.agg D, .bool ok]) (results_ct rfl _ _ (w.heap.size + 1) D _ rfl rfl HST.out HI2.out) rfl ⟨Z, HD.out, hZ, HE.out.2, HBS.out⟩

set_option maxRecDepth 100000 in
set_option maxHeartbeats 1000000 in
theorem checkpath_any (root : List Int) (n i : Int) (leaf : List Int) (a : Option Addr) (len cap : Nat) (P : List (List Int)) (x : Int) (w : World) (hr : Dg root) (hleaf : Dg leaf) (hn : n ≤ 9223372036854775807) (hP : Dgs w a len cap P) (htab : Tab w) :
    Calls Tryd.prog 32 #[.agg (bv root).toArray, .int .i64 n, .int .i64 i, .agg (bv leaf).toArray, .slice a len cap, .int .i64 x] w fun e w' => e = .returned (.bool (chkP root n i leaf P x)) ∧ Below w.heap.size w w' := by
  have hb0 : Below w.heap.size w ((w.alloc (.cells (bv root).toArray 30)).alloc (.cells (bv leaf).toArray 30)) := ((Below.refl _ _).alloc (Nat.le_refl _) _).alloc (by simp) _
  have hrt0 : ((w.alloc (.cells (bv root).toArray 30)).alloc (.cells (bv leaf).toArray 30)).heap[w.heap.size]? = some (.cells (bv root).toArray 30 (0, 0)) := by rw [heap_alloc_old _ _ (by simp), heap_alloc_new]
  have hlf0 : ((w.alloc (.cells (bv root).toArray 30)).alloc (.cells (bv leaf).toArray 30)).heap[w.heap.size + 1]? = some (.cells (bv leaf).toArray 30 (0, 0)) := by rw [show w.heap.size + 1 = (w.alloc (.cells (bv root).toArray 30)).heap.size from by simp, heap_alloc_new]
  by_cases hin : 0 ≤ i ∧ i < n
  · obtain ⟨j, rfl⟩ : ∃ j : Nat, i = (j : Int) := ⟨i.toNat, by omega⟩
    obtain ⟨m, rfl⟩ : ∃ m : Nat, n = (m : Int) := ⟨n.toNat, by omega⟩
    have h1 : decide ((j : Int) < 0) = false := by simp
    have h2 : decide (m ≤ j) = false := by simp; omega
    have HCH : Bx (chkP root (m : Int) (j : Int) leaf P x = (decide ((stepsL m j).length = P.length) && decide (upL x (stepsL m j).reverse P leaf = root))) := ⟨by
      unfold chkP
      rw [show ((m : Int)).toNat = m from by omega, show ((j : Int)).toNat = j from by omega, decide_eq_true hin, Bool.true_and]⟩
    have HRK : Bx (∀ W, Below w.heap.size w W → Calls Tryd.prog 58 #[.int .i64 m, .int .i64 j, .agg (bv leaf).toArray, .slice a len cap, .int .i64 x] W fun e w' => ∃ d, e = .returned (.tuple #[.agg (bv d).toArray, .bool (decide ((stepsL m j).length = P.length))]) ∧ Dg d ∧ ((stepsL m j).length = P.length → d = upL x (stepsL m j).reverse P leaf) ∧ Below W.heap.size W w') :=
      ⟨fun W hW => reckonp_any m j leaf a len cap P x W (by omega) (by omega) (by omega) hleaf (hP.below hW) (htab.below hW)⟩
    have HIL : Bx ((Tryd.prog.info? 30).map (·.size) = some (bv leaf).toArray.size) := ⟨by rw [List.size_toArray, bv_length, hleaf.1]; exact dig_info⟩
    have HIR : Bx ((Tryd.prog.info? 30).map (·.size) = some (bv root).toArray.size) := ⟨by rw [List.size_toArray, bv_length, hr.1]; exact dig_info⟩
    rw [HCH.out]
    have hs0 : ((w.alloc (.cells (bv root).toArray 30)).alloc (.cells (bv leaf).toArray 30)).heap.size = w.heap.size + 1 + 1 := by simp
    have HB0 : Bx _ := ⟨hb0⟩
    have HLF0 : Bx _ := ⟨hlf0⟩
    have HRT0 : Bx _ := ⟨hrt0⟩
    have HSZ0 : Bx _ := ⟨hs0⟩
    clear hb0 hlf0 hrt0 hs0 hP htab HCH
    go_enter Tryd.func32, Tryd.ntmps32
    go_wp2_with (refine wpList_load_row rfl 30 (.tmp 9) rfl (w.heap.size + 1) rfl 30 (bv leaf).toArray (0, 0) _ HLF0.out Tryd.underlying30 rfl HIL.out ?_)
    have hb0 := HB0.out
    have hrt0 := HRT0.out
    have hs0 := HSZ0.out
    clear HB0 HLF0 HRT0 HSZ0
    generalize (w.alloc (.cells (bv root).toArray 30)).alloc (.cells (bv leaf).toArray 30) = w0 at hb0 hrt0 hs0 ⊢
    refine (HRK.out _ hb0).mono ?_
    rintro e w1 ⟨d, rfl, hd, hup, hb1⟩
    have hlow1 := bstep hb0 hb1
    have hrt1 := (hb1.block w.heap.size (by omega)).trans hrt0
    have hN1 : w.heap.size < w1.heap.size := by have := hb1.size; omega
    obtain ⟨ok, hok⟩ : ∃ ok, ok = decide ((stepsL m j).length = P.length) := ⟨_, rfl⟩
    have HUP : Bx (ok = true → d = upL x (stepsL m j).reverse P leaf) := ⟨fun h => hup (of_decide_eq_true (hok ▸ h))⟩
    have HOK : Bx (ok = decide ((stepsL m j).length = P.length)) := ⟨hok⟩
    rw [← hok]
    clear hup hok HRK HIL hb0 hb1 hrt0 hs0
    have hcmp := dig_cmp d root hd.1 hr.1
    obtain ⟨DD, hDD⟩ : ∃ DD, DD = (bv d).toArray := ⟨_, rfl⟩
    obtain ⟨DT, hDT⟩ : ∃ DT, DT = (bv root).toArray := ⟨_, rfl⟩
    obtain ⟨hdv, hth, hinf, hone⟩ := dig_var w1 d hd.1 DD hDD
    have HTH : Bx _ := ⟨hth⟩
    have HDV : Bx _ := ⟨hdv⟩
    have HINF : Bx _ := ⟨hinf⟩
    have HONE : Bx _ := ⟨hone⟩
    have HDD : Bx (DD = (bv d).toArray) := ⟨hDD⟩
    rw [← hDD, ← hDT] at hcmp
    rw [← hDT] at hrt1 HIR
    rw [← hDD, ← hDT]
    clear hdv hth hinf hone hDD hDT
    cases ok with
    | true =>
      have HU : Bx (decide (d = root) = (decide ((stepsL m j).length = P.length) && decide (upL x (stepsL m j).reverse P leaf = root))) := ⟨by rw [← HOK.out, HUP.out rfl, Bool.true_and]⟩
      generalize decide (d = root) = q at hcmp HU
      go_wp2_with (first
        | (refine wpList_store_mid rfl 30 (.tmp 13) (.tmp 29) rfl w1.heap.size 0 DD rfl rfl ?ht HINF.out HONE.out ?_; (case ht => exact HTH.out); have hdv2 := HDV.out; generalize (w1.alloc (.cells #[.int .u8 0, .int .u8 0, .int .u8 0, .int .u8 0, .int .u8 0, .int .u8 0, .int .u8 0, .int .u8 0, .int .u8 0, .int .u8 0, .int .u8 0, .int .u8 0, .int .u8 0, .int .u8 0, .int .u8 0, .int .u8 0, .int .u8 0, .int .u8 0, .int .u8 0, .int .u8 0, .int .u8 0, .int .u8 0, .int .u8 0, .int .u8 0, .int .u8 0, .int .u8 0, .int .u8 0, .int .u8 0, .int .u8 0, .int .u8 0, .int .u8 0, .int .u8 0] 30)).setCells w1.heap.size 0 DD.toList = w2 at hdv2 ⊢; clear HDV HTH; have HR2 : Bx _ := ⟨(hdv2.low.block w.heap.size hN1).trans hrt1⟩; have HD2 : Bx (w2.heap[w1.heap.size]? = some (.cells DD 30 (0, 0))) := ⟨by rw [hdv2.row, HDD.out]⟩)
        | (refine wpList_load_guarded (b := w1.heap.size) (D := DD) rfl (.tmp 13) rfl rfl HD2.out HINF.out ?_)
        | (refine wpList_load_guarded (b := w.heap.size) (D := DT) rfl (.tmp 6) rfl rfl HR2.out HIR.out ?_))
      go_ret
      exact ⟨ret_bool HU.out, bstep hlow1 hdv2.low⟩
    | false =>
      have HU : Bx (false = (decide ((stepsL m j).length = P.length) && decide (upL x (stepsL m j).reverse P leaf = root))) := ⟨by rw [← HOK.out, Bool.false_and]⟩
      go_wp2_with (first
        | (refine wpList_store_mid rfl 30 (.tmp 13) (.tmp 29) rfl w1.heap.size 0 DD rfl rfl ?ht HINF.out HONE.out ?_; (case ht => exact HTH.out); have hdv2 := HDV.out; generalize (w1.alloc (.cells #[.int .u8 0, .int .u8 0, .int .u8 0, .int .u8 0, .int .u8 0, .int .u8 0, .int .u8 0, .int .u8 0, .int .u8 0, .int .u8 0, .int .u8 0, .int .u8 0, .int .u8 0, .int .u8 0, .int .u8 0, .int .u8 0, .int .u8 0, .int .u8 0, .int .u8 0, .int .u8 0, .int .u8 0, .int .u8 0, .int .u8 0, .int .u8 0, .int .u8 0, .int .u8 0, .int .u8 0, .int .u8 0, .int .u8 0, .int .u8 0, .int .u8 0, .int .u8 0] 30)).setCells w1.heap.size 0 DD.toList = w2 at hdv2 ⊢; clear HDV HTH))
      go_ret
      exact ⟨ret_bool HU.out, bstep hlow1 hdv2.low⟩
  · have HCH : Bx (chkP root n i leaf P x = false) := ⟨by unfold chkP; rw [decide_eq_false hin, Bool.false_and]⟩
    rw [HCH.out]
    clear hrt0 hlf0 HCH hP htab
    by_cases h0 : i < 0
    · have h1 : decide (i < 0) = true := by simpa using h0
      clear hin
      go_enter Tryd.func32, Tryd.ntmps32
      go_wp2
      go_ret
      exact ⟨rfl, hb0⟩
    · have h1 : decide (i < 0) = false := by simpa using h0
      have h2 : decide (i ≥ n) = true := by simp; omega
      clear hin
      go_enter Tryd.func32, Tryd.ntmps32
      go_wp2
      go_ret
      exact ⟨rfl, hb0⟩
end Go.Proofs.YtbednfacipphhaaDoor
namespace Go.Proofs.YtbednfacipphhaaDoor
open Go.RowKit
set_option linter.unusedVariables false

set_option maxRecDepth 100000 in
set_option maxHeartbeats 1000000 in
theorem pathin_any (n : Nat) : ∀ (a : Option Addr) (len cap : Nat) (L : List (List Int)) (i : Nat) (x : Int) (w : World), len ≤ n → Dgs w a len cap L → Tab w → len ≤ 1000000 → i < len →
    Calls Tryd.prog 82 #[.slice a len cap, .int .i64 i, .int .i64 x] w fun e w' => ∃ v, e = .returned v ∧ w'.ownsRow w.heap.size 30 32 v (pathL L i x).length (bv (pathL L i x).flatten) ∧ Below w.heap.size w w' := by
  induction n using Nat.strongRecOn with
  | ind n ih =>
  intro a len cap L i x w hn hL htab hbd hi
  have hlen := hL.len_eq
  by_cases h1 : len = 1
  · have e1 : ((len : Int) == 1) = true := by simp; omega
    have HE : Bx (pathL L i x = []) := ⟨pathL_one L i x (by omega)⟩
    clear ih hL hlen h1
    go_enter Tryd.func82, Tryd.ntmps82
    go_wp2
    go_ret
    exact ⟨_, rfl, by rw [HE.out]; exact World.ownsRow_nil _ _ _ _, Below.refl _ _⟩
  · have e1 : ((len : Int) == 1) = false := by simp; omega
    obtain ⟨b, off, rfl, hlt, hcc⟩ := hL.spot (by omega)
    have hk1 := splitN_pos (n := len) (by omega)
    have hk2 := splitN_lt (n := len) (by omega)
    have hcap := hL.le_cap
    have HSP : Bx (∀ W, Calls Tryd.prog 84 #[.int .i64 (len : Int)] W fun e w' => e = .returned (.int .i64 (splitN len : Int)) ∧ W = w') := ⟨fun W => split_any (len : Int) W (by omega)⟩
    have hc1 := dgs_cut b off len cap (splitN len) (by omega)
    have hc2 := dgs_rest b off len cap (splitN len) (by omega) (by omega)
    by_cases hik : i < splitN len
    · have HE : Bx (pathL L i x = pathL (L.take (splitN len)) i x ++ [rootL (L.drop (splitN len)) x]) := ⟨by rw [pathL_left L i x (by omega) (by rw [hlen]; exact hik), hlen]⟩
      have HI1 : Bx (∀ W, Below w.heap.size w W → Calls Tryd.prog 82 #[.slice (some ⟨b, off, none⟩) (splitN len) cap, .int .i64 i, .int .i64 x] W fun e w' => ∃ v, e = .returned v ∧ w'.ownsRow W.heap.size 30 32 v (pathL (L.take (splitN len)) i x).length (bv (pathL (L.take (splitN len)) i x).flatten) ∧ Below W.heap.size W w') :=
        ⟨fun W hW => ih (splitN len) (by omega) _ _ _ _ i x W (Nat.le_refl _) ((hL.below hW).take _ (by omega)) (htab.below hW) (by omega) hik⟩
      have HR1 : Bx (∀ W, Below w.heap.size w W → Calls Tryd.prog 80 #[.slice (some ⟨b, off + 32 * splitN len, none⟩) (len - splitN len) (cap - splitN len), .int .i64 x] W fun e w' => e = .returned (.agg (bv (rootL (L.drop (splitN len)) x)).toArray) ∧ Below W.heap.size W w') :=
        ⟨fun W hW => root_any (len - splitN len) _ _ _ _ x W (Nat.le_refl _) ((hL.below hW).drop _ (by omega)) (htab.below hW) (by omega)⟩
      have hR := rootL_dg (L.drop (splitN len)) x (hL.dig.drop _)
      have hpl := pathL_len (splitN len) (L.take (splitN len)) i x (by rw [List.length_take]; omega)
      have hki : (i : Int) < (splitN len : Int) := by omega
      generalize rootL (L.drop (splitN len)) x = R at HE HR1 hR
      generalize pathL (L.take (splitN len)) i x = PL at HE HI1 hpl
      generalize splitN len = k at hk1 hk2 HSP HI1 HR1 hc1 hc2 hpl hki
      clear hcc hL htab ih hlen hik
      go_enter Tryd.func82, Tryd.ntmps82
      go_wp2_with fail
      refine (HSP.out _).mono ?_
      rintro e w' ⟨rfl, rfl⟩
      generalize hm : off + 32 * k = o2 at hc2 HR1
      generalize hm2 : len - k = l2 at hc2 HR1
      generalize hm3 : cap - k = c2 at hc2 HR1
      clear hm hm2 hm3 HSP
      go_wp2_with fail
      have hk : Below w.heap.size w w.drew := below_drewN (Below.refl _ _) 1
      refine wp_region_held_drew (S := fun W => Below w.heap.size w W) (by kernel_rfl) hk (fun _ => ?_)
      refine wpAnyH_take (i := 0) (oi := { dst := some 17, op := Op.move (Operand.tmp 0), type := 60, pos := "merkle.go:74", after := #[], guard := none }) (v := ?vpathl1) rfl (by kernel_rfl) (by kernel_rfl) (by kernel_rfl) (fun _ _ _ h => h) (Or.inl ⟨by rfl, ?ypathl1⟩) hk ?rpathl1
      case ypathl1 => (intro w hSw; (try dsimp only at hSw); go_simp; first | done | with_reducible rfl)
      simp only [Act.put, List.setIfInBounds_toArray, List.set_cons_zero, List.set_cons_succ]
      refine wpAnyH_take (i := 1) (oi := { dst := some 18, op := Op.move (Operand.tmp 7), type := 3, pos := "merkle.go:74", after := #[], guard := none }) (v := ?vpathl2) rfl (by kernel_rfl) (by kernel_rfl) (by kernel_rfl) (fun _ _ _ h => h) (Or.inl ⟨by rfl, ?ypathl2⟩) hk ?rpathl2
      case ypathl2 => (intro w hSw; (try dsimp only at hSw); go_simp; first | done | with_reducible rfl)
      simp only [Act.put, List.setIfInBounds_toArray, List.set_cons_zero, List.set_cons_succ]
      refine wpAnyH_take (i := 2) (oi := { dst := some 19, op := Op.slice 60 (Operand.tmp 17) none (some (Operand.tmp 18)) none, type := 60, pos := "merkle.go:74", after := #[{ on := 0, ground := Ground.data }, { on := 1, ground := Ground.data }], guard := none }) (v := ?vpathl3) rfl (by kernel_rfl) (by kernel_rfl) (by kernel_rfl) (fun _ _ _ h => h) (Or.inl ⟨by rfl, ?ypathl3⟩) hk ?rpathl3
      case ypathl3 => (intro w hSw; (try dsimp only at hSw); go_simp; first | done | with_reducible rfl)
      simp only [Act.put, List.setIfInBounds_toArray, List.set_cons_zero, List.set_cons_succ]
      refine wpAnyH_take (i := 3) (oi := { dst := some 20, op := Op.move (Operand.tmp 1), type := 3, pos := "merkle.go:74", after := #[], guard := none }) (v := ?vpathl4) rfl (by kernel_rfl) (by kernel_rfl) (by kernel_rfl) (fun _ _ _ h => h) (Or.inl ⟨by rfl, ?ypathl4⟩) hk ?rpathl4
      case ypathl4 => (intro w hSw; (try dsimp only at hSw); go_simp; first | done | with_reducible rfl)
      simp only [Act.put, List.setIfInBounds_toArray, List.set_cons_zero, List.set_cons_succ]
      refine wpAnyH_take (i := 4) (oi := { dst := some 21, op := Op.move (Operand.tmp 2), type := 3, pos := "merkle.go:74", after := #[], guard := none }) (v := ?vpathl5) rfl (by kernel_rfl) (by kernel_rfl) (by kernel_rfl) (fun _ _ _ h => h) (Or.inl ⟨by rfl, ?ypathl5⟩) hk ?rpathl5
      case ypathl5 => (intro w hSw; (try dsimp only at hSw); go_simp; first | done | with_reducible rfl)
      simp only [Act.put, List.setIfInBounds_toArray, List.set_cons_zero, List.set_cons_succ]
      refine wpAnyH_take (i := 6) (oi := { dst := some 23, op := Op.move (Operand.tmp 0), type := 60, pos := "merkle.go:74", after := #[], guard := none }) (v := ?vpathl6) rfl (by kernel_rfl) (by kernel_rfl) (by kernel_rfl) (fun _ _ _ h => h) (Or.inl ⟨by rfl, ?ypathl6⟩) hk ?rpathl6
      case ypathl6 => (intro w hSw; (try dsimp only at hSw); go_simp; first | done | with_reducible rfl)
      simp only [Act.put, List.setIfInBounds_toArray, List.set_cons_zero, List.set_cons_succ]
      refine wpAnyH_take (i := 7) (oi := { dst := some 24, op := Op.move (Operand.tmp 7), type := 3, pos := "merkle.go:74", after := #[], guard := none }) (v := ?vpathl7) rfl (by kernel_rfl) (by kernel_rfl) (by kernel_rfl) (fun _ _ _ h => h) (Or.inl ⟨by rfl, ?ypathl7⟩) hk ?rpathl7
      case ypathl7 => (intro w hSw; (try dsimp only at hSw); go_simp; first | done | with_reducible rfl)
      simp only [Act.put, List.setIfInBounds_toArray, List.set_cons_zero, List.set_cons_succ]
      refine wpAnyH_take (i := 8) (oi := { dst := some 25, op := Op.slice 60 (Operand.tmp 23) (some (Operand.tmp 24)) none none, type := 60, pos := "merkle.go:74", after := #[{ on := 6, ground := Ground.data }, { on := 7, ground := Ground.data }], guard := none }) (v := ?vpathl8) rfl (by kernel_rfl) (by kernel_rfl) (by kernel_rfl) (fun _ _ _ h => h) (Or.inl ⟨by rfl, ?ypathl8⟩) hk ?rpathl8
      case ypathl8 => (intro w hSw; (try dsimp only at hSw); go_simp; first | done | with_reducible rfl)
      simp only [Act.put, List.setIfInBounds_toArray, List.set_cons_zero, List.set_cons_succ]
      refine wpAnyH_take (i := 9) (oi := { dst := some 26, op := Op.move (Operand.tmp 2), type := 3, pos := "merkle.go:74", after := #[], guard := none }) (v := ?vpathl9) rfl (by kernel_rfl) (by kernel_rfl) (by kernel_rfl) (fun _ _ _ h => h) (Or.inl ⟨by rfl, ?ypathl9⟩) hk ?rpathl9
      case ypathl9 => (intro w hSw; (try dsimp only at hSw); go_simp; first | done | with_reducible rfl)
      simp only [Act.put, List.setIfInBounds_toArray, List.set_cons_zero, List.set_cons_succ]
      refine wpAnyH_ready (rs := [5]) (by decide +kernel) (by simp) ?_
      refine AllReadyH.cons (o := { dst := some 22, op := Op.call { callee := Callee.value (Operand.func 82), args := #[Operand.tmp 19, Operand.tmp 20, Operand.tmp 21], argTypes := #[60, 3, 3] }, type := 60, pos := "merkle.go:74", after := #[{ on := 2, ground := Ground.data }, { on := 3, ground := Ground.data }, { on := 4, ground := Ground.data }], guard := none }) rfl (fun K hK => ?_) AllReadyH.nil
      go_simp
      refine (HI1.out _ hk).mono ?_
      rintro e1 w5 ⟨v5, rfl, hown0, hb1⟩
      have hown := owns_base hown0 hk.size
      replace hk := hk.trans (hb1.mono hk.size)
      clear hb1 hown0
      refine hK.out _ _ hk (fun _ => ?_)
      clear hK K
      try simp only [Act.put, List.setIfInBounds_toArray, List.set_cons_zero, List.set_cons_succ]
      refine wpAnyH_ready (rs := [10]) (by decide +kernel) (by simp) ?_
      refine AllReadyH.cons (o := { dst := some 27, op := Op.call { callee := Callee.value (Operand.func 80), args := #[Operand.tmp 25, Operand.tmp 26], argTypes := #[60, 3] }, type := 30, pos := "merkle.go:74", after := #[{ on := 8, ground := Ground.data }, { on := 9, ground := Ground.data }, { on := 5, ground := Ground.chain }], guard := none }) rfl (fun K hK => ?_) AllReadyH.nil
      go_simp
      refine (HR1.out _ hk).mono ?_
      rintro e1 w10 ⟨rfl, hb1⟩
      replace hown := owns_below hown hb1
      replace hk := hk.trans (hb1.mono hk.size)
      clear hb1
      refine hK.out _ _ hk (fun _ => ?_)
      clear hK K
      try simp only [Act.put, List.setIfInBounds_toArray, List.set_cons_zero, List.set_cons_succ]
      refine wpAnyH_ready (rs := [11]) (by decide +kernel) (by simp) ?_
      refine AllReadyH.cons (o := { dst := some 28, op := Op.buildSlice 60 1 #[(0, Operand.tmp 27)], type := 60, pos := "merkle.go:74", after := #[{ on := 10, ground := Ground.data }], guard := none }) rfl (fun K hK => ?_) AllReadyH.nil
      rw [if_pos (by rfl)]
      refine wp_build_one (.tmp 27) rfl R hR.1 rfl ?_
      have hone := one_new w10 R hR
      replace hown := owns_new hown rfl (.cells (bv R).toArray 30)
      replace hk := hk.alloc hk.size (.cells (bv R).toArray 30)
      simp only [Act.put, List.setIfInBounds_toArray, List.set_cons_zero, List.set_cons_succ]
      refine hK.out _ _ hk (fun _ => ?_)
      clear hK K
      try simp only [Act.put, List.setIfInBounds_toArray, List.set_cons_zero, List.set_cons_succ]
      refine wpAnyH_ready (rs := [12]) (by decide +kernel) (by simp) ?_
      refine AllReadyH.cons (o := { dst := some 29, op := Op.call { callee := Callee.builtin Builtin.append, args := #[Operand.tmp 22, Operand.tmp 28], argTypes := #[60, 60] }, type := 60, pos := "merkle.go:74", after := #[{ on := 5, ground := Ground.data }, { on := 11, ground := Ground.data }, { on := 10, ground := Ground.chain }], guard := none }) rfl (fun K hK => ?_) AllReadyH.nil
      refine step_append_dgs rfl (.tmp 22) (.tmp 28) rfl w.heap.size PL.length _ PL rfl hown _ 1 1 [R] rfl hone (by omega) hk.size ?_
      intro v12 w12 hown2 hb1 _
      replace hk := hk.trans hb1
      clear hb1 hown hone
      refine hK.out _ _ hk (fun _ => ?_)
      clear hK K
      try simp only [Act.put, List.setIfInBounds_toArray, List.set_cons_zero, List.set_cons_succ]
      refine wpAnyH_take (i := 13) (oi := { dst := some 6, op := Op.assign (Operand.tmp 29), type := 60, pos := "merkle.go:74", after := #[{ on := 12, ground := Ground.data }, { on := 12, ground := Ground.chain }, { on := 0, ground := Ground.phase }, { on := 1, ground := Ground.phase }, { on := 2, ground := Ground.phase }, { on := 3, ground := Ground.phase }, { on := 4, ground := Ground.phase }, { on := 5, ground := Ground.phase }, { on := 6, ground := Ground.phase }, { on := 7, ground := Ground.phase }, { on := 8, ground := Ground.phase }, { on := 9, ground := Ground.phase }, { on := 10, ground := Ground.phase }, { on := 11, ground := Ground.phase }, { on := 12, ground := Ground.phase }], guard := none }) (v := ?vpathl11) rfl (by kernel_rfl) (by kernel_rfl) (by kernel_rfl) (fun _ _ _ h => h) (Or.inl ⟨by rfl, ?ypathl11⟩) hk ?rpathl11
      case ypathl11 => (intro w hSw; (try dsimp only at hSw); go_simp; first | done | with_reducible rfl)
      simp only [Act.put, List.setIfInBounds_toArray, List.set_cons_zero, List.set_cons_succ]
      refine wpAnyH_done (by decide +kernel) ?_ _
      clear hc1 hc2 HI1 HR1
      go_wp2
      go_ret
      exact ⟨_, rfl, by rw [HE.out, List.length_append]; exact hown2, hk⟩
    · have HE : Bx (pathL L i x = pathL (L.drop (splitN len)) (i - splitN len) x ++ [rootL (L.take (splitN len)) x]) := ⟨by rw [pathL_right L i x (by omega) (by rw [hlen]; exact hik), hlen]⟩
      have HI2 : Bx (∀ W, Below w.heap.size w W → Calls Tryd.prog 82 #[.slice (some ⟨b, off + 32 * splitN len, none⟩) (len - splitN len) (cap - splitN len), .int .i64 ((i : Int) - (splitN len : Int)), .int .i64 x] W fun e w' => ∃ v, e = .returned v ∧ w'.ownsRow W.heap.size 30 32 v (pathL (L.drop (splitN len)) (i - splitN len) x).length (bv (pathL (L.drop (splitN len)) (i - splitN len) x).flatten) ∧ Below W.heap.size W w') :=
        ⟨fun W hW => by
          have h := ih (len - splitN len) (by omega) _ _ _ _ (i - splitN len) x W (Nat.le_refl _) ((hL.below hW).drop (splitN len) (by omega)) (htab.below hW) (by omega) (by omega)
          rw [show ((i - splitN len : Nat) : Int) = (i : Int) - (splitN len : Int) from by omega] at h
          exact h⟩
      have HR2 : Bx (∀ W, Below w.heap.size w W → Calls Tryd.prog 80 #[.slice (some ⟨b, off, none⟩) (splitN len) cap, .int .i64 x] W fun e w' => e = .returned (.agg (bv (rootL (L.take (splitN len)) x)).toArray) ∧ Below W.heap.size W w') :=
        ⟨fun W hW => root_any (splitN len) _ _ _ _ x W (Nat.le_refl _) ((hL.below hW).take _ (by omega)) (htab.below hW) (by omega)⟩
      have hR := rootL_dg (L.take (splitN len)) x (hL.dig.take _)
      have hpl := pathL_len (len - splitN len) (L.drop (splitN len)) (i - splitN len) x (by rw [List.length_drop]; omega)
      have hki : ¬ (i : Int) < (splitN len : Int) := by omega
      have hsb : IntKind.i64.wrap ((i : Int) - (splitN len : Int)) = (i : Int) - (splitN len : Int) := IntWalk.i64_in _ (by omega)
      generalize rootL (L.take (splitN len)) x = R at HE HR2 hR
      generalize pathL (L.drop (splitN len)) (i - splitN len) x = PL at HE HI2 hpl
      generalize splitN len = k at hk1 hk2 HSP HI2 HR2 hc1 hc2 hpl hki hsb
      clear hcc hL htab ih hlen hik
      go_enter Tryd.func82, Tryd.ntmps82
      go_wp2_with fail
      refine (HSP.out _).mono ?_
      rintro e w' ⟨rfl, rfl⟩
      generalize hm : off + 32 * k = o2 at hc2 HI2
      generalize hm2 : len - k = l2 at hc2 HI2 hpl
      generalize hm3 : cap - k = c2 at hc2 HI2
      have hl2 : l2 ≤ 1000000 := by omega
      clear hm hm2 hm3 HSP
      go_wp2_with fail
      have hk : Below w.heap.size w w.drew := below_drewN (Below.refl _ _) 1
      refine wp_region_held_drew (S := fun W => Below w.heap.size w W) (by kernel_rfl) hk (fun _ => ?_)
      refine wpAnyH_take (i := 0) (oi := { dst := some 30, op := Op.move (Operand.tmp 0), type := 60, pos := "merkle.go:76", after := #[], guard := none }) (v := ?vpathr1) rfl (by kernel_rfl) (by kernel_rfl) (by kernel_rfl) (fun _ _ _ h => h) (Or.inl ⟨by rfl, ?ypathr1⟩) hk ?rpathr1
      case ypathr1 => (intro w hSw; (try dsimp only at hSw); go_simp; first | done | with_reducible rfl)
      simp only [Act.put, List.setIfInBounds_toArray, List.set_cons_zero, List.set_cons_succ]
      refine wpAnyH_take (i := 1) (oi := { dst := some 31, op := Op.move (Operand.tmp 7), type := 3, pos := "merkle.go:76", after := #[], guard := none }) (v := ?vpathr2) rfl (by kernel_rfl) (by kernel_rfl) (by kernel_rfl) (fun _ _ _ h => h) (Or.inl ⟨by rfl, ?ypathr2⟩) hk ?rpathr2
      case ypathr2 => (intro w hSw; (try dsimp only at hSw); go_simp; first | done | with_reducible rfl)
      simp only [Act.put, List.setIfInBounds_toArray, List.set_cons_zero, List.set_cons_succ]
      refine wpAnyH_take (i := 2) (oi := { dst := some 32, op := Op.slice 60 (Operand.tmp 30) (some (Operand.tmp 31)) none none, type := 60, pos := "merkle.go:76", after := #[{ on := 0, ground := Ground.data }, { on := 1, ground := Ground.data }], guard := none }) (v := ?vpathr3) rfl (by kernel_rfl) (by kernel_rfl) (by kernel_rfl) (fun _ _ _ h => h) (Or.inl ⟨by rfl, ?ypathr3⟩) hk ?rpathr3
      case ypathr3 => (intro w hSw; (try dsimp only at hSw); go_simp; first | done | with_reducible rfl)
      simp only [Act.put, List.setIfInBounds_toArray, List.set_cons_zero, List.set_cons_succ]
      refine wpAnyH_take (i := 3) (oi := { dst := some 33, op := Op.move (Operand.tmp 1), type := 3, pos := "merkle.go:76", after := #[], guard := none }) (v := ?vpathr4) rfl (by kernel_rfl) (by kernel_rfl) (by kernel_rfl) (fun _ _ _ h => h) (Or.inl ⟨by rfl, ?ypathr4⟩) hk ?rpathr4
      case ypathr4 => (intro w hSw; (try dsimp only at hSw); go_simp; first | done | with_reducible rfl)
      simp only [Act.put, List.setIfInBounds_toArray, List.set_cons_zero, List.set_cons_succ]
      refine wpAnyH_take (i := 4) (oi := { dst := some 34, op := Op.move (Operand.tmp 7), type := 3, pos := "merkle.go:76", after := #[], guard := none }) (v := ?vpathr5) rfl (by kernel_rfl) (by kernel_rfl) (by kernel_rfl) (fun _ _ _ h => h) (Or.inl ⟨by rfl, ?ypathr5⟩) hk ?rpathr5
      case ypathr5 => (intro w hSw; (try dsimp only at hSw); go_simp; first | done | with_reducible rfl)
      simp only [Act.put, List.setIfInBounds_toArray, List.set_cons_zero, List.set_cons_succ]
      refine wpAnyH_take (i := 5) (oi := { dst := some 35, op := Op.binOp BinOp.sub 3 (Operand.tmp 33) (Operand.tmp 34) 3, type := 3, pos := "merkle.go:76", after := #[{ on := 3, ground := Ground.data }, { on := 4, ground := Ground.data }], guard := none }) (v := ?vpathr6) rfl (by kernel_rfl) (by kernel_rfl) (by kernel_rfl) (fun _ _ _ h => h) (Or.inl ⟨by rfl, ?ypathr6⟩) hk ?rpathr6
      case ypathr6 => (intro w hSw; (try dsimp only at hSw); go_simp; first | done | with_reducible rfl)
      simp only [Act.put, List.setIfInBounds_toArray, List.set_cons_zero, List.set_cons_succ]
      refine wpAnyH_take (i := 6) (oi := { dst := some 36, op := Op.move (Operand.tmp 2), type := 3, pos := "merkle.go:76", after := #[], guard := none }) (v := ?vpathr7) rfl (by kernel_rfl) (by kernel_rfl) (by kernel_rfl) (fun _ _ _ h => h) (Or.inl ⟨by rfl, ?ypathr7⟩) hk ?rpathr7
      case ypathr7 => (intro w hSw; (try dsimp only at hSw); go_simp; first | done | with_reducible rfl)
      simp only [Act.put, List.setIfInBounds_toArray, List.set_cons_zero, List.set_cons_succ]
      refine wpAnyH_take (i := 8) (oi := { dst := some 38, op := Op.move (Operand.tmp 0), type := 60, pos := "merkle.go:76", after := #[], guard := none }) (v := ?vpathr8) rfl (by kernel_rfl) (by kernel_rfl) (by kernel_rfl) (fun _ _ _ h => h) (Or.inl ⟨by rfl, ?ypathr8⟩) hk ?rpathr8
      case ypathr8 => (intro w hSw; (try dsimp only at hSw); go_simp; first | done | with_reducible rfl)
      simp only [Act.put, List.setIfInBounds_toArray, List.set_cons_zero, List.set_cons_succ]
      refine wpAnyH_take (i := 9) (oi := { dst := some 39, op := Op.move (Operand.tmp 7), type := 3, pos := "merkle.go:76", after := #[], guard := none }) (v := ?vpathr9) rfl (by kernel_rfl) (by kernel_rfl) (by kernel_rfl) (fun _ _ _ h => h) (Or.inl ⟨by rfl, ?ypathr9⟩) hk ?rpathr9
      case ypathr9 => (intro w hSw; (try dsimp only at hSw); go_simp; first | done | with_reducible rfl)
      simp only [Act.put, List.setIfInBounds_toArray, List.set_cons_zero, List.set_cons_succ]
      refine wpAnyH_take (i := 10) (oi := { dst := some 40, op := Op.slice 60 (Operand.tmp 38) none (some (Operand.tmp 39)) none, type := 60, pos := "merkle.go:76", after := #[{ on := 8, ground := Ground.data }, { on := 9, ground := Ground.data }], guard := none }) (v := ?vpathr10) rfl (by kernel_rfl) (by kernel_rfl) (by kernel_rfl) (fun _ _ _ h => h) (Or.inl ⟨by rfl, ?ypathr10⟩) hk ?rpathr10
      case ypathr10 => (intro w hSw; (try dsimp only at hSw); go_simp; first | done | with_reducible rfl)
      simp only [Act.put, List.setIfInBounds_toArray, List.set_cons_zero, List.set_cons_succ]
      refine wpAnyH_take (i := 11) (oi := { dst := some 41, op := Op.move (Operand.tmp 2), type := 3, pos := "merkle.go:76", after := #[], guard := none }) (v := ?vpathr11) rfl (by kernel_rfl) (by kernel_rfl) (by kernel_rfl) (fun _ _ _ h => h) (Or.inl ⟨by rfl, ?ypathr11⟩) hk ?rpathr11
      case ypathr11 => (intro w hSw; (try dsimp only at hSw); go_simp; first | done | with_reducible rfl)
      simp only [Act.put, List.setIfInBounds_toArray, List.set_cons_zero, List.set_cons_succ]
      refine wpAnyH_ready (rs := [7]) (by decide +kernel) (by simp) ?_
      refine AllReadyH.cons (o := { dst := some 37, op := Op.call { callee := Callee.value (Operand.func 82), args := #[Operand.tmp 32, Operand.tmp 35, Operand.tmp 36], argTypes := #[60, 3, 3] }, type := 60, pos := "merkle.go:76", after := #[{ on := 2, ground := Ground.data }, { on := 5, ground := Ground.data }, { on := 6, ground := Ground.data }], guard := none }) rfl (fun K hK => ?_) AllReadyH.nil
      go_simp
      refine (HI2.out _ hk).mono ?_
      rintro e1 w7 ⟨v7, rfl, hown0, hb1⟩
      have hown := owns_base hown0 hk.size
      replace hk := hk.trans (hb1.mono hk.size)
      clear hb1 hown0
      refine hK.out _ _ hk (fun _ => ?_)
      clear hK K
      try simp only [Act.put, List.setIfInBounds_toArray, List.set_cons_zero, List.set_cons_succ]
      refine wpAnyH_ready (rs := [12]) (by decide +kernel) (by simp) ?_
      refine AllReadyH.cons (o := { dst := some 42, op := Op.call { callee := Callee.value (Operand.func 80), args := #[Operand.tmp 40, Operand.tmp 41], argTypes := #[60, 3] }, type := 30, pos := "merkle.go:76", after := #[{ on := 10, ground := Ground.data }, { on := 11, ground := Ground.data }, { on := 7, ground := Ground.chain }], guard := none }) rfl (fun K hK => ?_) AllReadyH.nil
      go_simp
      refine (HR2.out _ hk).mono ?_
      rintro e1 w12 ⟨rfl, hb1⟩
      replace hown := owns_below hown hb1
      replace hk := hk.trans (hb1.mono hk.size)
      clear hb1
      refine hK.out _ _ hk (fun _ => ?_)
      clear hK K
      try simp only [Act.put, List.setIfInBounds_toArray, List.set_cons_zero, List.set_cons_succ]
      refine wpAnyH_ready (rs := [13]) (by decide +kernel) (by simp) ?_
      refine AllReadyH.cons (o := { dst := some 43, op := Op.buildSlice 60 1 #[(0, Operand.tmp 42)], type := 60, pos := "merkle.go:76", after := #[{ on := 12, ground := Ground.data }], guard := none }) rfl (fun K hK => ?_) AllReadyH.nil
      rw [if_pos (by rfl)]
      refine wp_build_one (.tmp 42) rfl R hR.1 rfl ?_
      have hone := one_new w12 R hR
      replace hown := owns_new hown rfl (.cells (bv R).toArray 30)
      replace hk := hk.alloc hk.size (.cells (bv R).toArray 30)
      simp only [Act.put, List.setIfInBounds_toArray, List.set_cons_zero, List.set_cons_succ]
      refine hK.out _ _ hk (fun _ => ?_)
      clear hK K
      try simp only [Act.put, List.setIfInBounds_toArray, List.set_cons_zero, List.set_cons_succ]
      refine wpAnyH_ready (rs := [14]) (by decide +kernel) (by simp) ?_
      refine AllReadyH.cons (o := { dst := some 44, op := Op.call { callee := Callee.builtin Builtin.append, args := #[Operand.tmp 37, Operand.tmp 43], argTypes := #[60, 60] }, type := 60, pos := "merkle.go:76", after := #[{ on := 7, ground := Ground.data }, { on := 13, ground := Ground.data }, { on := 12, ground := Ground.chain }], guard := none }) rfl (fun K hK => ?_) AllReadyH.nil
      refine step_append_dgs rfl (.tmp 37) (.tmp 43) rfl w.heap.size PL.length _ PL rfl hown _ 1 1 [R] rfl hone (by omega) hk.size ?_
      intro v14 w14 hown2 hb1 _
      replace hk := hk.trans hb1
      clear hb1 hown hone
      refine hK.out _ _ hk (fun _ => ?_)
      clear hK K
      try simp only [Act.put, List.setIfInBounds_toArray, List.set_cons_zero, List.set_cons_succ]
      refine wpAnyH_take (i := 15) (oi := { dst := some 6, op := Op.assign (Operand.tmp 44), type := 60, pos := "merkle.go:76", after := #[{ on := 14, ground := Ground.data }, { on := 14, ground := Ground.chain }, { on := 0, ground := Ground.phase }, { on := 1, ground := Ground.phase }, { on := 2, ground := Ground.phase }, { on := 3, ground := Ground.phase }, { on := 4, ground := Ground.phase }, { on := 5, ground := Ground.phase }, { on := 6, ground := Ground.phase }, { on := 7, ground := Ground.phase }, { on := 8, ground := Ground.phase }, { on := 9, ground := Ground.phase }, { on := 10, ground := Ground.phase }, { on := 11, ground := Ground.phase }, { on := 12, ground := Ground.phase }, { on := 13, ground := Ground.phase }, { on := 14, ground := Ground.phase }], guard := none }) (v := ?vpathr13) rfl (by kernel_rfl) (by kernel_rfl) (by kernel_rfl) (fun _ _ _ h => h) (Or.inl ⟨by rfl, ?ypathr13⟩) hk ?rpathr13
      case ypathr13 => (intro w hSw; (try dsimp only at hSw); go_simp; first | done | with_reducible rfl)
      simp only [Act.put, List.setIfInBounds_toArray, List.set_cons_zero, List.set_cons_succ]
      refine wpAnyH_done (by decide +kernel) ?_ _
      clear hc1 hc2 HI2 HR2
      go_wp2
      go_ret
      exact ⟨_, rfl, by rw [HE.out, List.length_append]; exact hown2, hk⟩
end Go.Proofs.YtbednfacipphhaaDoor
namespace Go.Proofs.YtbednfacipphhaaDoor
open Go.RowKit
set_option linter.unusedVariables false

/-- the path of whatever place, and the error -/
def pV (L : List (List Int)) (i : Int) (x : Int) : List (List Int) := if 0 ≤ i ∧ i < (L.length : Int) then pathL L i.toNat x else []
def pE (n : Nat) (i : Int) : Int := if 0 ≤ i ∧ i < (n : Int) then 0 else 2
set_option maxRecDepth 100000 in
theorem pV_dg {L : List (List Int)} (h : Dgl L) (i x : Int) : Dgl (pV L i x) := by
  unfold pV; split
  · exact pathL_dg L.length L _ x (Nat.le_refl _) h
  · exact Dgl.nil
set_option maxRecDepth 100000 in
theorem pV_len (L : List (List Int)) (i x : Int) : (pV L i x).length ≤ L.length := by
  unfold pV; split
  · exact pathL_len L.length L _ x (Nat.le_refl _)
  · exact Nat.zero_le _

set_option maxRecDepth 100000 in
theorem path_any (a : Option Addr) (len cap : Nat) (L : List (List Int)) (i x : Int) (w : World) (hL : Dgs w a len cap L) (htab : Tab w) (hbd : len ≤ 1000000) :
    Calls Tryd.prog 56 #[.slice a len cap, .int .i64 i, .int .i64 x] w fun e w' => ∃ v, e = .returned (.tuple #[v, .int .i64 (pE len i)]) ∧ w'.ownsRow w.heap.size 30 32 v (pV L i x).length (bv (pV L i x).flatten) ∧ Below w.heap.size w w' := by
  have hlen := hL.len_eq
  by_cases hin : 0 ≤ i ∧ i < (len : Int)
  · have HV : Bx (pV L i x = pathL L i.toNat x) := ⟨by unfold pV; rw [hlen, if_pos hin]⟩
    have HE : Bx (pE len i = 0) := ⟨if_pos hin⟩
    rw [HE.out, HV.out]
    obtain ⟨j, rfl⟩ : ∃ j : Nat, i = (j : Int) := ⟨i.toNat, by omega⟩
    have h1 : decide ((j : Int) < 0) = false := by simp
    have h2 : decide (len ≤ j) = false := by simp; omega
    have HP : Bx (Calls Tryd.prog 82 #[.slice a len cap, .int .i64 j, .int .i64 x] w fun e w' => ∃ v, e = .returned v ∧ w'.ownsRow w.heap.size 30 32 v (pathL L j x).length (bv (pathL L j x).flatten) ∧ Below w.heap.size w w') := ⟨pathin_any len a len cap L j x w (Nat.le_refl _) hL htab hbd (by omega)⟩
    have ht : ((j : Int)).toNat = j := by omega
    rw [ht]
    clear hL htab hlen HV HE hin ht
    go_enter Tryd.func56, Tryd.ntmps56
    go_wp2_with fail
    refine HP.out.mono ?_
    rintro e w1 ⟨v, rfl, ho, hb⟩
    clear HP
    go_wp2
    go_ret2
    exact ⟨v, rfl, ho, hb⟩
  · have HV : Bx (pV L i x = []) := ⟨by unfold pV; rw [hlen, if_neg hin]⟩
    have HE : Bx (pE len i = 2) := ⟨if_neg hin⟩
    rw [HE.out, HV.out]
    have hon := World.ownsRow_nil w w.heap.size 30 32
    by_cases h0 : i < 0
    · have h1 : decide (i < 0) = true := by simpa using h0
      clear hL htab hlen HV HE hin
      go_enter Tryd.func56, Tryd.ntmps56
      go_wp2
      go_ret2
      exact ⟨_, rfl, hon, Below.refl _ _⟩
    · have h1 : decide (i < 0) = false := by simpa using h0
      have h2 : decide (i ≥ (len : Int)) = true := by simp; omega
      clear hL htab hlen HV HE hin
      go_enter Tryd.func56, Tryd.ntmps56
      go_wp2
      go_ret2
      exact ⟨_, rfl, hon, Below.refl _ _⟩
end Go.Proofs.YtbednfacipphhaaDoor
namespace Go.Proofs.YtbednfacipphhaaDoor
open Go.RowKit
set_option linter.unusedVariables false

/-- the growth from whatever beginning, and the error -/
def gV (L : List (List Int)) (m : Int) (x : Int) : List (List Int) := if 1 ≤ m ∧ m ≤ (L.length : Int) then growL L m.toNat true x else []
def gE (n : Nat) (m : Int) : Int := if 1 ≤ m ∧ m ≤ (n : Int) then 0 else 2
set_option maxRecDepth 100000 in
theorem gV_dg {L : List (List Int)} (h : Dgl L) (m x : Int) : Dgl (gV L m x) := by
  unfold gV; split
  · exact growL_dg L.length L _ true x (Nat.le_refl _) (by omega) (by omega) h
  · exact Dgl.nil
set_option maxRecDepth 100000 in
theorem gV_len (L : List (List Int)) (m x : Int) : (gV L m x).length ≤ L.length := by
  unfold gV; split
  · exact growL_len L.length L _ true x (Nat.le_refl _) (by omega) (by omega)
  · exact Nat.zero_le _

set_option maxRecDepth 100000 in
set_option maxHeartbeats 1000000 in
theorem growin_any (n : Nat) : ∀ (a : Option Addr) (len cap : Nat) (L : List (List Int)) (m : Nat) (b : Bool) (x : Int) (w : World), len ≤ n → Dgs w a len cap L → Tab w → len ≤ 1000000 → 1 ≤ m → m ≤ len →
    Calls Tryd.prog 83 #[.slice a len cap, .int .i64 m, .bool b, .int .i64 x] w fun e w' => ∃ v, e = .returned v ∧ w'.ownsRow w.heap.size 30 32 v (growL (L) (m) b x).length (bv (growL (L) (m) b x).flatten) ∧ Below w.heap.size w w' := by
  induction n using Nat.strongRecOn with
  | ind n ih =>
  intro a len cap L m b x w hn hL htab hbd h1m hml
  have hlen := hL.len_eq
  by_cases hm : m = len
  · subst hm
    have q1 : ((m : Int) == (m : Int)) = true := by simp
    cases b with
    | true =>
      have HE : Bx (growL L m true x = []) := ⟨by rw [← hlen]; exact growL_all L x⟩
      clear ih hL
      go_enter Tryd.func83, Tryd.ntmps83
      go_wp2
      go_ret
      exact ⟨_, rfl, by rw [HE.out]; exact World.ownsRow_nil _ _ _ _, Below.refl _ _⟩
    | false =>
      have HE : Bx (growL L m false x = [rootL L x]) := ⟨by rw [← hlen]; exact growL_some L x⟩
      have HR : Bx (Calls Tryd.prog 80 #[.slice a m cap, .int .i64 x] w fun e w' => e = .returned (.agg (bv (rootL L x)).toArray) ∧ Below w.heap.size w w') := ⟨root_any m a m cap L x w (Nat.le_refl _) hL htab hbd⟩
      have hR := rootL_dg L x hL.dig
      generalize rootL L x = R at HE HR hR
      clear ih hL htab
      go_enter Tryd.func83, Tryd.ntmps83
      go_wp2_with fail
      refine HR.out.mono ?_
      rintro e w1 ⟨rfl, hb1⟩
      have hown : (w1.alloc (.cells (bv R).toArray 30)).ownsRow w.heap.size 30 32 (.slice (some ⟨w1.heap.size, 0, none⟩) 1 1) 1 (bv R) := World.ownsRow_lit w1 (bv R).toArray 1 hb1.size (by unfold maxLen; omega) (by rw [List.size_toArray, bv_length, hR.1])
      have hb2 := hb1.alloc hb1.size (.cells (bv R).toArray 30)
      clear HR hb1
      go_wp2_with (refine wpList_build_one rfl (.tmp 17) rfl R hR.1 rfl ?_; generalize w1.alloc (.cells (bv R).toArray 30) = w2 at hown hb2 ⊢)
      go_ret
      exact ⟨_, rfl, by rw [HE.out]; simpa using hown, hb2⟩
  · have q1 : ((m : Int) == (len : Int)) = false := by simp; omega
    obtain ⟨bk, off, rfl, hlt, hcc⟩ := hL.spot (by omega)
    have hk1 := splitN_pos (n := len) (by omega)
    have hk2 := splitN_lt (n := len) (by omega)
    have hcap := hL.le_cap
    have HSP : Bx (∀ W, Calls Tryd.prog 84 #[.int .i64 (len : Int)] W fun e w' => e = .returned (.int .i64 (splitN len : Int)) ∧ W = w') := ⟨fun W => split_any (len : Int) W (by omega)⟩
    have hc1 := dgs_cut bk off len cap (splitN len) (by omega)
    have hc2 := dgs_rest bk off len cap (splitN len) (by omega) (by omega)
    by_cases hmk : m ≤ splitN len
    · have HE : Bx (growL L m b x = growL (L.take (splitN len)) m b x ++ [rootL (L.drop (splitN len)) x]) := ⟨by rw [growL_left L m b x h1m (by omega) (by rw [hlen]; exact hmk), hlen]⟩
      have HI1 : Bx (∀ W, Below w.heap.size w W → Calls Tryd.prog 83 #[.slice (some ⟨bk, off, none⟩) (splitN len) cap, .int .i64 m, .bool b, .int .i64 x] W fun e w' => ∃ v, e = .returned v ∧ w'.ownsRow W.heap.size 30 32 v (growL (L.take (splitN len)) (m) b x).length (bv (growL (L.take (splitN len)) (m) b x).flatten) ∧ Below W.heap.size W w') :=
        ⟨fun W hW => ih (splitN len) (by omega) _ _ _ _ m b x W (Nat.le_refl _) ((hL.below hW).take _ (by omega)) (htab.below hW) (by omega) h1m hmk⟩
      have HR1 : Bx (∀ W, Below w.heap.size w W → Calls Tryd.prog 80 #[.slice (some ⟨bk, off + 32 * splitN len, none⟩) (len - splitN len) (cap - splitN len), .int .i64 x] W fun e w' => e = .returned (.agg (bv (rootL (L.drop (splitN len)) x)).toArray) ∧ Below W.heap.size W w') :=
        ⟨fun W hW => root_any (len - splitN len) _ _ _ _ x W (Nat.le_refl _) ((hL.below hW).drop _ (by omega)) (htab.below hW) (by omega)⟩
      have hR := rootL_dg (L.drop (splitN len)) x (hL.dig.drop _)
      have hpl := growL_len (splitN len) (L.take (splitN len)) m b x (by rw [List.length_take]; omega) h1m (by rw [List.length_take]; omega)
      have hki : (m : Int) ≤ (splitN len : Int) := by omega
      generalize rootL (L.drop (splitN len)) x = R at HE HR1 hR
      generalize growL (L.take (splitN len)) m b x = PL at HE HI1 hpl
      generalize splitN len = k at hk1 hk2 HSP HI1 HR1 hc1 hc2 hpl hki
      clear hcc hL htab ih hlen hmk hm
      go_enter Tryd.func83, Tryd.ntmps83
      go_wp2_with fail
      refine (HSP.out _).mono ?_
      rintro e w' ⟨rfl, rfl⟩
      generalize hm : off + 32 * k = o2 at hc2 HR1
      generalize hm2 : len - k = l2 at hc2 HR1
      generalize hm3 : cap - k = c2 at hc2 HR1
      clear hm hm2 hm3 HSP
      go_wp2_with fail
      have hk : Below w.heap.size w w.drew := below_drewN (Below.refl _ _) 1
      refine wp_region_held_drew (S := fun W => Below w.heap.size w W) (by kernel_rfl) hk (fun _ => ?_)
      refine wpAnyH_take (i := 0) (oi := { dst := some 25, op := Op.move (Operand.tmp 0), type := 60, pos := "merkle.go:124", after := #[], guard := none }) (v := ?vgrowl1) rfl (by kernel_rfl) (by kernel_rfl) (by kernel_rfl) (fun _ _ _ h => h) (Or.inl ⟨by rfl, ?ygrowl1⟩) hk ?rgrowl1
      case ygrowl1 => (intro w hSw; (try dsimp only at hSw); go_simp; first | done | with_reducible rfl)
      simp only [Act.put, List.setIfInBounds_toArray, List.set_cons_zero, List.set_cons_succ]
      refine wpAnyH_take (i := 1) (oi := { dst := some 26, op := Op.move (Operand.tmp 9), type := 3, pos := "merkle.go:124", after := #[], guard := none }) (v := ?vgrowl2) rfl (by kernel_rfl) (by kernel_rfl) (by kernel_rfl) (fun _ _ _ h => h) (Or.inl ⟨by rfl, ?ygrowl2⟩) hk ?rgrowl2
      case ygrowl2 => (intro w hSw; (try dsimp only at hSw); go_simp; first | done | with_reducible rfl)
      simp only [Act.put, List.setIfInBounds_toArray, List.set_cons_zero, List.set_cons_succ]
      refine wpAnyH_take (i := 2) (oi := { dst := some 27, op := Op.slice 60 (Operand.tmp 25) none (some (Operand.tmp 26)) none, type := 60, pos := "merkle.go:124", after := #[{ on := 0, ground := Ground.data }, { on := 1, ground := Ground.data }], guard := none }) (v := ?vgrowl3) rfl (by kernel_rfl) (by kernel_rfl) (by kernel_rfl) (fun _ _ _ h => h) (Or.inl ⟨by rfl, ?ygrowl3⟩) hk ?rgrowl3
      case ygrowl3 => (intro w hSw; (try dsimp only at hSw); go_simp; first | done | with_reducible rfl)
      simp only [Act.put, List.setIfInBounds_toArray, List.set_cons_zero, List.set_cons_succ]
      refine wpAnyH_take (i := 3) (oi := { dst := some 28, op := Op.move (Operand.tmp 1), type := 3, pos := "merkle.go:124", after := #[], guard := none }) (v := ?vgrowl4) rfl (by kernel_rfl) (by kernel_rfl) (by kernel_rfl) (fun _ _ _ h => h) (Or.inl ⟨by rfl, ?ygrowl4⟩) hk ?rgrowl4
      case ygrowl4 => (intro w hSw; (try dsimp only at hSw); go_simp; first | done | with_reducible rfl)
      simp only [Act.put, List.setIfInBounds_toArray, List.set_cons_zero, List.set_cons_succ]
      refine wpAnyH_take (i := 4) (oi := { dst := some 29, op := Op.move (Operand.tmp 2), type := 4, pos := "merkle.go:124", after := #[], guard := none }) (v := ?vgrowl5) rfl (by kernel_rfl) (by kernel_rfl) (by kernel_rfl) (fun _ _ _ h => h) (Or.inl ⟨by rfl, ?ygrowl5⟩) hk ?rgrowl5
      case ygrowl5 => (intro w hSw; (try dsimp only at hSw); go_simp; first | done | with_reducible rfl)
      simp only [Act.put, List.setIfInBounds_toArray, List.set_cons_zero, List.set_cons_succ]
      refine wpAnyH_take (i := 5) (oi := { dst := some 30, op := Op.move (Operand.tmp 3), type := 3, pos := "merkle.go:124", after := #[], guard := none }) (v := ?vgrowl6) rfl (by kernel_rfl) (by kernel_rfl) (by kernel_rfl) (fun _ _ _ h => h) (Or.inl ⟨by rfl, ?ygrowl6⟩) hk ?rgrowl6
      case ygrowl6 => (intro w hSw; (try dsimp only at hSw); go_simp; first | done | with_reducible rfl)
      simp only [Act.put, List.setIfInBounds_toArray, List.set_cons_zero, List.set_cons_succ]
      refine wpAnyH_take (i := 7) (oi := { dst := some 32, op := Op.move (Operand.tmp 0), type := 60, pos := "merkle.go:124", after := #[], guard := none }) (v := ?vgrowl7) rfl (by kernel_rfl) (by kernel_rfl) (by kernel_rfl) (fun _ _ _ h => h) (Or.inl ⟨by rfl, ?ygrowl7⟩) hk ?rgrowl7
      case ygrowl7 => (intro w hSw; (try dsimp only at hSw); go_simp; first | done | with_reducible rfl)
      simp only [Act.put, List.setIfInBounds_toArray, List.set_cons_zero, List.set_cons_succ]
      refine wpAnyH_take (i := 8) (oi := { dst := some 33, op := Op.move (Operand.tmp 9), type := 3, pos := "merkle.go:124", after := #[], guard := none }) (v := ?vgrowl8) rfl (by kernel_rfl) (by kernel_rfl) (by kernel_rfl) (fun _ _ _ h => h) (Or.inl ⟨by rfl, ?ygrowl8⟩) hk ?rgrowl8
      case ygrowl8 => (intro w hSw; (try dsimp only at hSw); go_simp; first | done | with_reducible rfl)
      simp only [Act.put, List.setIfInBounds_toArray, List.set_cons_zero, List.set_cons_succ]
      refine wpAnyH_take (i := 9) (oi := { dst := some 34, op := Op.slice 60 (Operand.tmp 32) (some (Operand.tmp 33)) none none, type := 60, pos := "merkle.go:124", after := #[{ on := 7, ground := Ground.data }, { on := 8, ground := Ground.data }], guard := none }) (v := ?vgrowl9) rfl (by kernel_rfl) (by kernel_rfl) (by kernel_rfl) (fun _ _ _ h => h) (Or.inl ⟨by rfl, ?ygrowl9⟩) hk ?rgrowl9
      case ygrowl9 => (intro w hSw; (try dsimp only at hSw); go_simp; first | done | with_reducible rfl)
      simp only [Act.put, List.setIfInBounds_toArray, List.set_cons_zero, List.set_cons_succ]
      refine wpAnyH_take (i := 10) (oi := { dst := some 35, op := Op.move (Operand.tmp 3), type := 3, pos := "merkle.go:124", after := #[], guard := none }) (v := ?vgrowl10) rfl (by kernel_rfl) (by kernel_rfl) (by kernel_rfl) (fun _ _ _ h => h) (Or.inl ⟨by rfl, ?ygrowl10⟩) hk ?rgrowl10
      case ygrowl10 => (intro w hSw; (try dsimp only at hSw); go_simp; first | done | with_reducible rfl)
      simp only [Act.put, List.setIfInBounds_toArray, List.set_cons_zero, List.set_cons_succ]
      refine wpAnyH_ready (rs := [6]) (by decide +kernel) (by simp) ?_
      refine AllReadyH.cons (o := { dst := some 31, op := Op.call { callee := Callee.value (Operand.func 83), args := #[Operand.tmp 27, Operand.tmp 28, Operand.tmp 29, Operand.tmp 30], argTypes := #[60, 3, 4, 3] }, type := 60, pos := "merkle.go:124", after := #[{ on := 2, ground := Ground.data }, { on := 3, ground := Ground.data }, { on := 4, ground := Ground.data }, { on := 5, ground := Ground.data }], guard := none }) rfl (fun K hK => ?_) AllReadyH.nil
      go_simp
      refine (HI1.out _ hk).mono ?_
      rintro e1 w6 ⟨v6, rfl, hown0, hb1⟩
      have hown := owns_base hown0 hk.size
      replace hk := hk.trans (hb1.mono hk.size)
      clear hb1 hown0
      refine hK.out _ _ hk (fun _ => ?_)
      clear hK K
      try simp only [Act.put, List.setIfInBounds_toArray, List.set_cons_zero, List.set_cons_succ]
      refine wpAnyH_ready (rs := [11]) (by decide +kernel) (by simp) ?_
      refine AllReadyH.cons (o := { dst := some 36, op := Op.call { callee := Callee.value (Operand.func 80), args := #[Operand.tmp 34, Operand.tmp 35], argTypes := #[60, 3] }, type := 30, pos := "merkle.go:124", after := #[{ on := 9, ground := Ground.data }, { on := 10, ground := Ground.data }, { on := 6, ground := Ground.chain }], guard := none }) rfl (fun K hK => ?_) AllReadyH.nil
      go_simp
      refine (HR1.out _ hk).mono ?_
      rintro e1 w11 ⟨rfl, hb1⟩
      replace hown := owns_below hown hb1
      replace hk := hk.trans (hb1.mono hk.size)
      clear hb1
      refine hK.out _ _ hk (fun _ => ?_)
      clear hK K
      try simp only [Act.put, List.setIfInBounds_toArray, List.set_cons_zero, List.set_cons_succ]
      refine wpAnyH_ready (rs := [12]) (by decide +kernel) (by simp) ?_
      refine AllReadyH.cons (o := { dst := some 37, op := Op.buildSlice 60 1 #[(0, Operand.tmp 36)], type := 60, pos := "merkle.go:124", after := #[{ on := 11, ground := Ground.data }], guard := none }) rfl (fun K hK => ?_) AllReadyH.nil
      rw [if_pos (by rfl)]
      refine wp_build_one (.tmp 36) rfl R hR.1 rfl ?_
      have hone := one_new w11 R hR
      replace hown := owns_new hown rfl (.cells (bv R).toArray 30)
      replace hk := hk.alloc hk.size (.cells (bv R).toArray 30)
      simp only [Act.put, List.setIfInBounds_toArray, List.set_cons_zero, List.set_cons_succ]
      refine hK.out _ _ hk (fun _ => ?_)
      clear hK K
      try simp only [Act.put, List.setIfInBounds_toArray, List.set_cons_zero, List.set_cons_succ]
      refine wpAnyH_ready (rs := [13]) (by decide +kernel) (by simp) ?_
      refine AllReadyH.cons (o := { dst := some 38, op := Op.call { callee := Callee.builtin Builtin.append, args := #[Operand.tmp 31, Operand.tmp 37], argTypes := #[60, 60] }, type := 60, pos := "merkle.go:124", after := #[{ on := 6, ground := Ground.data }, { on := 12, ground := Ground.data }, { on := 11, ground := Ground.chain }], guard := none }) rfl (fun K hK => ?_) AllReadyH.nil
      refine step_append_dgs rfl (.tmp 31) (.tmp 37) rfl w.heap.size PL.length _ PL rfl hown _ 1 1 [R] rfl hone (by omega) hk.size ?_
      intro vE wE hown2 hb1 _
      replace hk := hk.trans hb1
      clear hb1 hown hone
      refine hK.out _ _ hk (fun _ => ?_)
      clear hK K
      try simp only [Act.put, List.setIfInBounds_toArray, List.set_cons_zero, List.set_cons_succ]
      refine wpAnyH_take (i := 14) (oi := { dst := some 8, op := Op.assign (Operand.tmp 38), type := 60, pos := "merkle.go:124", after := #[{ on := 13, ground := Ground.data }, { on := 13, ground := Ground.chain }, { on := 0, ground := Ground.phase }, { on := 1, ground := Ground.phase }, { on := 2, ground := Ground.phase }, { on := 3, ground := Ground.phase }, { on := 4, ground := Ground.phase }, { on := 5, ground := Ground.phase }, { on := 6, ground := Ground.phase }, { on := 7, ground := Ground.phase }, { on := 8, ground := Ground.phase }, { on := 9, ground := Ground.phase }, { on := 10, ground := Ground.phase }, { on := 11, ground := Ground.phase }, { on := 12, ground := Ground.phase }, { on := 13, ground := Ground.phase }], guard := none }) (v := ?vgrowl12) rfl (by kernel_rfl) (by kernel_rfl) (by kernel_rfl) (fun _ _ _ h => h) (Or.inl ⟨by rfl, ?ygrowl12⟩) hk ?rgrowl12
      case ygrowl12 => (intro w hSw; (try dsimp only at hSw); go_simp; first | done | with_reducible rfl)
      simp only [Act.put, List.setIfInBounds_toArray, List.set_cons_zero, List.set_cons_succ]
      refine wpAnyH_done (by decide +kernel) ?_ _
      clear hc1 hc2 HI1 HR1
      go_wp2
      go_ret
      exact ⟨_, rfl, by rw [HE.out, List.length_append]; exact hown2, hk⟩
    · have HE : Bx (growL L m b x = growL (L.drop (splitN len)) (m - splitN len) false x ++ [rootL (L.take (splitN len)) x]) := ⟨by rw [growL_right L m b x (by omega) (by rw [hlen]; exact hmk), hlen]⟩
      have HI2 : Bx (∀ W, Below w.heap.size w W → Calls Tryd.prog 83 #[.slice (some ⟨bk, off + 32 * splitN len, none⟩) (len - splitN len) (cap - splitN len), .int .i64 ((m : Int) - (splitN len : Int)), .bool false, .int .i64 x] W fun e w' => ∃ v, e = .returned v ∧ w'.ownsRow W.heap.size 30 32 v (growL (L.drop (splitN len)) (m - splitN len) false x).length (bv (growL (L.drop (splitN len)) (m - splitN len) false x).flatten) ∧ Below W.heap.size W w') :=
        ⟨fun W hW => by
          have h := ih (len - splitN len) (by omega) _ _ _ _ (m - splitN len) false x W (Nat.le_refl _) ((hL.below hW).drop (splitN len) (by omega)) (htab.below hW) (by omega) (by omega) (by omega)
          rw [show ((m - splitN len : Nat) : Int) = (m : Int) - (splitN len : Int) from by omega] at h
          exact h⟩
      have HR2 : Bx (∀ W, Below w.heap.size w W → Calls Tryd.prog 80 #[.slice (some ⟨bk, off, none⟩) (splitN len) cap, .int .i64 x] W fun e w' => e = .returned (.agg (bv (rootL (L.take (splitN len)) x)).toArray) ∧ Below W.heap.size W w') :=
        ⟨fun W hW => root_any (splitN len) _ _ _ _ x W (Nat.le_refl _) ((hL.below hW).take _ (by omega)) (htab.below hW) (by omega)⟩
      have hR := rootL_dg (L.take (splitN len)) x (hL.dig.take _)
      have hpl := growL_len (len - splitN len) (L.drop (splitN len)) (m - splitN len) false x (by rw [List.length_drop]; omega) (by omega) (by rw [List.length_drop]; omega)
      have hki : ¬ (m : Int) ≤ (splitN len : Int) := by omega
      have hsb : IntKind.i64.wrap ((m : Int) - (splitN len : Int)) = (m : Int) - (splitN len : Int) := IntWalk.i64_in _ (by omega)
      generalize rootL (L.take (splitN len)) x = R at HE HR2 hR
      generalize growL (L.drop (splitN len)) (m - splitN len) false x = PL at HE HI2 hpl
      generalize splitN len = k at hk1 hk2 HSP HI2 HR2 hc1 hc2 hpl hki hsb
      clear hcc hL htab ih hlen hmk hm
      go_enter Tryd.func83, Tryd.ntmps83
      go_wp2_with fail
      refine (HSP.out _).mono ?_
      rintro e w' ⟨rfl, rfl⟩
      generalize hm : off + 32 * k = o2 at hc2 HI2
      generalize hm2 : len - k = l2 at hc2 HI2 hpl
      generalize hm3 : cap - k = c2 at hc2 HI2
      have hl2 : l2 ≤ 1000000 := by omega
      clear hm hm2 hm3 HSP
      go_wp2_with fail
      have hk : Below w.heap.size w w.drew := below_drewN (Below.refl _ _) 1
      refine wp_region_held_drew (S := fun W => Below w.heap.size w W) (by kernel_rfl) hk (fun _ => ?_)
      refine wpAnyH_take (i := 0) (oi := { dst := some 39, op := Op.move (Operand.tmp 0), type := 60, pos := "merkle.go:126", after := #[], guard := none }) (v := ?vgrowr1) rfl (by kernel_rfl) (by kernel_rfl) (by kernel_rfl) (fun _ _ _ h => h) (Or.inl ⟨by rfl, ?ygrowr1⟩) hk ?rgrowr1
      case ygrowr1 => (intro w hSw; (try dsimp only at hSw); go_simp; first | done | with_reducible rfl)
      simp only [Act.put, List.setIfInBounds_toArray, List.set_cons_zero, List.set_cons_succ]
      refine wpAnyH_take (i := 1) (oi := { dst := some 40, op := Op.move (Operand.tmp 9), type := 3, pos := "merkle.go:126", after := #[], guard := none }) (v := ?vgrowr2) rfl (by kernel_rfl) (by kernel_rfl) (by kernel_rfl) (fun _ _ _ h => h) (Or.inl ⟨by rfl, ?ygrowr2⟩) hk ?rgrowr2
      case ygrowr2 => (intro w hSw; (try dsimp only at hSw); go_simp; first | done | with_reducible rfl)
      simp only [Act.put, List.setIfInBounds_toArray, List.set_cons_zero, List.set_cons_succ]
      refine wpAnyH_take (i := 2) (oi := { dst := some 41, op := Op.slice 60 (Operand.tmp 39) (some (Operand.tmp 40)) none none, type := 60, pos := "merkle.go:126", after := #[{ on := 0, ground := Ground.data }, { on := 1, ground := Ground.data }], guard := none }) (v := ?vgrowr3) rfl (by kernel_rfl) (by kernel_rfl) (by kernel_rfl) (fun _ _ _ h => h) (Or.inl ⟨by rfl, ?ygrowr3⟩) hk ?rgrowr3
      case ygrowr3 => (intro w hSw; (try dsimp only at hSw); go_simp; first | done | with_reducible rfl)
      simp only [Act.put, List.setIfInBounds_toArray, List.set_cons_zero, List.set_cons_succ]
      refine wpAnyH_take (i := 3) (oi := { dst := some 42, op := Op.move (Operand.tmp 1), type := 3, pos := "merkle.go:126", after := #[], guard := none }) (v := ?vgrowr4) rfl (by kernel_rfl) (by kernel_rfl) (by kernel_rfl) (fun _ _ _ h => h) (Or.inl ⟨by rfl, ?ygrowr4⟩) hk ?rgrowr4
      case ygrowr4 => (intro w hSw; (try dsimp only at hSw); go_simp; first | done | with_reducible rfl)
      simp only [Act.put, List.setIfInBounds_toArray, List.set_cons_zero, List.set_cons_succ]
      refine wpAnyH_take (i := 4) (oi := { dst := some 43, op := Op.move (Operand.tmp 9), type := 3, pos := "merkle.go:126", after := #[], guard := none }) (v := ?vgrowr5) rfl (by kernel_rfl) (by kernel_rfl) (by kernel_rfl) (fun _ _ _ h => h) (Or.inl ⟨by rfl, ?ygrowr5⟩) hk ?rgrowr5
      case ygrowr5 => (intro w hSw; (try dsimp only at hSw); go_simp; first | done | with_reducible rfl)
      simp only [Act.put, List.setIfInBounds_toArray, List.set_cons_zero, List.set_cons_succ]
      refine wpAnyH_take (i := 5) (oi := { dst := some 44, op := Op.binOp BinOp.sub 3 (Operand.tmp 42) (Operand.tmp 43) 3, type := 3, pos := "merkle.go:126", after := #[{ on := 3, ground := Ground.data }, { on := 4, ground := Ground.data }], guard := none }) (v := ?vgrowr6) rfl (by kernel_rfl) (by kernel_rfl) (by kernel_rfl) (fun _ _ _ h => h) (Or.inl ⟨by rfl, ?ygrowr6⟩) hk ?rgrowr6
      case ygrowr6 => (intro w hSw; (try dsimp only at hSw); go_simp; first | done | with_reducible rfl)
      simp only [Act.put, List.setIfInBounds_toArray, List.set_cons_zero, List.set_cons_succ]
      refine wpAnyH_take (i := 6) (oi := { dst := some 45, op := Op.move (Operand.tmp 3), type := 3, pos := "merkle.go:126", after := #[], guard := none }) (v := ?vgrowr7) rfl (by kernel_rfl) (by kernel_rfl) (by kernel_rfl) (fun _ _ _ h => h) (Or.inl ⟨by rfl, ?ygrowr7⟩) hk ?rgrowr7
      case ygrowr7 => (intro w hSw; (try dsimp only at hSw); go_simp; first | done | with_reducible rfl)
      simp only [Act.put, List.setIfInBounds_toArray, List.set_cons_zero, List.set_cons_succ]
      refine wpAnyH_take (i := 8) (oi := { dst := some 47, op := Op.move (Operand.tmp 0), type := 60, pos := "merkle.go:126", after := #[], guard := none }) (v := ?vgrowr8) rfl (by kernel_rfl) (by kernel_rfl) (by kernel_rfl) (fun _ _ _ h => h) (Or.inl ⟨by rfl, ?ygrowr8⟩) hk ?rgrowr8
      case ygrowr8 => (intro w hSw; (try dsimp only at hSw); go_simp; first | done | with_reducible rfl)
      simp only [Act.put, List.setIfInBounds_toArray, List.set_cons_zero, List.set_cons_succ]
      refine wpAnyH_take (i := 9) (oi := { dst := some 48, op := Op.move (Operand.tmp 9), type := 3, pos := "merkle.go:126", after := #[], guard := none }) (v := ?vgrowr9) rfl (by kernel_rfl) (by kernel_rfl) (by kernel_rfl) (fun _ _ _ h => h) (Or.inl ⟨by rfl, ?ygrowr9⟩) hk ?rgrowr9
      case ygrowr9 => (intro w hSw; (try dsimp only at hSw); go_simp; first | done | with_reducible rfl)
      simp only [Act.put, List.setIfInBounds_toArray, List.set_cons_zero, List.set_cons_succ]
      refine wpAnyH_take (i := 10) (oi := { dst := some 49, op := Op.slice 60 (Operand.tmp 47) none (some (Operand.tmp 48)) none, type := 60, pos := "merkle.go:126", after := #[{ on := 8, ground := Ground.data }, { on := 9, ground := Ground.data }], guard := none }) (v := ?vgrowr10) rfl (by kernel_rfl) (by kernel_rfl) (by kernel_rfl) (fun _ _ _ h => h) (Or.inl ⟨by rfl, ?ygrowr10⟩) hk ?rgrowr10
      case ygrowr10 => (intro w hSw; (try dsimp only at hSw); go_simp; first | done | with_reducible rfl)
      simp only [Act.put, List.setIfInBounds_toArray, List.set_cons_zero, List.set_cons_succ]
      refine wpAnyH_take (i := 11) (oi := { dst := some 50, op := Op.move (Operand.tmp 3), type := 3, pos := "merkle.go:126", after := #[], guard := none }) (v := ?vgrowr11) rfl (by kernel_rfl) (by kernel_rfl) (by kernel_rfl) (fun _ _ _ h => h) (Or.inl ⟨by rfl, ?ygrowr11⟩) hk ?rgrowr11
      case ygrowr11 => (intro w hSw; (try dsimp only at hSw); go_simp; first | done | with_reducible rfl)
      simp only [Act.put, List.setIfInBounds_toArray, List.set_cons_zero, List.set_cons_succ]
      refine wpAnyH_ready (rs := [7]) (by decide +kernel) (by simp) ?_
      refine AllReadyH.cons (o := { dst := some 46, op := Op.call { callee := Callee.value (Operand.func 83), args := #[Operand.tmp 41, Operand.tmp 44, Operand.const (Value.bool false), Operand.tmp 45], argTypes := #[60, 3, 4, 3] }, type := 60, pos := "merkle.go:126", after := #[{ on := 2, ground := Ground.data }, { on := 5, ground := Ground.data }, { on := 6, ground := Ground.data }], guard := none }) rfl (fun K hK => ?_) AllReadyH.nil
      go_simp
      refine (HI2.out _ hk).mono ?_
      rintro e1 w7 ⟨v7, rfl, hown0, hb1⟩
      have hown := owns_base hown0 hk.size
      replace hk := hk.trans (hb1.mono hk.size)
      clear hb1 hown0
      refine hK.out _ _ hk (fun _ => ?_)
      clear hK K
      try simp only [Act.put, List.setIfInBounds_toArray, List.set_cons_zero, List.set_cons_succ]
      refine wpAnyH_ready (rs := [12]) (by decide +kernel) (by simp) ?_
      refine AllReadyH.cons (o := { dst := some 51, op := Op.call { callee := Callee.value (Operand.func 80), args := #[Operand.tmp 49, Operand.tmp 50], argTypes := #[60, 3] }, type := 30, pos := "merkle.go:126", after := #[{ on := 10, ground := Ground.data }, { on := 11, ground := Ground.data }, { on := 7, ground := Ground.chain }], guard := none }) rfl (fun K hK => ?_) AllReadyH.nil
      go_simp
      refine (HR2.out _ hk).mono ?_
      rintro e1 w12 ⟨rfl, hb1⟩
      replace hown := owns_below hown hb1
      replace hk := hk.trans (hb1.mono hk.size)
      clear hb1
      refine hK.out _ _ hk (fun _ => ?_)
      clear hK K
      try simp only [Act.put, List.setIfInBounds_toArray, List.set_cons_zero, List.set_cons_succ]
      refine wpAnyH_ready (rs := [13]) (by decide +kernel) (by simp) ?_
      refine AllReadyH.cons (o := { dst := some 52, op := Op.buildSlice 60 1 #[(0, Operand.tmp 51)], type := 60, pos := "merkle.go:126", after := #[{ on := 12, ground := Ground.data }], guard := none }) rfl (fun K hK => ?_) AllReadyH.nil
      rw [if_pos (by rfl)]
      refine wp_build_one (.tmp 51) rfl R hR.1 rfl ?_
      have hone := one_new w12 R hR
      replace hown := owns_new hown rfl (.cells (bv R).toArray 30)
      replace hk := hk.alloc hk.size (.cells (bv R).toArray 30)
      simp only [Act.put, List.setIfInBounds_toArray, List.set_cons_zero, List.set_cons_succ]
      refine hK.out _ _ hk (fun _ => ?_)
      clear hK K
      try simp only [Act.put, List.setIfInBounds_toArray, List.set_cons_zero, List.set_cons_succ]
      refine wpAnyH_ready (rs := [14]) (by decide +kernel) (by simp) ?_
      refine AllReadyH.cons (o := { dst := some 53, op := Op.call { callee := Callee.builtin Builtin.append, args := #[Operand.tmp 46, Operand.tmp 52], argTypes := #[60, 60] }, type := 60, pos := "merkle.go:126", after := #[{ on := 7, ground := Ground.data }, { on := 13, ground := Ground.data }, { on := 12, ground := Ground.chain }], guard := none }) rfl (fun K hK => ?_) AllReadyH.nil
      refine step_append_dgs rfl (.tmp 46) (.tmp 52) rfl w.heap.size PL.length _ PL rfl hown _ 1 1 [R] rfl hone (by omega) hk.size ?_
      intro vE wE hown2 hb1 _
      replace hk := hk.trans hb1
      clear hb1 hown hone
      refine hK.out _ _ hk (fun _ => ?_)
      clear hK K
      try simp only [Act.put, List.setIfInBounds_toArray, List.set_cons_zero, List.set_cons_succ]
      refine wpAnyH_take (i := 15) (oi := { dst := some 8, op := Op.assign (Operand.tmp 53), type := 60, pos := "merkle.go:126", after := #[{ on := 14, ground := Ground.data }, { on := 14, ground := Ground.chain }, { on := 0, ground := Ground.phase }, { on := 1, ground := Ground.phase }, { on := 2, ground := Ground.phase }, { on := 3, ground := Ground.phase }, { on := 4, ground := Ground.phase }, { on := 5, ground := Ground.phase }, { on := 6, ground := Ground.phase }, { on := 7, ground := Ground.phase }, { on := 8, ground := Ground.phase }, { on := 9, ground := Ground.phase }, { on := 10, ground := Ground.phase }, { on := 11, ground := Ground.phase }, { on := 12, ground := Ground.phase }, { on := 13, ground := Ground.phase }, { on := 14, ground := Ground.phase }], guard := none }) (v := ?vgrowr13) rfl (by kernel_rfl) (by kernel_rfl) (by kernel_rfl) (fun _ _ _ h => h) (Or.inl ⟨by rfl, ?ygrowr13⟩) hk ?rgrowr13
      case ygrowr13 => (intro w hSw; (try dsimp only at hSw); go_simp; first | done | with_reducible rfl)
      simp only [Act.put, List.setIfInBounds_toArray, List.set_cons_zero, List.set_cons_succ]
      refine wpAnyH_done (by decide +kernel) ?_ _
      clear hc1 hc2 HI2 HR2
      go_wp2
      go_ret
      exact ⟨_, rfl, by rw [HE.out, List.length_append]; exact hown2, hk⟩

set_option maxRecDepth 100000 in
theorem growth_any (a : Option Addr) (len cap : Nat) (L : List (List Int)) (m x : Int) (w : World) (hL : Dgs w a len cap L) (htab : Tab w) (hbd : len ≤ 1000000) :
    Calls Tryd.prog 57 #[.slice a len cap, .int .i64 m, .int .i64 x] w fun e w' => ∃ v, e = .returned (.tuple #[v, .int .i64 (gE len m)]) ∧ w'.ownsRow w.heap.size 30 32 v (gV L m x).length (bv (gV L m x).flatten) ∧ Below w.heap.size w w' := by
  have hlen := hL.len_eq
  by_cases hin : 1 ≤ m ∧ m ≤ (len : Int)
  · have HV : Bx (gV L m x = growL L m.toNat true x) := ⟨by unfold gV; rw [hlen, if_pos hin]⟩
    have HE : Bx (gE len m = 0) := ⟨if_pos hin⟩
    rw [HE.out, HV.out]
    obtain ⟨j, rfl⟩ : ∃ j : Nat, m = (j : Int) := ⟨m.toNat, by omega⟩
    have h1 : decide ((j : Int) < 1) = false := by simp; omega
    have h2 : decide (len < j) = false := by simp; omega
    have h3 : decide ((len : Int) < (j : Int)) = false := by simp; omega
    have HP : Bx (Calls Tryd.prog 83 #[.slice a len cap, .int .i64 j, .bool true, .int .i64 x] w fun e w' => ∃ v, e = .returned v ∧ w'.ownsRow w.heap.size 30 32 v (growL L j true x).length (bv (growL L j true x).flatten) ∧ Below w.heap.size w w') := ⟨growin_any len a len cap L j true x w (Nat.le_refl _) hL htab hbd (by omega) (by omega)⟩
    have ht : ((j : Int)).toNat = j := by omega
    rw [ht]
    have hj1 : ¬ (j : Int) < 1 := by omega
    clear hL htab hlen HV HE ht
    go_enter Tryd.func57, Tryd.ntmps57
    go_wp2_with fail
    refine HP.out.mono ?_
    rintro e w1 ⟨v, rfl, ho, hb⟩
    clear HP
    go_wp2
    go_ret2
    exact ⟨v, rfl, ho, hb⟩
  · have HV : Bx (gV L m x = []) := ⟨by unfold gV; rw [hlen, if_neg hin]⟩
    have HE : Bx (gE len m = 2) := ⟨if_neg hin⟩
    rw [HE.out, HV.out]
    have hon := World.ownsRow_nil w w.heap.size 30 32
    by_cases h0 : m < 1
    · have h1 : decide (m < 1) = true := by simpa using h0
      clear hL htab hlen HV HE hin
      go_enter Tryd.func57, Tryd.ntmps57
      go_wp2
      go_ret2
      exact ⟨_, rfl, hon, Below.refl _ _⟩
    · have h1 : decide (m < 1) = false := by simpa using h0
      have h2 : decide (m > (len : Int)) = true := by simp; omega
      clear hL htab hlen HV HE hin
      go_enter Tryd.func57, Tryd.ntmps57
      go_wp2
      go_ret2
      exact ⟨_, rfl, hon, Below.refl _ _⟩
end Go.Proofs.YtbednfacipphhaaDoor
