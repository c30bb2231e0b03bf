/- What Decode answers: all of it. -/
import Derived.Test.YtlodbkjjkhpbaaaEnDec
namespace Go.Proofs.Ytlodbkjjkhpbaaa
open Go.RowKit
set_option linter.unusedVariables false

/-- how Decode ends -/
def DcP (b : List Int) (w : World) (x : Ending) (w' : World) : Prop := ∃ a n c, x = .returned (.tuple #[.agg (enA (decN b).1 a n c), .int .i64 (decN b).2]) ∧ w'.ownsRow w.heap.size 3 1 (.slice a n c) n ((decN b).1.o.flatMap ivC) ∧ Below w.heap.size w w'
set_option maxRecDepth 100000 in
theorem dcp_yes {b : List Int} {w w' : World} {E : En} {a : Option Addr} {n c : Nat} (h : decN b = (E, 0)) (ho : w'.ownsRow w.heap.size 3 1 (.slice a n c) n (E.o.flatMap ivC)) (hb : Below w.heap.size w w') : DcP b w (.returned (.tuple #[.agg (enA E a n c), .int .i64 0])) w' := ⟨a, n, c, by rw [h], by rw [h]; exact ho, hb⟩
set_option maxRecDepth 100000 in
theorem dcp_no {b : List Int} {w w' : World} (h : decN b = (en0, 4)) (hb : Below w.heap.size w w') : DcP b w (.returned (.tuple #[.agg (enA en0 none 0 0), .int .i64 4])) w' := ⟨none, 0, 0, by rw [h], by rw [h]; exact World.ownsRow_nil _ _ _ _, hb⟩
set_option maxRecDepth 100000 in
theorem decN_dig {b : List Int} (hb : Byt b) : EnD (decN b).1 := by
  rcases decN_err b with h | h
  · exact rdN_dig hb (decN_back h).2.2
  · rw [h]; exact en0_dig
set_option maxRecDepth 100000 in
/-- an entry that is put into a new variable -/
theorem en_var (w : World) {e : En} {a : Option Addr} {n c : Nat} (hd : EnD e) : EnB ((w.alloc (.cells (enA en0 none 0 0) 28)).setCells w.heap.size 0 (enA e a n c).toList) w.heap.size e a n c ∧ Below w.heap.size w ((w.alloc (.cells (enA en0 none 0 0) 28)).setCells w.heap.size 0 (enA e a n c).toList) ∧ (w.alloc (.cells (enA en0 none 0 0) 28)).there w.heap.size 0 (enA e a n c).size := by
  have hv : NV 28 69 w.heap.size w.heap.size (w.alloc (.cells (enA en0 none 0 0) 28)) := NV.new (Nat.le_refl _) (enA_size en0_dig)
  exact ⟨hv.en hd, below_setCells ((Below.refl _ _).alloc (Nat.le_refl _) _) _ (Nat.le_refl _) _ _, hv.en_there hd⟩
set_option maxHeartbeats 4000000 in
set_option maxRecDepth 100000 in
theorem decode20_any (a : Option Addr) (len cap : Nat) (b : List Int) (w : World) (h : Bts w a len cap b) :
    Calls Try.prog 10 #[.slice a len cap] w (DcP b w) := by
  obtain ⟨gr, HGR⟩ : ∃ gr, Bx (gr = w.heap.size) := ⟨_, ⟨rfl⟩⟩
  have HBT := Bx.mk h
  have HRD := Bx.mk (decN_read h.byt)
  have HED : Bx (EnD (entE (b, false))) := ⟨entE_dig (s := (b, false)) h.byt⟩
  have hzv := en0_run
  have HB1 : Bx (Below w.heap.size w (w.alloc (.cells (enA en0 none 0 0) 28))) := ⟨(Below.refl _ _).alloc (Nat.le_refl _) _⟩
  have HV1 : Bx (NV 28 69 w.heap.size w.heap.size (w.alloc (.cells (enA en0 none 0 0) 28))) := ⟨NV.new (Nat.le_refl _) (enA_size en0_dig)⟩
  clear h
  go_enter Try.func10, Try.ntmps10
  go_upto_region 1 with fail
  generalize w.alloc (.cells (enA en0 none 0 0) 28) = wa at HV1 HB1 ⊢
  rw [← HGR.out] at HV1 ⊢
  obtain ⟨gd, HGD⟩ : ∃ gd, Bx (gd = wa.heap.size) := ⟨_, ⟨rfl⟩⟩
  have hb2 : Below wa.heap.size wa (wa.alloc (.cells #[.slice a len cap, .bool false] 51)) := (Below.refl _ _).alloc (Nat.le_refl _) _
  have hr2 := heap_alloc_new wa (.cells #[.slice a len cap, .bool false] 51)
  rw [← HGD.out] at hr2
  have HRS : Bx (RdS w gd (b, false) (wa.alloc (.cells #[.slice a len cap, .bool false] 51))) := ⟨⟨⟨a, len, cap, hr2, HBT.out⟩, bstep HB1.out hb2, by rw [HGD.out]; exact HB1.out.size⟩⟩
  have HV2 := Bx.mk (HV1.out.step hb2)
  have HLT : Bx (gr < gd) := ⟨by rw [HGD.out]; exact HV1.out.lt⟩
  clear hb2 hr2 HV1 HB1
  go_upto_region 2 with fail
  rw [← HGD.out]
  generalize wa.alloc (.cells #[.slice a len cap, .bool false] 51) = wb at HRS HV2 ⊢
  go_wp2_with fail
  refine (entry20_any w gd (b, false) _ HRS.out).mono ?_
  rintro e w3 ⟨a3, n3, c3, rfl, ho3, hs3, hk3⟩
  have HV3 : Bx (NV 28 69 gr gr w3) := ⟨by
    obtain ⟨cs, e1, e2⟩ := HV2.out.row
    exact ⟨Nat.le_refl _, cs, e1, (hk3.block gr HV2.out.lt (show ¬ gr = gd by have := HLT.out; omega)).trans e2⟩⟩
  have HO3 := Bx.mk ho3
  have HS3 := Bx.mk hs3
  have HWB : Bx (w.heap.size ≤ wb.heap.size ∧ gr < wb.heap.size) := ⟨HRS.out.low.size, HV2.out.lt⟩
  obtain ⟨E, HE⟩ : ∃ E, Bx (entE (b, false) = E) := ⟨_, ⟨rfl⟩⟩
  obtain ⟨⟨l, f⟩, HLF⟩ : ∃ q, Bx ((entR8 (b, false)).2 = q) := ⟨_, ⟨rfl⟩⟩
  rw [HE.out] at HO3 HRD HED ⊢
  rw [HLF.out] at HS3 HRD
  clear ho3 hs3 hk3 HV2 HRS
  have hev := en_var w3 (e := E) (a := a3) (n := n3) (c := c3) HED.out
  have HEV := Bx.mk hev.1
  have HEB := Bx.mk hev.2.1
  have HET := Bx.mk hev.2.2
  obtain ⟨g5, HG5⟩ : ∃ g5, Bx (g5 = w3.heap.size) := ⟨_, ⟨rfl⟩⟩
  clear hev
  go_upto_region 3 with (refine wpList_store_mid rfl 28 (.tmp 5) (.tmp 8) rfl w3.heap.size 0 (enA E a3 n3 c3) rfl rfl HET.out (enA_info HED.out) enA_one ?_)
  generalize (w3.alloc (.cells (enA en0 none 0 0) 28)).setCells w3.heap.size 0 (enA E a3 n3 c3).toList = w4 at HEV HEB HET ⊢
  rw [← HG5.out] at HEV ⊢
  have HV4 := Bx.mk (HV3.out.step HEB.out)
  have HO4 := Bx.mk (owns_below HO3.out HEB.out)
  have HS4 := Bx.mk (HS3.out.below HEB.out)
  clear HV3 HO3 HS3 HEB HET
  have HB4 : Bx (Below w.heap.size w w4) := ⟨HS4.out.low⟩
  obtain ⟨a6, n6, c6, hr6, hb6⟩ := HS4.out.row
  have y0 := cell_of_row _ gd 0 _ _ (0, 0) hr6
  have y1 := cell_of_row _ gd 1 _ _ (0, 0) hr6
  have HL6 : Bx (l.length = n6) := ⟨hb6.len_eq⟩
  have hm6 := Nat.le_trans hb6.le_cap hb6.cap_le
  unfold maxLen at hm6
  simp only at y0 y1 HRD
  clear hr6 hb6
  cases f with
  | true =>
    have HNO : Bx (decN b = (en0, 4)) := ⟨by rw [HRD.out, if_neg]; rintro ⟨h1, h2⟩; cases h1⟩
    have HTH : Bx (w4.there gr 0 (enA en0 none 0 0).size) := ⟨HV4.out.en_there en0_dig⟩
    have HSE : Bx (EnB (w4.setCells gr 0 (enA en0 none 0 0).toList) gr en0 none 0 0) := ⟨HV4.out.en en0_dig⟩
    have HBF : Bx (Below w.heap.size w (w4.setCells gr 0 (enA en0 none 0 0).toList)) := ⟨below_setCells HB4.out gr (by rw [HGR.out]; exact Nat.le_refl _) _ _⟩
    clear y0 HV4 HO4 HS4
    go_wp2_with (refine wpList_store_mid rfl 28 (.tmp 2) (.tmp 22) rfl gr 0 (enA en0 none 0 0) rfl rfl HTH.out (enA_info en0_dig) enA_one ?_)
    exact bodyPost_ret (v := .tuple #[.agg (enA en0 none 0 0), .int .i64 4]) (results_ce rfl _ _ gr en0 none 0 0 _ rfl rfl HSE.out) rfl (dcp_no HNO.out HBF.out)
  | false =>
    by_cases hn : 0 < n6
    · have hnI : (0 : Int) < (n6 : Int) := by omega
      have HNO : Bx (decN b = (en0, 4)) := ⟨by rw [HRD.out, if_neg]; rintro ⟨h1, h2⟩; cases h1; have := HL6.out; simp at this; omega⟩
      have HTH : Bx (w4.there gr 0 (enA en0 none 0 0).size) := ⟨HV4.out.en_there en0_dig⟩
      have HSE : Bx (EnB (w4.setCells gr 0 (enA en0 none 0 0).toList) gr en0 none 0 0) := ⟨HV4.out.en en0_dig⟩
      have HBF : Bx (Below w.heap.size w (w4.setCells gr 0 (enA en0 none 0 0).toList)) := ⟨below_setCells HB4.out gr (by rw [HGR.out]; exact Nat.le_refl _) _ _⟩
      clear HV4 HO4 HS4
      go_wp2_with (refine wpList_store_mid rfl 28 (.tmp 2) (.tmp 22) rfl gr 0 (enA en0 none 0 0) rfl rfl HTH.out (enA_info en0_dig) enA_one ?_)
      exact bodyPost_ret (v := .tuple #[.agg (enA en0 none 0 0), .int .i64 4]) (results_ce rfl _ _ gr en0 none 0 0 _ rfl rfl HSE.out) rfl (dcp_no HNO.out HBF.out)
    · obtain rfl : n6 = 0 := by omega
      have HL0 : Bx (l = []) := ⟨List.eq_nil_of_length_eq_zero HL6.out⟩
      obtain ⟨ai, ci, e, hIV⟩ := Ls.of_owns ivC_len HO4.out (by have := HO4.out.1; rw [iv_map, List.length_map] at this; omega)
      cases e
      have HIV := Bx.mk hIV
      clear hIV hn hm6
      go_wp2_with (refine wpList_load_en rfl (.tmp 5) rfl rfl HEV.out ?_)
      refine (check20_any E a3 n3 c3 _ HIV.out HED.out).mono ?_
      rintro x w5 ⟨rfl, hb5⟩
      have HV5 := Bx.mk (HV4.out.step hb5)
      have HO5 := Bx.mk (owns_below HO4.out hb5)
      have HE5 := Bx.mk (HEV.out.below hb5)
      have HB5 := Bx.mk (bstep HB4.out hb5)
      clear hb5 HV4 HO4 HEV HB4 HS4 HIV y0 y1
      rcases chkN_ways E with hok | hok
      · rw [hok]
        have HYE : Bx (decN b = (E, 0)) := ⟨by rw [HRD.out, if_pos ⟨by rw [HL0.out], chkN_can hok⟩]⟩
        have HTH : Bx (w5.there gr 0 (enA E a3 n3 c3).size) := ⟨HV5.out.en_there HED.out⟩
        have HSE : Bx (EnB (w5.setCells gr 0 (enA E a3 n3 c3).toList) gr E a3 n3 c3) := ⟨HV5.out.en HED.out⟩
        have HBF : Bx (Below w.heap.size w (w5.setCells gr 0 (enA E a3 n3 c3).toList)) := ⟨below_setCells HB5.out gr (by rw [HGR.out]; exact Nat.le_refl _) _ _⟩
        have HOF : Bx ((w5.setCells gr 0 (enA E a3 n3 c3).toList).ownsRow w.heap.size 3 1 (.slice a3 n3 c3) n3 (E.o.flatMap ivC)) := ⟨owns_setCells (owns_base HO5.out HWB.out.1) (fun k hk => by have h1 := (HO5.out.lt k hk).1; have h2 := HWB.out.2; omega)⟩
        clear hok HV5 HO5 HB5 HRD
        go_wp2_with (refine wpList_load_en rfl (.tmp 5) rfl rfl HE5.out ?_; refine wpList_store_mid rfl 28 (.tmp 2) (.tmp 23) rfl gr 0 (enA E a3 n3 c3) rfl rfl HTH.out (enA_info HED.out) enA_one ?_)
        exact bodyPost_ret (v := .tuple #[.agg (enA E a3 n3 c3), .int .i64 0]) (results_ce rfl _ _ gr E a3 n3 c3 _ rfl rfl HSE.out) rfl (dcp_yes HYE.out HOF.out HBF.out)
      · rw [hok]
        have HCB : Bx (canN E = false) := ⟨by unfold chkN at hok; cases hc : canN E with | true => rw [hc] at hok; simp at hok | false => rfl⟩
        have HNO : Bx (decN b = (en0, 4)) := ⟨by rw [HRD.out, if_neg]; rintro ⟨h1, h2⟩; rw [HCB.out] at h2; cases h2⟩
        have HTH : Bx (w5.there gr 0 (enA en0 none 0 0).size) := ⟨HV5.out.en_there en0_dig⟩
        have HSE : Bx (EnB (w5.setCells gr 0 (enA en0 none 0 0).toList) gr en0 none 0 0) := ⟨HV5.out.en en0_dig⟩
        have HBF : Bx (Below w.heap.size w (w5.setCells gr 0 (enA en0 none 0 0).toList)) := ⟨below_setCells HB5.out gr (by rw [HGR.out]; exact Nat.le_refl _) _ _⟩
        clear hok HV5 HO5 HB5 HE5
        go_wp2_with (refine wpList_store_mid rfl 28 (.tmp 2) (.tmp 22) rfl gr 0 (enA en0 none 0 0) rfl rfl HTH.out (enA_info en0_dig) enA_one ?_)
        exact bodyPost_ret (v := .tuple #[.agg (enA en0 none 0 0), .int .i64 4]) (results_ce rfl _ _ gr en0 none 0 0 _ rfl rfl HSE.out) rfl (dcp_no HNO.out HBF.out)
end Go.Proofs.Ytlodbkjjkhpbaaa
