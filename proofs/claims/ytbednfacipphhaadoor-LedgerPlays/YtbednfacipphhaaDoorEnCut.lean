/- An entry that is cut. -/
import Derived.Test.YtbednfacipphhaaDoorEnMem
import Derived.Test.YtbednfacipphhaaDoorAuam
import Derived.Laws.OwnMore
import Derived.Deep.CutRange
namespace Go.Proofs.YtbednfacipphhaaDoor
open Go.RowKit
set_option linter.unusedVariables false

/-- an entry whose order is none too long -/
def cutE (e : En) : En := ⟨e.j, e.t, e.H, e.S, e.k, e.r, e.o.take 70⟩
/-- how a cut ends -/
def CuP (e : En) (w : World) (x : Ending) (w' : World) : Prop := ∃ a n c, x = .returned (.agg (enA (cutE e) a n c)) ∧ w'.ownsRow w.heap.size 3 1 (.slice a n c) n ((cutE e).o.flatMap ivC) ∧ Below w.heap.size w w'
set_option maxRecDepth 100000 in
theorem Tryd.infoI4 : (Tryd.prog.info? 3).map (fun i => (i.zero, i.size, i.bytes)) = some (some (.int .i64 0), 1, 8) := by kernel_rfl
set_option maxHeartbeats 4000000 in
set_option maxRecDepth 100000 in
theorem cut20_any (e : En) (a : Option Addr) (len cap : Nat) (w : World) (h : Ivs w a len cap e.o) (hd : EnD e) :
    Calls Tryd.prog 12 #[.agg (enA e a len cap)] w (CuP e w) := by
  obtain ⟨j, t, DH, DS, k, r, o⟩ := e
  simp only at h
  have hb1 : Below w.heap.size w (w.alloc (.cells (enA ⟨j, t, DH, DS, k, r, o⟩ a len cap) 35)) := (Below.refl _ _).alloc (Nat.le_refl _) _
  have hr1 := EnB.new (a := a) (n := len) (c := cap) w hd
  obtain ⟨g1, HG1⟩ : ∃ g1, Bx (g1 = w.heap.size) := ⟨_, ⟨rfl⟩⟩
  rw [← HG1.out] at hr1
  obtain ⟨gr, HGR⟩ : ∃ gr, Bx (gr = (w.alloc (.cells (enA ⟨j, t, DH, DS, k, r, o⟩ a len cap) 35)).heap.size) := ⟨_, ⟨rfl⟩⟩
  have HGR' : Bx (gr = w.heap.size + 1) := ⟨by rw [HGR.out]; simp⟩
  have hb2 : Below (w.alloc (.cells (enA ⟨j, t, DH, DS, k, r, o⟩ a len cap) 35)).heap.size (w.alloc (.cells (enA ⟨j, t, DH, DS, k, r, o⟩ a len cap) 35)) ((w.alloc (.cells (enA ⟨j, t, DH, DS, k, r, o⟩ a len cap) 35)).alloc (.cells (enA en0 none 0 0) 35)) := (Below.refl _ _).alloc (Nat.le_refl _) _
  have HV : Bx (NV 35 69 gr gr ((w.alloc (.cells (enA ⟨j, t, DH, DS, k, r, o⟩ a len cap) 35)).alloc (.cells (enA en0 none 0 0) 35))) := ⟨by rw [HGR.out]; exact NV.new (Nat.le_refl _) (enA_size en0_dig)⟩
  have HR := Bx.mk (hr1.below hb2)
  have HIV := Bx.mk ((h.below hb1).below hb2)
  have HB0 := Bx.mk (bstep hb1 hb2)
  have HLT : Bx (g1 < gr) := ⟨by rw [HG1.out, HGR'.out]; omega⟩
  have HLEN : Bx (o.length = len) := ⟨h.len_eq⟩
  have hm := Nat.le_trans h.le_cap h.cap_le
  unfold maxLen at hm
  have hzv := en0_run
  obtain ⟨i0, hi, hz0, hz1, hz2⟩ := info_parts Tryd.infoI4
  clear h hd hb1 hb2 hr1
  go_enter Tryd.func12, Tryd.ntmps12
  go_upto_region 1 with fail
  try rw [← HGR.out]
  try rw [← HGR'.out]
  rw [← HG1.out]
  generalize (w.alloc (.cells (enA ⟨j, t, DH, DS, k, r, o⟩ a len cap) 35)).alloc (.cells (enA en0 none 0 0) 35) = wb at HV HR HIV HB0 ⊢
  clear hzv HGR HGR'
  go_wp2_with fail
  go_loopw [3, 4] (fun v i wr => ∃ m : Nat, m ≤ len ∧ m ≤ 70 ∧ i = .int .i64 m ∧ Bx (wr.ownsRow wb.heap.size 3 1 v m ((o.take m).flatMap ivC)) ∧ Bx (Below wb.heap.size wb wr)) (fun _ i _ => len - (intOf i).toNat)
  case atStart => exact ⟨0, Nat.zero_le _, Nat.zero_le _, rfl, ⟨World.ownsRow_nil _ _ _ _⟩, ⟨Below.refl _ _⟩⟩
  case round =>
    obtain ⟨m, hml, hm70, rfl, HO, HB⟩ := hrel
    obtain ⟨vO, hvO⟩ : ∃ x, x = u3 := ⟨_, rfl⟩
    subst hvO
    have c7 := (HR.out.keep (HB.out.block g1 HR.out.lt)).c67
    by_cases hlt : m < len
    · have hkI : (m : Int) < (len : Int) := by omega
      by_cases h70 : m < 70
      · have h7I : (m : Int) < 70 := by omega
        obtain ⟨b, off, rfl, _, x0⟩ := (HIV.out.below HB.out).iv m hlt 0
        have HTK : Bx (o.take (m + 1) = o.take m ++ [o.getD m 0]) := ⟨take_succ_getD o m (by rw [HLEN.out]; exact hlt)⟩
        generalize o.getD m 0 = x at x0 HTK
        have hbA : Below wr.heap.size wr (wr.alloc (.cells #[.int .i64 x] 3)) := (Below.refl _ _).alloc (Nat.le_refl _) _
        have HNW := Bx.mk (World.news_of_block (heap_alloc_new wr (.cells #[.int .i64 x] 3)))
        have HOA := Bx.mk (HO.out.alloc (.cells #[.int .i64 x] 3))
        have HBA := Bx.mk (bstep HB.out hbA)
        have HVB : Bx (∀ j, vO.ownBlock = some j → wb.heap.size ≤ j) := ⟨fun j hj => (HO.out.lt j hj).1⟩
        clear hbA HO HB
        go_wp2_with (at_builtin; refine wpList_append_own _ rfl _ _ 31 rfl wb.heap.size 3 i0 (.int .i64 0) 1 8 Tryd.underlying31 hi hz0 hz1 hz2 rfl (by decide) _ m _ rfl HOA.out ⟨wr.heap.size, 0, none⟩ 1 1 [.int .i64 x] rfl rfl HNW.out (by simp [Value.oneCell']) (by unfold maxLen; omega) (by omega) HBA.out.size ?_)
        intro v9 w9 ho9 hg9 _
        have HO9 : Bx (w9.ownsRow wb.heap.size 3 1 v9 (m + 1) ((o.take (m + 1)).flatMap ivC)) := ⟨by rw [HTK.out, List.flatMap_append]; exact ho9⟩
        have HB9 : Bx (Below wb.heap.size wb w9) := ⟨HBA.out.grown hg9 HBA.out.size (fun j hj => HVB.out j hj)⟩
        clear ho9 hg9 HNW HOA HBA HVB c7 x0
        go_wp2_with fail
        go_roundw
        case rel => exact ⟨m + 1, by omega, by omega, by go_num, HO9, HB9⟩
        case measure => simp [intOf]; omega
      · have h7I : ¬ (m : Int) < 70 := by omega
        have HTM : Bx (o.take m = o.take 70) := ⟨by rw [show m = 70 from by omega]⟩
        obtain ⟨av, cv, rfl, _⟩ := Ls.of_owns ivC_len HO.out (by rw [List.length_take, HLEN.out]; omega)
        rw [HTM.out] at HO
        have hE := HR.out.keep (HB.out.block g1 HR.out.lt)
        have y7 := hE.c67
        have f7 := hE.fr 67
        have HE2 : Bx (EnB (wr.setCell ⟨g1, 67, none⟩ (.slice av m cv)) g1 (cutE ⟨j, t, DH, DS, k, r, o⟩) av m cv) := ⟨hE.setO av m cv (o.take 70)⟩
        have hlr : g1 < wb.heap.size := HR.out.lt
        have HV2 : Bx (NV 35 69 gr gr (wr.setCell ⟨g1, 67, none⟩ (.slice av m cv))) := ⟨by
          obtain ⟨cs, e1, e2⟩ := HV.out.row
          exact ⟨Nat.le_refl _, cs, e1, (heap_setCell_other wr ⟨g1, 67, none⟩ gr _ (by show gr ≠ g1; have := HLT.out; omega)).trans ((HB.out.block gr HV.out.lt).trans e2)⟩⟩
        have HO2 : Bx ((wr.setCell ⟨g1, 67, none⟩ (.slice av m cv)).ownsRow wb.heap.size 3 1 (.slice av m cv) m ((o.take 70).flatMap ivC)) := ⟨owns_setCells (vs := [.slice av m cv]) HO.out (fun k hk => by have := (HO.out.lt k hk).1; omega)⟩
        have HB2 : Bx (Below w.heap.size w (wr.setCell ⟨g1, 67, none⟩ (.slice av m cv))) := ⟨(HB0.out.trans (HB.out.mono HB0.out.size)).setCell (p := ⟨g1, 67, none⟩) (by show w.heap.size ≤ g1; rw [HG1.out]; exact Nat.le_refl _) _⟩
        clear hE HO hlr
        go_upto_region 7 with fail
        generalize wr.setCell ⟨g1, 67, none⟩ (.slice av m cv) = wc at HE2 HV2 HO2 HB2 ⊢
        have HDC : Bx (EnD (cutE ⟨j, t, DH, DS, k, r, o⟩)) := ⟨HE2.out.dig⟩
        have HTH : Bx (wc.there gr 0 (enA (cutE ⟨j, t, DH, DS, k, r, o⟩) av m cv).size) := ⟨HV2.out.en_there HDC.out⟩
        have HSE : Bx (EnB (wc.setCells gr 0 (enA (cutE ⟨j, t, DH, DS, k, r, o⟩) av m cv).toList) gr (cutE ⟨j, t, DH, DS, k, r, o⟩) av m cv) := ⟨HV2.out.en HDC.out⟩
        have HFIN : Bx (CuP ⟨j, t, DH, DS, k, r, o⟩ w (.returned (.agg (enA (cutE ⟨j, t, DH, DS, k, r, o⟩) av m cv))) (wc.setCells gr 0 (enA (cutE ⟨j, t, DH, DS, k, r, o⟩) av m cv).toList)) := ⟨av, m, cv, rfl, owns_setCells (owns_base HO2.out HB0.out.size) (fun k hk => by have h1 := (HO2.out.lt k hk).1; have h2 := HV.out.lt; omega), below_setCells HB2.out gr (by have h1 := HG1.out; have h2 := HLT.out; omega) _ _⟩
        clear HV2 HO2 HB2 y7 f7
        go_wp2_with (refine wpList_load_en rfl (.tmp 1) rfl rfl HE2.out ?_; refine wpList_store_mid rfl 35 (.tmp 2) (.tmp 29) rfl gr 0 (enA (cutE ⟨j, t, DH, DS, k, r, o⟩) av m cv) rfl rfl HTH.out (enA_info HDC.out) enA_one ?_)
        exact bodyPost_ret (v := .agg (enA (cutE ⟨j, t, DH, DS, k, r, o⟩) av m cv)) (results_cell_row rfl _ _ gr 35 (enA (cutE ⟨j, t, DH, DS, k, r, o⟩) av m cv) (0, 0) _ rfl HSE.out.row Tryd.underlying35 rfl (enA_info HDC.out)) rfl HFIN.out
    · have hkI : ¬ (m : Int) < (len : Int) := by omega
      have hkd : decide (m < len) = false := by simpa using hlt
      have HTM : Bx (o.take m = o.take 70) := ⟨by rw [List.take_of_length_le (by rw [HLEN.out]; omega), List.take_of_length_le (by rw [HLEN.out]; omega)]⟩
      obtain ⟨av, cv, rfl, _⟩ := Ls.of_owns ivC_len HO.out (by rw [List.length_take, HLEN.out]; omega)
      rw [HTM.out] at HO
      have hE := HR.out.keep (HB.out.block g1 HR.out.lt)
      have y7 := hE.c67
      have f7 := hE.fr 67
      have HE2 : Bx (EnB (wr.setCell ⟨g1, 67, none⟩ (.slice av m cv)) g1 (cutE ⟨j, t, DH, DS, k, r, o⟩) av m cv) := ⟨hE.setO av m cv (o.take 70)⟩
      have hlr : g1 < wb.heap.size := HR.out.lt
      have HV2 : Bx (NV 35 69 gr gr (wr.setCell ⟨g1, 67, none⟩ (.slice av m cv))) := ⟨by
        obtain ⟨cs, e1, e2⟩ := HV.out.row
        exact ⟨Nat.le_refl _, cs, e1, (heap_setCell_other wr ⟨g1, 67, none⟩ gr _ (by show gr ≠ g1; have := HLT.out; omega)).trans ((HB.out.block gr HV.out.lt).trans e2)⟩⟩
      have HO2 : Bx ((wr.setCell ⟨g1, 67, none⟩ (.slice av m cv)).ownsRow wb.heap.size 3 1 (.slice av m cv) m ((o.take 70).flatMap ivC)) := ⟨owns_setCells (vs := [.slice av m cv]) HO.out (fun k hk => by have := (HO.out.lt k hk).1; omega)⟩
      have HB2 : Bx (Below w.heap.size w (wr.setCell ⟨g1, 67, none⟩ (.slice av m cv))) := ⟨(HB0.out.trans (HB.out.mono HB0.out.size)).setCell (p := ⟨g1, 67, none⟩) (by show w.heap.size ≤ g1; rw [HG1.out]; exact Nat.le_refl _) _⟩
      clear hE HO hlr
      go_upto_region 7 with fail
      generalize wr.setCell ⟨g1, 67, none⟩ (.slice av m cv) = wc at HE2 HV2 HO2 HB2 ⊢
      have HDC : Bx (EnD (cutE ⟨j, t, DH, DS, k, r, o⟩)) := ⟨HE2.out.dig⟩
      have HTH : Bx (wc.there gr 0 (enA (cutE ⟨j, t, DH, DS, k, r, o⟩) av m cv).size) := ⟨HV2.out.en_there HDC.out⟩
      have HSE : Bx (EnB (wc.setCells gr 0 (enA (cutE ⟨j, t, DH, DS, k, r, o⟩) av m cv).toList) gr (cutE ⟨j, t, DH, DS, k, r, o⟩) av m cv) := ⟨HV2.out.en HDC.out⟩
      have HFIN : Bx (CuP ⟨j, t, DH, DS, k, r, o⟩ w (.returned (.agg (enA (cutE ⟨j, t, DH, DS, k, r, o⟩) av m cv))) (wc.setCells gr 0 (enA (cutE ⟨j, t, DH, DS, k, r, o⟩) av m cv).toList)) := ⟨av, m, cv, rfl, owns_setCells (owns_base HO2.out HB0.out.size) (fun k hk => by have h1 := (HO2.out.lt k hk).1; have h2 := HV.out.lt; omega), below_setCells HB2.out gr (by have h1 := HG1.out; have h2 := HLT.out; omega) _ _⟩
      clear HV2 HO2 HB2 y7 f7
      go_wp2_with (refine wpList_load_en rfl (.tmp 1) rfl rfl HE2.out ?_; refine wpList_store_mid rfl 35 (.tmp 2) (.tmp 29) rfl gr 0 (enA (cutE ⟨j, t, DH, DS, k, r, o⟩) av m cv) rfl rfl HTH.out (enA_info HDC.out) enA_one ?_)
      exact bodyPost_ret (v := .agg (enA (cutE ⟨j, t, DH, DS, k, r, o⟩) av m cv)) (results_cell_row rfl _ _ gr 35 (enA (cutE ⟨j, t, DH, DS, k, r, o⟩) av m cv) (0, 0) _ rfl HSE.out.row Tryd.underlying35 rfl (enA_info HDC.out)) rfl HFIN.out
/-- an entry that can be -/
def enLv : En := ⟨0, 0, dg0, dg0, 2, 0, []⟩
set_option maxRecDepth 100000 in
theorem enLv_ok : chkN enLv = 0 := by decide
end Go.Proofs.YtbednfacipphhaaDoor
