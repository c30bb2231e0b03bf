/- StorePages: pages, each behind the last key of the one ahead, are together all (P11.5). No condition. -/
import Derived.Test.YtjnjokbdoendkabRows
import Derived.Test.YtjnjokbdoendkabSlw
import Derived.Test.YtjnjokbdoendkabSma
import Derived.WalkKit
import Derived.ProofKit
import Derived.OpenShut
import Derived.ShutString
import Derived.ChangeOld
import Derived.Below
namespace Go.Proofs.Ytjnjokbdoendkab.storePages
open Go.ChangeShapes Go.WideShapes Go.ChangeAt Go.RowKit
open Go.ChangeMaps (open_string shut_string)
set_option linter.unusedVariables false

theorem own : ownKnob Try.prog.godebug = none := by kernel_rfl
theorem laidOut : laidOutB Try.prog = true := by kernel_rfl

def aft : Value → ByteArray
  | .string s => s
  | _ => ⟨#[]⟩
theorem dt_scan (w wr : World) (X : Nat → Prop) (gd gl gs : Nat) (s : DS) (L : LS) (q : Int) (M K : List Pr) (front after : ByteArray) (most : Nat) (h : DT w wr X gd gl gs s L q M) (hr : Rep K M) (hM : M.length ≤ 1000000) (hm : most ≤ 1000) :
    Calls Try.prog 12 #[.pointer (some ⟨gs, 0, none⟩), .string front, .string after, .int .i64 most] wr fun e w' => ∃ (a : Option Addr) (n c : Nat) (Z : List (It Pr)), e = .returned (.slice a n c) ∧ n = ((rs K front after).take most).length ∧ Z.map (·.x) = (rs K front after).take most ∧ w'.ownsRow 0 43 2 (.slice a n c) n (Z.flatMap prE) ∧ (∀ z ∈ Z, Bts w' z.a z.n z.c z.x.2 ∧ (0 < z.n → ∀ p, z.a = some p → wr.heap.size ≤ p.block)) ∧ (∀ p, a = some p → wr.heap.size ≤ p.block) ∧ Below wr.heap.size wr w' := by
  obtain ⟨oS, h1⟩ := h.st
  refine (scan_any sort_says gs gl q _ oS M K front after (most : Int) wr h1 hr hM (by omega) (by omega)).mono ?_
  rintro e w' ⟨v, rfl, hp, hb⟩
  rw [scL_rs] at hp
  obtain ⟨a, c, rfl, _⟩ := hp.form
  obtain ⟨Z, hZ, ho, hz⟩ := hp.row
  refine ⟨a, _, c, Z, rfl, rfl, hZ, ho, fun z hz2 => ⟨(hz z hz2).1, fun h0 p e => ((hz z hz2).2 h0 p e).1.1⟩, fun p e => ?_, hb⟩
  subst e
  exact (hp.ob p.block rfl).1

set_option maxRecDepth 100000 in
set_option maxHeartbeats 8000000 in
theorem walk (a0 : Option Addr) (len0 cap0 : Nat) (l : List DoM) (front : ByteArray) (most : Int) (w : World) (hl : Dos w a0 len0 cap0 l) (hfront : front.size ≤ maxLen) (hmost : I64 most) :
    Calls Try.prog 3 #[.slice a0 len0 cap0, .string front, .int .i64 most] w fun e w' => e = .returned (.bool true) ∧ Below w.heap.size w w' := by
  have HDL := Bx.mk hl
  have hk2 := hfront
  unfold maxLen at hk2
  obtain ⟨ms, HMS⟩ : ∃ n : Nat, Bx (leastV most 1 20 = (n : Int) ∧ 1 ≤ n ∧ n ≤ 20) := by
    have h1 := least_bd most 1 20 (by decide)
    exact ⟨(leastV most 1 20).toNat, ⟨by omega, by omega, by omega⟩⟩
  obtain ⟨q, HQ⟩ : ∃ q : Int, Bx (q = 1099511627776) := ⟨_, ⟨rfl⟩⟩
  obtain ⟨i0, hi, hz0, hz1, hz2⟩ := info_parts Try.infoP
  clear hl
  go_enter Try.func3, Try.ntmps3
  go_wp2_with fail
  refine (scut_any front 60 _ (by omega)).mono ?_
  rintro e wx ⟨⟨fr, rfl, hsz⟩, hwx⟩
  have hwy := hwx.symm
  clear hwx
  subst hwy
  have hfz : fr.size ≤ 1000000 := by omega
  clear hsz
  go_wp2_with fail
  refine (least_any most 1 20 _).mono ?_
  rintro e w' ⟨rfl, rfl⟩
  rw [HMS.out.1]
  have hms1 := HMS.out.2.1
  have hms2 := HMS.out.2.2
  clear HMS
  go_wp2_with fail
  refine (new_any 200 _ (by decide) (by decide)).mono ?_
  rintro e w1 ⟨gd, rfl, hD, hb1⟩
  obtain ⟨own, hown⟩ : ∃ own : Nat → Prop, own = fun k => w.heap.size ≤ k ∧ k < w1.heap.size := ⟨_, rfl⟩
  rw [← hown] at hD
  have HO : Bx (∀ k, own k → w.heap.size ≤ k) := ⟨fun k h => by rw [hown] at h; exact h.1⟩
  clear hown
  go_wp2_with fail
  rw [← HQ.out]
  refine (sopen_rest gd own (dnew 200) q _ [] (by rw [HQ.out]; decide) hD (rest_new 200) (fun b hb => by simp at hb)).mono ?_
  rintro e w2 ⟨gs, gl, oD, oL, oS, rfl, hT, hdid, hlo, hso⟩
  have HDT0 : Bx (DT w w2 (fun _ => False) gd gl gs (dnew 200) (lgs []) q []) := ⟨⟨⟨oD, oL, oS, hT, fun k hk => ⟨by
    have hs1 := hb1.size
    rcases hk with h3 | h3 | h3
    · rcases hdid.new k h3 with h4 | h4
      · exact HO.out k h4
      · omega
    · have := hlo k h3; omega
    · have := hso k h3; omega, fun h => h⟩⟩, hb1.trans (hdid.kept.low HO.out hb1.size), fun k hk => hk.elim⟩⟩
  clear hT hdid hlo hso hb1 hD HO
  go_wp2_with fail
  refine (fewd_any a0 len0 cap0 l _ (HDL.out.below HDT0.out.low)).mono ?_
  rintro e w3 ⟨m, hmn, hm25, rfl, hb3⟩
  have HDT3 := Bx.mk (HDT0.out.step hb3)
  clear hb3 HDT0
  go_wp2_with fail
  go_loopw [11] (fun i wr => ∃ (k : Nat) (s : DS) (L : LS) (T : List (List Int)) (M K : List Pr), k ≤ m ∧ i = .int .i64 k ∧ Bx (DT w wr (fun _ => False) gd gl gs s L q M) ∧ Bx (Calm s L T) ∧ Bx (Rep K M) ∧ Bx (M.length ≤ 16 * k)) (fun i _ => m - (intOf i).toNat)
  case atStart => exact ⟨0, _, _, [], [], [], Nat.zero_le _, rfl, HDT3, ⟨Calm.new 200⟩, ⟨Rep.nil⟩, ⟨by simp⟩⟩
  case round =>
    clear HDT3
    obtain ⟨k, s, L, T, M, K, hk, rfl, HDT, HCM, HRP, HML⟩ := hrel
    by_cases hlt : k < m
    · have hkI : (k : Int) < (m : Int) := by omega
      obtain ⟨b, off, b2, l2, c2, b3, l3, c3, rfl, x0, x1, x2, x3, hV, hbl⟩ := HDL.out.at HDT.out.low k (by omega)
      have HV := Bx.mk (hV.below HDT.out.low)
      clear hV x0 x1 x3
      go_wp2_with fail
      refine (few11_any b2 l2 c2 _ _ _ HV.out.l.1 HV.out.l.2).mono ?_
      rintro e w5 ⟨v5, rfl, hcl5, hb5⟩
      obtain ⟨a5, c5, rfl, hct5⟩ := hcl5.rt chE_len
      have HD5 := Bx.mk (HDT.out.more hb5)
      have HC5 : Bx (CT (fun k => False ∨ (wr.heap.size ≤ k ∧ k < w5.heap.size)) w5 a5 _ c5 _) := ⟨hct5.mono (fun k _ hk => .inr hk)⟩
      have HKF : Bx (∀ x ∈ fewL (l.getD k doZ).l, x.key.size ≤ 9223372036854775807) := ⟨fun x hx => by have := (fewL_ok _ x hx).1; omega⟩
      have hbm := few_b HDT.out.mo HML.out (by omega)
      have HBM := Bx.mk hbm
      clear hcl5 hct5 hb5 HV x2 HDT hbm
      generalize fewL (l.getD k doZ).l = F at HC5 HKF ⊢
      have HST := Bx.mk (ahead_step (q := q) HCM.out HRP.out HML.out HC5.out.byts)
      generalize F.length = nf at HC5 ⊢
      go_wp2_with fail
      refine (dt_commit w _ _ gd gl gs s L q M a5 nf c5 F HD5.out HC5.out HKF.out HCM.out.o HBM.out.1).mono ?_
      rintro e w6 ⟨rfl, hd6, hx6⟩
      have HD6 : Bx (DT w w6 (fun _ => False) gd gl gs _ _ q _) := ⟨hd6.less (fun k hk => .inl hk)⟩
      obtain ⟨T', K', h1, h2, h3⟩ := HST.out
      have H1 := Bx.mk h1
      have H2 := Bx.mk h2
      have H3 := Bx.mk h3
      clear hd6 hx6 h1 h2 h3 HST HD5 HC5 HKF HBM
      generalize coE s L q M F = E
      generalize coS s L q M F = s' at HD6 H1
      generalize coL s L q M F = L' at HD6 H1
      generalize coM s L q M F = M' at HD6 H2 H3
      go_wp2_with fail
      go_roundw
      case rel => exact ⟨k + 1, s', L', T', M', K', by omega, by go_num, HD6, H1, H2, H3⟩
      case measure => simp [intOf]; omega
    · have hkI : ¬ (k : Int) < (m : Int) := by omega
      have hbm := few_b HDT.out.mo HML.out (by omega)
      obtain ⟨hby, hml⟩ := hbm
      have hml4 : M.length ≤ 400 := by have := HML.out; omega
      have HMO := Bx.mk HDT.out.mo
      have hK4 : K.length ≤ 400 := by have h2 := HRP.out.p.length_eq; omega
      obtain ⟨w4, hw4⟩ : ∃ x, x = wr := ⟨_, rfl⟩
      subst hw4
      have HS0 : Bx (([] : List Pr) ++ rs K fr ⟨#[]⟩ = K.filter (bgn fr)) := ⟨by rw [rs_start HRP.out HMO.out]; rfl⟩
      go_wp2_with fail
      go_loopw [12, 14] (fun pg af wr => ∃ (P : List Pr) (k : ByteArray), af = .string k ∧ Bx (QL wr w4.heap.size (fun _ => True) pg P) ∧ Bx (Below w4.heap.size w4 wr) ∧ Bx (P ++ rs K fr k = K.filter (bgn fr))) (fun _ af _ => (rs K fr (aft af)).length)
      case atStart => exact ⟨[], _, rfl, ⟨QL.nil _ _ _⟩, ⟨Below.refl _ _⟩, HS0⟩
      case round =>
        clear HS0
        obtain ⟨P, af, rfl, HQP, HBP, HEQ⟩ := hrel
        obtain ⟨vP, hvP⟩ : ∃ x, x = u12 := ⟨_, rfl⟩
        subst hvP
        have hPl : P.length + (rs K fr af).length ≤ 400 := by
          have h1 := congrArg List.length HEQ.out
          rw [List.length_append] at h1
          have h2 : (K.filter (bgn fr)).length ≤ K.length := List.length_filter_le _ _
          omega
        have HD5 := Bx.mk (HDT.out.step HBP.out)
        go_wp2_with fail
        refine (dt_scan w _ _ gd gl gs s L q M K fr af ms HD5.out HRP.out hml (by omega)).mono ?_
        rintro e w6 ⟨a6, n6, c6, Z6, rfl, hn6, hZ6, ho6, hz6, hal6, hb6⟩
        have HD6 := Bx.mk (HD5.out.step hb6)
        obtain ⟨Z, hown, HQA⟩ := (HQP.out.below hb6).open
        have HVK : Bx (∀ j, vP.ownBlock = some j → w4.heap.size ≤ j ∧ j < wr.heap.size) := ⟨fun j hj => ⟨(hown.lt j hj).1, HQP.out.lt hj⟩⟩
        have hsw := HBP.out.size
        have hs6 := hb6.size
        have HZV : Bx (∀ z ∈ Z6, Bts w6 z.a z.n z.c z.x.2 ∧ (0 < z.n → ∀ p, z.a = some p → vP.ownBlock ≠ some p.block)) := ⟨fun z hz => ⟨(hz6 z hz).1, fun h0 p e e2 => by have h1 := (hz6 z hz).2 h0 p e; have h2 := (HVK.out _ e2).2; omega⟩⟩
        have hZ6l : Z6.length = n6 := by have := congrArg List.length hZ6; rw [List.length_map] at this; omega
        have hnle : n6 ≤ ms := by rw [hn6, List.length_take]; omega
        have hngt : ¬ (ms : Int) < (n6 : Int) := by omega
        have HB6 := Bx.mk (bstep HBP.out hb6)
        have HN6 := Bx.mk hn6
        have HZ6 := Bx.mk hZ6
        have HO6 := Bx.mk ho6
        have HOW := Bx.mk hown
        have HAL6 := Bx.mk hal6
        have HZ6L := Bx.mk hZ6l
        clear hn6 hZ6 ho6 hz6 hal6 hown hb6 HQP HD5 hZ6l
        by_cases hfull : n6 < ms
        · have hlI : (n6 : Int) < (ms : Int) := by omega
          have HAL2 : Bx (P ++ Z6.map (·.x) = K.filter (bgn fr)) := ⟨by
            rw [HZ6.out, ← HEQ.out, List.take_of_length_le]
            have h1 := HN6.out
            rw [List.length_take] at h1
            omega⟩
          have hnP : P.length + n6 ≤ 1000 := by have h1 := HN6.out; rw [List.length_take] at h1; omega
          cases a6 with
          | none =>
            have hnc : n6 = 0 ∧ c6 = 0 := by
              rcases HO6.out.2 with ⟨e, h0⟩ | ⟨g, cap, cur, e, _⟩
              · cases e; exact ⟨rfl, rfl⟩
              · cases e
            obtain ⟨rfl, rfl⟩ := hnc
            have HPT : Bx (∃ a c, vP = .slice a P.length c ∧ PT (fun _ => True) w6 a P.length c (K.filter (bgn fr))) := ⟨by
              have hz0l : Z6 = [] := List.eq_nil_of_length_eq_zero HZ6L.out
              have hal := HAL2.out
              rw [hz0l, List.map_nil, List.append_nil] at hal
              rw [← hal]
              rcases HOW.out.2 with ⟨e, h0⟩ | ⟨g, cap, cur, e, _⟩
              · have ho := HOW.out
                rw [e] at ho ⊢
                rw [h0] at ho ⊢
                have hz2 : Z.length = 0 := by have h1 := congrArg List.length HQA.out.z; rw [List.length_map] at h1; omega
                have := pt_of_own ho hz2 (fun z hz => (HQA.out.b z hz).1)
                rw [HQA.out.z] at this
                exact ⟨none, 0, rfl, this⟩
              · have ho := HOW.out
                rw [e] at ho ⊢
                have hz2 : Z.length = P.length := by have h1 := congrArg List.length HQA.out.z; rw [List.length_map] at h1; omega
                have := pt_of_own ho hz2 (fun z hz => (HQA.out.b z hz).1)
                rw [HQA.out.z] at this
                exact ⟨_, _, rfl, this⟩⟩
            go_wp2_with (at_builtin; refine wpList_append_own_none rfl (.tmp 58) (.tmp 59) 39 rfl w4.heap.size 43 i0 2 Try.underlying39 hi _ P.length (Z.flatMap prE) rfl HOW.out rfl ?_)
            obtain ⟨aP, cP, hvf, hpt⟩ := HPT.out
            subst hvf
            have HPT := Bx.mk hpt
            have HD7 := HD6
            clear hpt HOW HO6 HQA HVK HZV HD6
            go_wp2_with fail
            refine (dt_all w _ _ gd gl gs s L q M K HD7.out HRP.out hml).mono ?_
            rintro e w9 ⟨a8, n8, c8, rfl, hp8, hb8⟩
            have HPG := Bx.mk (HPT.out.below hb8)
            have HAL := Bx.mk hp8
            have HD9 := Bx.mk (HD7.out.step hb8)
            have HN8 : Bx (K.length = n8) := ⟨hp8.len_eq⟩
            have hn8 : n8 ≤ 400 := by have h1 := hp8.len_eq; have h2 := HRP.out.p.length_eq; omega
            have hm8 := Nat.le_trans hp8.le_cap hp8.cap_le
            unfold maxLen at hm8
            clear hp8 hb8 HPT HD7
            go_wp2_with fail
            go_loopw [13, 17] (fun v i wr => ∃ j : Nat, j ≤ n8 ∧ i = .int .i64 j ∧ Bx (QL wr w9.heap.size (fun _ => True) v ((K.take j).filter (bgn fr))) ∧ Bx (Below w9.heap.size w9 wr)) (fun _ i _ => n8 - (intOf i).toNat)
            case atStart => exact ⟨0, Nat.zero_le _, rfl, ⟨by rw [List.take_zero]; exact QL.nil _ _ _⟩, ⟨Below.refl _ _⟩⟩
            case round =>
              obtain ⟨j, hj, rfl, HQ, HB⟩ := hrel
              obtain ⟨vQ, hvQ⟩ : ∃ x, x = u13 := ⟨_, rfl⟩
              subst hvQ
              by_cases hlt : j < n8
              · have hjI : (j : Int) < (n8 : Int) := by omega
                have hjL : j < K.length := by rw [HN8.out]; exact hlt
                have HTK : Bx (K.take (j + 1) = K.take j ++ [K[j]]) := ⟨List.take_succ_eq_append_getElem hjL⟩
                have hks : K[j].1.size ≤ 1000000 := by have := HMO.out.k2 _ (HRP.out.p.subset (List.getElem_mem hjL)); omega
                have HFL : Bx (((K.take j).filter (bgn fr)).length ≤ 400) := ⟨by have h1 : ((K.take j).filter (bgn fr)).length ≤ (K.take j).length := List.length_filter_le _ _; rw [List.length_take] at h1; omega⟩
                obtain ⟨b, off, ai, ni, ci, rfl, hbl, _, x0, x1, hbt, hlo⟩ := (HAL.out.below HB.out).pr j hlt
                replace x0 : wr.cell? ⟨b, off + j * 2, none⟩ = some (.string (K[j]'hjL).1) := x0
                replace hbt : Bts wr ai ni ci (K[j]'hjL).2 := hbt
                have HX : Bx (∀ W, Below wr.heap.size wr W → W.cell? ⟨b, off + j * 2, none⟩ = some (.string K[j].1) ∧ W.cell? ⟨b, off + j * 2 + 1, none⟩ = some (.slice ai ni ci) ∧ Bts W ai ni ci K[j].2) := ⟨fun W hW => ⟨(hW.cell (p := ⟨b, off + j * 2, none⟩) hbl).trans x0, (hW.cell (p := ⟨b, off + j * 2 + 1, none⟩) hbl).trans x1, hbt.below hW⟩⟩
                have HLO := Bx.mk hlo
                clear hbt hlo
                by_cases hj0 : j = 0
                · have hd0 : decide ((0 : Int) < (j : Int)) = false := decide_eq_false (by omega)
                  have hd1 : decide (0 < j) = false := decide_eq_false (by omega)
                  clear hj0
                  go_wp2_with fail
                  go_quiet (fail)
                  have HQ2 := Bx.mk (HQ.out.drewN nq)
                  have HB2 := Bx.mk (bstep HB.out (below_drewN (Below.refl _ _) nq))
                  obtain ⟨z0, z1, hbz⟩ := HX.out _ (below_drewN (Below.refl wr.heap.size wr) nq)
                  have HBZ := Bx.mk hbz
                  have hwz : wr.heap.size = (wr.drewN nq).heap.size := rfl
                  have HLW : Bx (0 < ni → ∀ p, ai = some p → p.block < w9.heap.size) := ⟨fun h0 p e => (HLO.out h0 p e).2⟩
                  clear x0 x1 hbz HQ HB HX HLO
                  generalize wr.drewN nq = wq at HQ2 HB2 z0 z1 HBZ ⊢
                  go_wp2_with fail
                  refine (begins_any K[j].1 fr _ hks hfz).mono ?_
                  rintro e w' ⟨rfl, rfl⟩
                  generalize hcc : K[j] = cc at z0 HBZ HTK
                  obtain ⟨kk, vv⟩ := cc
                  simp only at z0 HBZ
                  by_cases hbg : bgn fr (kk, vv) = true
                  · have hbg2 : Lib.hasPrefix kk.data.toList fr.data.toList = true := hbg
                    have HFE : Bx ((K.take (j + 1)).filter (bgn fr) = (K.take j).filter (bgn fr) ++ [(kk, vv)]) := ⟨by rw [HTK.out, List.filter_append]; simp [hbg]⟩
                    generalize (K.take j).filter (bgn fr) = Q at HQ2 HFE HFL
                    have hql := HFL.out
                    obtain ⟨Z, hown, HQA⟩ := HQ2.out.open
                    have HVK : Bx (∀ j, vQ.ownBlock = some j → w9.heap.size ≤ j) := ⟨fun j hj => (hown.lt j hj).1⟩
                    have HNV : Bx (0 < ni → ∀ q, ai = some q → True ∧ vQ.ownBlock ≠ some q.block) := ⟨fun h0 q e => ⟨trivial, fun e2 => by have h1 := HVK.out _ e2; have h2 := HLW.out h0 q e; omega⟩⟩
                    have hbA : Below wq.heap.size wq (wq.alloc (.cells #[.string kk, .slice ai ni ci] 43)) := (Below.refl _ _).alloc (Nat.le_refl _) _
                    have HNW := Bx.mk (World.news_of_block (heap_alloc_new wq (.cells #[.string kk, .slice ai ni ci] 43)))
                    have HOA := Bx.mk (hown.alloc (.cells #[.string kk, .slice ai ni ci] 43))
                    have HQA2 : Bx (QA (wq.alloc (.cells #[.string kk, .slice ai ni ci] 43)) (fun _ => True) vQ Q Z) := ⟨⟨HQA.out.z, fun z hz => ⟨(HQA.out.b z hz).1.below hbA, (HQA.out.b z hz).2⟩⟩⟩
                    have HMJ : Bx (Bts (wq.alloc (.cells #[.string kk, .slice ai ni ci] 43)) ai ni ci vv) := ⟨HBZ.out.below hbA⟩
                    have HBW2 : Bx (Below w9.heap.size w9 (wq.alloc (.cells #[.string kk, .slice ai ni ci] 43))) := ⟨bstep HB2.out hbA⟩
                    have HS9 : Bx ((wq.alloc (.cells #[.string kk, .slice ai ni ci] 43)).heap.size = wq.heap.size + 1) := ⟨by simp⟩
                    clear hown hbA HQ2 HQA hcc hbg HTK
                    rw [hbg2]
                    go_wp2_with (at_builtin; refine wpList_append_lies _ rfl (.tmp 112) (.tmp 117) 39 rfl w9.heap.size 43 i0 (.agg #[.string ⟨#[]⟩, .slice none 0 0]) 2 40 Try.underlying39 hi hz0 hz1 hz2 rfl (by decide) _ Q.length (Z.flatMap prE) rfl HOA.out ⟨wq.heap.size, 0, none⟩ 1 1 [.string kk, .slice ai ni ci] rfl rfl HNW.out (by simp [Value.oneCell']) (by decide) (by unfold maxLen; omega) (by omega) HBW2.out.size _ rfl ?_)
                    intro g4 cap4 w4 hown4 hgr4 hl4 hlt4
                    have HP5 : Bx (QL w4 w9.heap.size (fun _ => True) (.slice (some ⟨g4, 0, none⟩) (Q.length + 1) cap4) (Q ++ [(kk, vv)])) := ⟨HQA2.out.done (z := ⟨(kk, vv), ai, ni, ci⟩) rfl rfl HMJ.out HNV.out hown4 hgr4 (by rcases hl4 with h1 | h1; exact .inl h1; exact .inr (by rw [HS9.out]; omega))⟩
                    have HK5 : Bx (Below w9.heap.size w9 w4) := ⟨HBW2.out.grown hgr4 HBW2.out.size (fun j hj => HVK.out j hj)⟩
                    rw [← HFE.out] at HP5
                    clear hown4 hgr4 hl4 HNW HVK HOA HQA2 HMJ HBW2 hlt4 HNV HB2 HFE z0 z1
                    go_wp2_with fail
                    go_roundw
                    case rel => exact ⟨j + 1, by omega, by go_num, HP5, HK5⟩
                    case measure => simp [intOf]; omega
                  · have hbg2 : Lib.hasPrefix kk.data.toList fr.data.toList = false := by simpa [bgn] using hbg
                    have HFE : Bx ((K.take (j + 1)).filter (bgn fr) = (K.take j).filter (bgn fr)) := ⟨by rw [HTK.out, List.filter_append]; simp [hbg]⟩
                    rw [← HFE.out] at HQ2
                    clear hcc hbg HTK HFE z0 z1
                    rw [hbg2]
                    go_wp2_with fail
                    go_roundw
                    case rel => exact ⟨j + 1, by omega, by go_num, HQ2, HB2⟩
                    case measure => simp [intOf]; omega
                · have hd0 : decide ((0 : Int) < (j : Int)) = true := decide_eq_true (by omega)
                  have hd1 : decide (0 < j) = true := decide_eq_true (by omega)
                  obtain ⟨i, hi1⟩ : ∃ i, j = i + 1 := ⟨j - 1, by omega⟩
                  have hiL : i < K.length := by omega
                  have hi8 : i < n8 := by omega
                  have hsub : IntKind.i64.wrap ((j : Int) - 1) = (i : Int) := by rw [IntWalk.i64_in _ (by omega)]; omega
                  have hii : (i : Int) < (n8 : Int) := by omega
                  have gl : Op.bytesLess K[i].1.toList K[j].1.toList = true := by
                    rw [bless]
                    exact decide_eq_true (List.pairwise_iff_getElem.1 HRP.out.s i j hiL hjL (by omega))
                  obtain ⟨b', off', ai', ni', ci', hbb, hbl', hB', y0, y1, hbt', hlo'⟩ := (HAL.out.below HB.out).pr i hi8
                  cases hbb
                  replace y0 : wr.cell? ⟨b, off + i * 2, none⟩ = some (.string (K[i]'hiL).1) := y0
                  clear hi1 hj0 hbl' hB' hbt' hlo'
                  go_wp2_with fail
                  go_quiet (fail)
                  clear y0 y1 gl hsub hii
                  have HQ2 := Bx.mk (HQ.out.drewN nq)
                  have HB2 := Bx.mk (bstep HB.out (below_drewN (Below.refl _ _) nq))
                  obtain ⟨z0, z1, hbz⟩ := HX.out _ (below_drewN (Below.refl wr.heap.size wr) nq)
                  have HBZ := Bx.mk hbz
                  have hwz : wr.heap.size = (wr.drewN nq).heap.size := rfl
                  have HLW : Bx (0 < ni → ∀ p, ai = some p → p.block < w9.heap.size) := ⟨fun h0 p e => (HLO.out h0 p e).2⟩
                  clear x0 x1 hbz HQ HB HX HLO
                  generalize wr.drewN nq = wq at HQ2 HB2 z0 z1 HBZ ⊢
                  go_wp2_with fail
                  refine (begins_any K[j].1 fr _ hks hfz).mono ?_
                  rintro e w' ⟨rfl, rfl⟩
                  generalize hcc : K[j] = cc at z0 HBZ HTK
                  obtain ⟨kk, vv⟩ := cc
                  simp only at z0 HBZ
                  by_cases hbg : bgn fr (kk, vv) = true
                  · have hbg2 : Lib.hasPrefix kk.data.toList fr.data.toList = true := hbg
                    have HFE : Bx ((K.take (j + 1)).filter (bgn fr) = (K.take j).filter (bgn fr) ++ [(kk, vv)]) := ⟨by rw [HTK.out, List.filter_append]; simp [hbg]⟩
                    generalize (K.take j).filter (bgn fr) = Q at HQ2 HFE HFL
                    have hql := HFL.out
                    obtain ⟨Z, hown, HQA⟩ := HQ2.out.open
                    have HVK : Bx (∀ j, vQ.ownBlock = some j → w9.heap.size ≤ j) := ⟨fun j hj => (hown.lt j hj).1⟩
                    have HNV : Bx (0 < ni → ∀ q, ai = some q → True ∧ vQ.ownBlock ≠ some q.block) := ⟨fun h0 q e => ⟨trivial, fun e2 => by have h1 := HVK.out _ e2; have h2 := HLW.out h0 q e; omega⟩⟩
                    have hbA : Below wq.heap.size wq (wq.alloc (.cells #[.string kk, .slice ai ni ci] 43)) := (Below.refl _ _).alloc (Nat.le_refl _) _
                    have HNW := Bx.mk (World.news_of_block (heap_alloc_new wq (.cells #[.string kk, .slice ai ni ci] 43)))
                    have HOA := Bx.mk (hown.alloc (.cells #[.string kk, .slice ai ni ci] 43))
                    have HQA2 : Bx (QA (wq.alloc (.cells #[.string kk, .slice ai ni ci] 43)) (fun _ => True) vQ Q Z) := ⟨⟨HQA.out.z, fun z hz => ⟨(HQA.out.b z hz).1.below hbA, (HQA.out.b z hz).2⟩⟩⟩
                    have HMJ : Bx (Bts (wq.alloc (.cells #[.string kk, .slice ai ni ci] 43)) ai ni ci vv) := ⟨HBZ.out.below hbA⟩
                    have HBW2 : Bx (Below w9.heap.size w9 (wq.alloc (.cells #[.string kk, .slice ai ni ci] 43))) := ⟨bstep HB2.out hbA⟩
                    have HS9 : Bx ((wq.alloc (.cells #[.string kk, .slice ai ni ci] 43)).heap.size = wq.heap.size + 1) := ⟨by simp⟩
                    clear hown hbA HQ2 HQA hcc hbg HTK
                    rw [hbg2]
                    go_wp2_with (at_builtin; refine wpList_append_lies _ rfl (.tmp 112) (.tmp 117) 39 rfl w9.heap.size 43 i0 (.agg #[.string ⟨#[]⟩, .slice none 0 0]) 2 40 Try.underlying39 hi hz0 hz1 hz2 rfl (by decide) _ Q.length (Z.flatMap prE) rfl HOA.out ⟨wq.heap.size, 0, none⟩ 1 1 [.string kk, .slice ai ni ci] rfl rfl HNW.out (by simp [Value.oneCell']) (by decide) (by unfold maxLen; omega) (by omega) HBW2.out.size _ rfl ?_)
                    intro g4 cap4 w4 hown4 hgr4 hl4 hlt4
                    have HP5 : Bx (QL w4 w9.heap.size (fun _ => True) (.slice (some ⟨g4, 0, none⟩) (Q.length + 1) cap4) (Q ++ [(kk, vv)])) := ⟨HQA2.out.done (z := ⟨(kk, vv), ai, ni, ci⟩) rfl rfl HMJ.out HNV.out hown4 hgr4 (by rcases hl4 with h1 | h1; exact .inl h1; exact .inr (by rw [HS9.out]; omega))⟩
                    have HK5 : Bx (Below w9.heap.size w9 w4) := ⟨HBW2.out.grown hgr4 HBW2.out.size (fun j hj => HVK.out j hj)⟩
                    rw [← HFE.out] at HP5
                    clear hown4 hgr4 hl4 HNW HVK HOA HQA2 HMJ HBW2 hlt4 HNV HB2 HFE z0 z1
                    go_wp2_with fail
                    go_roundw
                    case rel => exact ⟨j + 1, by omega, by go_num, HP5, HK5⟩
                    case measure => simp [intOf]; omega
                  · have hbg2 : Lib.hasPrefix kk.data.toList fr.data.toList = false := by simpa [bgn] using hbg
                    have HFE : Bx ((K.take (j + 1)).filter (bgn fr) = (K.take j).filter (bgn fr)) := ⟨by rw [HTK.out, List.filter_append]; simp [hbg]⟩
                    rw [← HFE.out] at HQ2
                    clear hcc hbg HTK HFE z0 z1
                    rw [hbg2]
                    go_wp2_with fail
                    go_roundw
                    case rel => exact ⟨j + 1, by omega, by go_num, HQ2, HB2⟩
                    case measure => simp [intOf]; omega
              · have hjI : ¬ (j : Int) < (n8 : Int) := by omega
                have hq : (K.take j).filter (bgn fr) = K.filter (bgn fr) := by rw [List.take_of_length_le (by rw [HN8.out]; omega)]
                rw [hq] at HQ
                obtain ⟨aQ, cQ, rfl, hpQ⟩ := HQ.out.pt (fun _ _ => trivial)
                have HPQ := Bx.mk hpQ
                have HPG2 := Bx.mk (HPG.out.below HB.out)
                have HD10 := Bx.mk (HD9.out.step HB.out)
                clear hpQ hq HQ HPG HD9 HAL HB
                generalize (K.filter (bgn fr)).length = nQ at HPQ ⊢
                go_wp2_with fail
                refine (psame_any _ _ _ _ _ _ _ _ _ _ _ HPG2.out HPQ.out).mono ?_
                rintro e w11 ⟨rfl, hb11⟩
                rw [decide_eq_true rfl]
                have HD11 := Bx.mk (HD10.out.step hb11)
                clear hb11 HD10 HPQ HPG2
                go_wp2_with fail
                refine (dt_scan w _ _ gd gl gs s L q M K ⟨#[]⟩ ⟨#[]⟩ 0 HD11.out HRP.out hml (by decide)).mono ?_
                rintro e w12 ⟨a12, n12, c12, Z12, rfl, hn12, _, _, _, _, hb12⟩
                rw [List.take_zero, List.length_nil] at hn12
                subst hn12
                have HD12 := Bx.mk (HD11.out.step hb12)
                clear hb12 HD11
                go_wp2_with fail
                refine (lives_any _).mono ?_
                rintro e w13 ⟨rfl, hb13⟩
                have HF := Bx.mk (bstep HD12.out.low hb13)
                clear hb13
                go_wp2_with fail
                go_ret
                exact ⟨rfl, HF.out⟩
          | some p6 =>
            obtain ⟨g6, e6⟩ : ∃ g, p6 = ⟨g, 0, none⟩ := by
              rcases HO6.out.2 with ⟨e, h0⟩ | ⟨g, cap, cur, e, _⟩
              · cases e
              · cases e; exact ⟨g, rfl⟩
            subst e6
            have HCN : Bx (∀ j u, (Z6.flatMap prE)[j]? = some u → w6.cell? ((⟨g6, 0, none⟩ : Addr).add j) = some u) := ⟨fun j u hu => by
              have h1 : j < n6 * 2 := by have h2 := (List.getElem?_eq_some_iff.1 hu).1; rw [flatC_len prE_len, HZ6L.out] at h2; exact h2
              have h3 := HO6.out.cellAt j h1
              rw [Addr.add_lit, Nat.zero_add, h3, hu]⟩
            have HNL : Bx ((Z6.flatMap prE).length = n6 * 2) := ⟨by rw [flatC_len prE_len, HZ6L.out]⟩
            have HN1 : Bx (∀ u ∈ Z6.flatMap prE, u.oneCell' = true) := ⟨fun u hu => by obtain ⟨z, _, h2⟩ := List.mem_flatMap.1 hu; exact prE_one z u h2⟩
            go_wp2_with (at_builtin; refine wpList_append_own _ rfl (.tmp 58) (.tmp 59) 39 rfl w4.heap.size 43 i0 (.agg #[.string ⟨#[]⟩, .slice none 0 0]) 2 40 Try.underlying39 hi hz0 hz1 hz2 rfl (by decide) _ P.length (Z.flatMap prE) rfl HOW.out ⟨g6, 0, none⟩ n6 c6 (Z6.flatMap prE) rfl HNL.out HCN.out HN1.out (by unfold maxLen; omega) (by omega) HB6.out.size ?_)
            intro v7 w7 hown7 hgr7 _
            have HPT0 : Bx (∃ a c, v7 = .slice a (P.length + n6) c ∧ PT (fun _ => True) w7 a (P.length + n6) c (K.filter (bgn fr))) := ⟨by
              rw [← HAL2.out]
              have hform : ∃ a c, v7 = .slice a (P.length + n6) c := by
                rcases hown7.2 with ⟨e, h0⟩ | ⟨g, cap, cur, e, _⟩
                · exact ⟨none, 0, by rw [e, h0]⟩
                · exact ⟨_, _, e⟩
              obtain ⟨a, c, e⟩ := hform
              rw [e] at hown7
              exact ⟨a, c, e, HQA.out.last HZV.out (by rw [HZ6L.out]) hown7 hgr7⟩⟩
            obtain ⟨aP, cP, hvf, hpt⟩ := HPT0.out
            subst hvf
            have HPT := Bx.mk hpt
            have hb7 : Below w4.heap.size w4 w7 := HB6.out.grown hgr7 HB6.out.size (fun j hj => (HVK.out j hj).1)
            have HD7 := Bx.mk (HDT.out.step hb7)
            clear hpt HOW HO6 HQA HVK HZV HD6 hown7 hgr7 hb7 HPT0 HCN HNL HN1
            generalize P.length + n6 = nP at HPT ⊢
            go_wp2_with fail
            refine (dt_all w _ _ gd gl gs s L q M K HD7.out HRP.out hml).mono ?_
            rintro e w9 ⟨a8, n8, c8, rfl, hp8, hb8⟩
            have HPG := Bx.mk (HPT.out.below hb8)
            have HAL := Bx.mk hp8
            have HD9 := Bx.mk (HD7.out.step hb8)
            have HN8 : Bx (K.length = n8) := ⟨hp8.len_eq⟩
            have hn8 : n8 ≤ 400 := by have h1 := hp8.len_eq; have h2 := HRP.out.p.length_eq; omega
            have hm8 := Nat.le_trans hp8.le_cap hp8.cap_le
            unfold maxLen at hm8
            clear hp8 hb8 HPT HD7
            go_wp2_with fail
            go_loopw [13, 17] (fun v i wr => ∃ j : Nat, j ≤ n8 ∧ i = .int .i64 j ∧ Bx (QL wr w9.heap.size (fun _ => True) v ((K.take j).filter (bgn fr))) ∧ Bx (Below w9.heap.size w9 wr)) (fun _ i _ => n8 - (intOf i).toNat)
            case atStart => exact ⟨0, Nat.zero_le _, rfl, ⟨by rw [List.take_zero]; exact QL.nil _ _ _⟩, ⟨Below.refl _ _⟩⟩
            case round =>
              obtain ⟨j, hj, rfl, HQ, HB⟩ := hrel
              obtain ⟨vQ, hvQ⟩ : ∃ x, x = u13 := ⟨_, rfl⟩
              subst hvQ
              by_cases hlt : j < n8
              · have hjI : (j : Int) < (n8 : Int) := by omega
                have hjL : j < K.length := by rw [HN8.out]; exact hlt
                have HTK : Bx (K.take (j + 1) = K.take j ++ [K[j]]) := ⟨List.take_succ_eq_append_getElem hjL⟩
                have hks : K[j].1.size ≤ 1000000 := by have := HMO.out.k2 _ (HRP.out.p.subset (List.getElem_mem hjL)); omega
                have HFL : Bx (((K.take j).filter (bgn fr)).length ≤ 400) := ⟨by have h1 : ((K.take j).filter (bgn fr)).length ≤ (K.take j).length := List.length_filter_le _ _; rw [List.length_take] at h1; omega⟩
                obtain ⟨b, off, ai, ni, ci, rfl, hbl, _, x0, x1, hbt, hlo⟩ := (HAL.out.below HB.out).pr j hlt
                replace x0 : wr.cell? ⟨b, off + j * 2, none⟩ = some (.string (K[j]'hjL).1) := x0
                replace hbt : Bts wr ai ni ci (K[j]'hjL).2 := hbt
                have HX : Bx (∀ W, Below wr.heap.size wr W → W.cell? ⟨b, off + j * 2, none⟩ = some (.string K[j].1) ∧ W.cell? ⟨b, off + j * 2 + 1, none⟩ = some (.slice ai ni ci) ∧ Bts W ai ni ci K[j].2) := ⟨fun W hW => ⟨(hW.cell (p := ⟨b, off + j * 2, none⟩) hbl).trans x0, (hW.cell (p := ⟨b, off + j * 2 + 1, none⟩) hbl).trans x1, hbt.below hW⟩⟩
                have HLO := Bx.mk hlo
                clear hbt hlo
                by_cases hj0 : j = 0
                · have hd0 : decide ((0 : Int) < (j : Int)) = false := decide_eq_false (by omega)
                  have hd1 : decide (0 < j) = false := decide_eq_false (by omega)
                  clear hj0
                  go_wp2_with fail
                  go_quiet (fail)
                  have HQ2 := Bx.mk (HQ.out.drewN nq)
                  have HB2 := Bx.mk (bstep HB.out (below_drewN (Below.refl _ _) nq))
                  obtain ⟨z0, z1, hbz⟩ := HX.out _ (below_drewN (Below.refl wr.heap.size wr) nq)
                  have HBZ := Bx.mk hbz
                  have hwz : wr.heap.size = (wr.drewN nq).heap.size := rfl
                  have HLW : Bx (0 < ni → ∀ p, ai = some p → p.block < w9.heap.size) := ⟨fun h0 p e => (HLO.out h0 p e).2⟩
                  clear x0 x1 hbz HQ HB HX HLO
                  generalize wr.drewN nq = wq at HQ2 HB2 z0 z1 HBZ ⊢
                  go_wp2_with fail
                  refine (begins_any K[j].1 fr _ hks hfz).mono ?_
                  rintro e w' ⟨rfl, rfl⟩
                  generalize hcc : K[j] = cc at z0 HBZ HTK
                  obtain ⟨kk, vv⟩ := cc
                  simp only at z0 HBZ
                  by_cases hbg : bgn fr (kk, vv) = true
                  · have hbg2 : Lib.hasPrefix kk.data.toList fr.data.toList = true := hbg
                    have HFE : Bx ((K.take (j + 1)).filter (bgn fr) = (K.take j).filter (bgn fr) ++ [(kk, vv)]) := ⟨by rw [HTK.out, List.filter_append]; simp [hbg]⟩
                    generalize (K.take j).filter (bgn fr) = Q at HQ2 HFE HFL
                    have hql := HFL.out
                    obtain ⟨Z, hown, HQA⟩ := HQ2.out.open
                    have HVK : Bx (∀ j, vQ.ownBlock = some j → w9.heap.size ≤ j) := ⟨fun j hj => (hown.lt j hj).1⟩
                    have HNV : Bx (0 < ni → ∀ q, ai = some q → True ∧ vQ.ownBlock ≠ some q.block) := ⟨fun h0 q e => ⟨trivial, fun e2 => by have h1 := HVK.out _ e2; have h2 := HLW.out h0 q e; omega⟩⟩
                    have hbA : Below wq.heap.size wq (wq.alloc (.cells #[.string kk, .slice ai ni ci] 43)) := (Below.refl _ _).alloc (Nat.le_refl _) _
                    have HNW := Bx.mk (World.news_of_block (heap_alloc_new wq (.cells #[.string kk, .slice ai ni ci] 43)))
                    have HOA := Bx.mk (hown.alloc (.cells #[.string kk, .slice ai ni ci] 43))
                    have HQA2 : Bx (QA (wq.alloc (.cells #[.string kk, .slice ai ni ci] 43)) (fun _ => True) vQ Q Z) := ⟨⟨HQA.out.z, fun z hz => ⟨(HQA.out.b z hz).1.below hbA, (HQA.out.b z hz).2⟩⟩⟩
                    have HMJ : Bx (Bts (wq.alloc (.cells #[.string kk, .slice ai ni ci] 43)) ai ni ci vv) := ⟨HBZ.out.below hbA⟩
                    have HBW2 : Bx (Below w9.heap.size w9 (wq.alloc (.cells #[.string kk, .slice ai ni ci] 43))) := ⟨bstep HB2.out hbA⟩
                    have HS9 : Bx ((wq.alloc (.cells #[.string kk, .slice ai ni ci] 43)).heap.size = wq.heap.size + 1) := ⟨by simp⟩
                    clear hown hbA HQ2 HQA hcc hbg HTK
                    rw [hbg2]
                    go_wp2_with (at_builtin; refine wpList_append_lies _ rfl (.tmp 112) (.tmp 117) 39 rfl w9.heap.size 43 i0 (.agg #[.string ⟨#[]⟩, .slice none 0 0]) 2 40 Try.underlying39 hi hz0 hz1 hz2 rfl (by decide) _ Q.length (Z.flatMap prE) rfl HOA.out ⟨wq.heap.size, 0, none⟩ 1 1 [.string kk, .slice ai ni ci] rfl rfl HNW.out (by simp [Value.oneCell']) (by decide) (by unfold maxLen; omega) (by omega) HBW2.out.size _ rfl ?_)
                    intro g4 cap4 w4 hown4 hgr4 hl4 hlt4
                    have HP5 : Bx (QL w4 w9.heap.size (fun _ => True) (.slice (some ⟨g4, 0, none⟩) (Q.length + 1) cap4) (Q ++ [(kk, vv)])) := ⟨HQA2.out.done (z := ⟨(kk, vv), ai, ni, ci⟩) rfl rfl HMJ.out HNV.out hown4 hgr4 (by rcases hl4 with h1 | h1; exact .inl h1; exact .inr (by rw [HS9.out]; omega))⟩
                    have HK5 : Bx (Below w9.heap.size w9 w4) := ⟨HBW2.out.grown hgr4 HBW2.out.size (fun j hj => HVK.out j hj)⟩
                    rw [← HFE.out] at HP5
                    clear hown4 hgr4 hl4 HNW HVK HOA HQA2 HMJ HBW2 hlt4 HNV HB2 HFE z0 z1
                    go_wp2_with fail
                    go_roundw
                    case rel => exact ⟨j + 1, by omega, by go_num, HP5, HK5⟩
                    case measure => simp [intOf]; omega
                  · have hbg2 : Lib.hasPrefix kk.data.toList fr.data.toList = false := by simpa [bgn] using hbg
                    have HFE : Bx ((K.take (j + 1)).filter (bgn fr) = (K.take j).filter (bgn fr)) := ⟨by rw [HTK.out, List.filter_append]; simp [hbg]⟩
                    rw [← HFE.out] at HQ2
                    clear hcc hbg HTK HFE z0 z1
                    rw [hbg2]
                    go_wp2_with fail
                    go_roundw
                    case rel => exact ⟨j + 1, by omega, by go_num, HQ2, HB2⟩
                    case measure => simp [intOf]; omega
                · have hd0 : decide ((0 : Int) < (j : Int)) = true := decide_eq_true (by omega)
                  have hd1 : decide (0 < j) = true := decide_eq_true (by omega)
                  obtain ⟨i, hi1⟩ : ∃ i, j = i + 1 := ⟨j - 1, by omega⟩
                  have hiL : i < K.length := by omega
                  have hi8 : i < n8 := by omega
                  have hsub : IntKind.i64.wrap ((j : Int) - 1) = (i : Int) := by rw [IntWalk.i64_in _ (by omega)]; omega
                  have hii : (i : Int) < (n8 : Int) := by omega
                  have gl : Op.bytesLess K[i].1.toList K[j].1.toList = true := by
                    rw [bless]
                    exact decide_eq_true (List.pairwise_iff_getElem.1 HRP.out.s i j hiL hjL (by omega))
                  obtain ⟨b', off', ai', ni', ci', hbb, hbl', hB', y0, y1, hbt', hlo'⟩ := (HAL.out.below HB.out).pr i hi8
                  cases hbb
                  replace y0 : wr.cell? ⟨b, off + i * 2, none⟩ = some (.string (K[i]'hiL).1) := y0
                  clear hi1 hj0 hbl' hB' hbt' hlo'
                  go_wp2_with fail
                  go_quiet (fail)
                  clear y0 y1 gl hsub hii
                  have HQ2 := Bx.mk (HQ.out.drewN nq)
                  have HB2 := Bx.mk (bstep HB.out (below_drewN (Below.refl _ _) nq))
                  obtain ⟨z0, z1, hbz⟩ := HX.out _ (below_drewN (Below.refl wr.heap.size wr) nq)
                  have HBZ := Bx.mk hbz
                  have hwz : wr.heap.size = (wr.drewN nq).heap.size := rfl
                  have HLW : Bx (0 < ni → ∀ p, ai = some p → p.block < w9.heap.size) := ⟨fun h0 p e => (HLO.out h0 p e).2⟩
                  clear x0 x1 hbz HQ HB HX HLO
                  generalize wr.drewN nq = wq at HQ2 HB2 z0 z1 HBZ ⊢
                  go_wp2_with fail
                  refine (begins_any K[j].1 fr _ hks hfz).mono ?_
                  rintro e w' ⟨rfl, rfl⟩
                  generalize hcc : K[j] = cc at z0 HBZ HTK
                  obtain ⟨kk, vv⟩ := cc
                  simp only at z0 HBZ
                  by_cases hbg : bgn fr (kk, vv) = true
                  · have hbg2 : Lib.hasPrefix kk.data.toList fr.data.toList = true := hbg
                    have HFE : Bx ((K.take (j + 1)).filter (bgn fr) = (K.take j).filter (bgn fr) ++ [(kk, vv)]) := ⟨by rw [HTK.out, List.filter_append]; simp [hbg]⟩
                    generalize (K.take j).filter (bgn fr) = Q at HQ2 HFE HFL
                    have hql := HFL.out
                    obtain ⟨Z, hown, HQA⟩ := HQ2.out.open
                    have HVK : Bx (∀ j, vQ.ownBlock = some j → w9.heap.size ≤ j) := ⟨fun j hj => (hown.lt j hj).1⟩
                    have HNV : Bx (0 < ni → ∀ q, ai = some q → True ∧ vQ.ownBlock ≠ some q.block) := ⟨fun h0 q e => ⟨trivial, fun e2 => by have h1 := HVK.out _ e2; have h2 := HLW.out h0 q e; omega⟩⟩
                    have hbA : Below wq.heap.size wq (wq.alloc (.cells #[.string kk, .slice ai ni ci] 43)) := (Below.refl _ _).alloc (Nat.le_refl _) _
                    have HNW := Bx.mk (World.news_of_block (heap_alloc_new wq (.cells #[.string kk, .slice ai ni ci] 43)))
                    have HOA := Bx.mk (hown.alloc (.cells #[.string kk, .slice ai ni ci] 43))
                    have HQA2 : Bx (QA (wq.alloc (.cells #[.string kk, .slice ai ni ci] 43)) (fun _ => True) vQ Q Z) := ⟨⟨HQA.out.z, fun z hz => ⟨(HQA.out.b z hz).1.below hbA, (HQA.out.b z hz).2⟩⟩⟩
                    have HMJ : Bx (Bts (wq.alloc (.cells #[.string kk, .slice ai ni ci] 43)) ai ni ci vv) := ⟨HBZ.out.below hbA⟩
                    have HBW2 : Bx (Below w9.heap.size w9 (wq.alloc (.cells #[.string kk, .slice ai ni ci] 43))) := ⟨bstep HB2.out hbA⟩
                    have HS9 : Bx ((wq.alloc (.cells #[.string kk, .slice ai ni ci] 43)).heap.size = wq.heap.size + 1) := ⟨by simp⟩
                    clear hown hbA HQ2 HQA hcc hbg HTK
                    rw [hbg2]
                    go_wp2_with (at_builtin; refine wpList_append_lies _ rfl (.tmp 112) (.tmp 117) 39 rfl w9.heap.size 43 i0 (.agg #[.string ⟨#[]⟩, .slice none 0 0]) 2 40 Try.underlying39 hi hz0 hz1 hz2 rfl (by decide) _ Q.length (Z.flatMap prE) rfl HOA.out ⟨wq.heap.size, 0, none⟩ 1 1 [.string kk, .slice ai ni ci] rfl rfl HNW.out (by simp [Value.oneCell']) (by decide) (by unfold maxLen; omega) (by omega) HBW2.out.size _ rfl ?_)
                    intro g4 cap4 w4 hown4 hgr4 hl4 hlt4
                    have HP5 : Bx (QL w4 w9.heap.size (fun _ => True) (.slice (some ⟨g4, 0, none⟩) (Q.length + 1) cap4) (Q ++ [(kk, vv)])) := ⟨HQA2.out.done (z := ⟨(kk, vv), ai, ni, ci⟩) rfl rfl HMJ.out HNV.out hown4 hgr4 (by rcases hl4 with h1 | h1; exact .inl h1; exact .inr (by rw [HS9.out]; omega))⟩
                    have HK5 : Bx (Below w9.heap.size w9 w4) := ⟨HBW2.out.grown hgr4 HBW2.out.size (fun j hj => HVK.out j hj)⟩
                    rw [← HFE.out] at HP5
                    clear hown4 hgr4 hl4 HNW HVK HOA HQA2 HMJ HBW2 hlt4 HNV HB2 HFE z0 z1
                    go_wp2_with fail
                    go_roundw
                    case rel => exact ⟨j + 1, by omega, by go_num, HP5, HK5⟩
                    case measure => simp [intOf]; omega
                  · have hbg2 : Lib.hasPrefix kk.data.toList fr.data.toList = false := by simpa [bgn] using hbg
                    have HFE : Bx ((K.take (j + 1)).filter (bgn fr) = (K.take j).filter (bgn fr)) := ⟨by rw [HTK.out, List.filter_append]; simp [hbg]⟩
                    rw [← HFE.out] at HQ2
                    clear hcc hbg HTK HFE z0 z1
                    rw [hbg2]
                    go_wp2_with fail
                    go_roundw
                    case rel => exact ⟨j + 1, by omega, by go_num, HQ2, HB2⟩
                    case measure => simp [intOf]; omega
              · have hjI : ¬ (j : Int) < (n8 : Int) := by omega
                have hq : (K.take j).filter (bgn fr) = K.filter (bgn fr) := by rw [List.take_of_length_le (by rw [HN8.out]; omega)]
                rw [hq] at HQ
                obtain ⟨aQ, cQ, rfl, hpQ⟩ := HQ.out.pt (fun _ _ => trivial)
                have HPQ := Bx.mk hpQ
                have HPG2 := Bx.mk (HPG.out.below HB.out)
                have HD10 := Bx.mk (HD9.out.step HB.out)
                clear hpQ hq HQ HPG HD9 HAL HB
                generalize (K.filter (bgn fr)).length = nQ at HPQ ⊢
                go_wp2_with fail
                refine (psame_any _ _ _ _ _ _ _ _ _ _ _ HPG2.out HPQ.out).mono ?_
                rintro e w11 ⟨rfl, hb11⟩
                rw [decide_eq_true rfl]
                have HD11 := Bx.mk (HD10.out.step hb11)
                clear hb11 HD10 HPQ HPG2
                go_wp2_with fail
                refine (dt_scan w _ _ gd gl gs s L q M K ⟨#[]⟩ ⟨#[]⟩ 0 HD11.out HRP.out hml (by decide)).mono ?_
                rintro e w12 ⟨a12, n12, c12, Z12, rfl, hn12, _, _, _, _, hb12⟩
                rw [List.take_zero, List.length_nil] at hn12
                subst hn12
                have HD12 := Bx.mk (HD11.out.step hb12)
                clear hb12 HD11
                go_wp2_with fail
                refine (lives_any _).mono ?_
                rintro e w13 ⟨rfl, hb13⟩
                have HF := Bx.mk (bstep HD12.out.low hb13)
                clear hb13
                go_wp2_with fail
                go_ret
                exact ⟨rfl, HF.out⟩
        · have hlI : ¬ (n6 : Int) < (ms : Int) := by omega
          have hne : n6 = ms := by omega
          subst hne
          obtain ⟨g6, e6⟩ : ∃ g, a6 = some ⟨g, 0, none⟩ := by
            rcases HO6.out.2 with ⟨e, h0⟩ | ⟨g, cap, cur, e, _⟩
            · omega
            · cases e; exact ⟨g, rfl⟩
          subst e6
          have HCN : Bx (∀ j u, (Z6.flatMap prE)[j]? = some u → w6.cell? ((⟨g6, 0, none⟩ : Addr).add j) = some u) := ⟨fun j u hu => by
            have h1 : j < n6 * 2 := by have h2 := (List.getElem?_eq_some_iff.1 hu).1; rw [flatC_len prE_len, HZ6L.out] at h2; exact h2
            have h3 := HO6.out.cellAt j h1
            rw [Addr.add_lit, Nat.zero_add, h3, hu]⟩
          have HNL : Bx ((Z6.flatMap prE).length = n6 * 2) := ⟨by rw [flatC_len prE_len, HZ6L.out]⟩
          have HN1 : Bx (∀ u ∈ Z6.flatMap prE, u.oneCell' = true) := ⟨fun u hu => by obtain ⟨z, _, h2⟩ := List.mem_flatMap.1 hu; exact prE_one z u h2⟩
          obtain ⟨mt, hmt⟩ : ∃ mt, n6 = mt + 1 := ⟨n6 - 1, by omega⟩
          have hRl : n6 ≤ (rs K fr af).length := by have h1 := HN6.out; rw [List.length_take] at h1; omega
          have hmR : mt < (rs K fr af).length := by omega
          obtain ⟨hnx1, hnx2⟩ := rs_next HRP.out.s (front := fr) (after := af) hmR
          have hmZ : mt < Z6.length := by have := HZ6L.out; omega
          have hkey : Z6[mt].x = (rs K fr af)[mt] := by
            have h1 : (Z6.map (·.x))[mt]? = ((rs K fr af).take n6)[mt]? := by rw [HZ6.out]
            rw [List.getElem?_map, List.getElem?_eq_getElem hmZ, List.getElem?_take, if_pos (by omega), List.getElem?_eq_getElem hmR] at h1
            exact Option.some.inj h1
          have hcl6 : w6.cell? ⟨g6, mt * 2, none⟩ = some (.string (rs K fr af)[mt].1) := by
            have h1 := HO6.out.cellAt (mt * 2) (by omega)
            have h2 := flat_get prE_len Z6 mt 0 hmZ (by omega)
            rw [Nat.add_zero] at h2
            rw [h1, h2, ← hkey]; rfl
          have hg6 : wr.heap.size ≤ g6 := HAL6.out _ rfl
          have HG6 : Bx (vP.ownBlock ≠ some g6) := ⟨fun e => by have := (HVK.out _ e).2; omega⟩
          have HEQ2 : Bx ((P ++ Z6.map (·.x)) ++ rs K fr (rs K fr af)[mt].1 = K.filter (bgn fr)) := ⟨by
            rw [hnx2, HZ6.out, List.append_assoc, hmt, List.take_append_drop]
            exact HEQ.out⟩
          have HMS2 : Bx ((rs K fr (rs K fr af)[mt].1).length < (rs K fr af).length) := ⟨by rw [hnx2, List.length_drop]; omega⟩
          have hle := bleq (rs K fr af)[mt].1 af
          rw [decide_eq_true hnx1] at hle
          simp only [Bool.not_true, Bool.or_eq_false_iff] at hle
          obtain ⟨gle1, gle2⟩ := hle
          have hnP : P.length + n6 ≤ 1000 := by omega
          generalize (rs K fr af)[mt].1 = ky at hcl6 HEQ2 HMS2 gle1 gle2
          have HC6 := Bx.mk hcl6
          have hgl6 : g6 < w6.heap.size := by
            rcases HO6.out.2 with ⟨e, h0⟩ | ⟨g, cap, cur, e, _, hh, _⟩
            · cases e
            · cases e; exact (Array.getElem?_eq_some_iff.1 hh).1
          have hsub : (n6 : Int) - 1 = (mt : Int) := by omega
          have hmtI : (mt : Int) < (n6 : Int) := by omega
          clear hnx1 hnx2 hkey hcl6 hmt hRl hmR hmZ
          go_wp2_with (at_builtin; refine wpList_append_lies _ rfl (.tmp 58) (.tmp 59) 39 rfl w4.heap.size 43 i0 (.agg #[.string ⟨#[]⟩, .slice none 0 0]) 2 40 Try.underlying39 hi hz0 hz1 hz2 rfl (by decide) _ P.length (Z.flatMap prE) rfl HOW.out ⟨g6, 0, none⟩ n6 c6 (Z6.flatMap prE) rfl HNL.out HCN.out HN1.out (by omega) (by unfold maxLen; omega) (by omega) HB6.out.size _ rfl ?_)
          intro g7 cap7 w7 hown7 hgr7 hl7 hlt7
          have HP7 : Bx (QL w7 w4.heap.size (fun _ => True) (.slice (some ⟨g7, 0, none⟩) (P.length + n6) cap7) (P ++ Z6.map (·.x))) := ⟨HQA.out.doneN rfl HZ6L.out (fun z hz => ⟨(HZV.out z hz).1, fun h0 p e => ⟨trivial, (HZV.out z hz).2 h0 p e⟩⟩) hown7 hgr7 (by rcases hl7 with h1 | h1; exact .inl h1; exact .inr (by rw [h1]; exact Nat.le_refl _))⟩
          have HB7 : Bx (Below w4.heap.size w4 w7) := ⟨HB6.out.grown hgr7 HB6.out.size (fun j hj => (HVK.out j hj).1)⟩
          have c7 : w7.cell? ⟨g6, mt * 2, none⟩ = some (.string ky) := (World.cell?_of_block (w := w6) (hgr7.block g6 hgl6 (fun e => HG6.out e.symm))).trans HC6.out
          clear HOW HO6 HQA HVK HZV HD6 hown7 hgr7 hl7 hlt7 HCN HNL HN1 HC6 HG6 HB6 HAL6 HZ6 HN6
          generalize P.length + n6 = nP at HP7 ⊢
          go_wp2_with fail
          go_roundw
          case rel => exact ⟨_, ky, rfl, HP7, HB7, HEQ2⟩
          case measure => exact HMS2.out

set_option maxRecDepth 100000 in
theorem lifted (os : Os) (started : os.Started) (H : Type) (enc : TypeId × Value → H) :
    ReturnsInHanded {} Try.checked os 3 .any (Rows.storePagesSpec.pre6 enc Try.prog Try.f3 Rows.storePagesRow.domain false) (Rows.storePagesSpec.post enc Try.prog Try.f3 false true false false) := by
  refine returnsInHanded_of_change (C := Try.checked) own started (by kernel_rfl) Try.func3
    (ChangeSpec.witness6 (enc := enc) (C := Try.checked) false ⟨#[], #[.slice none 0 0, .string ⟨#[]⟩, .int .i64 0], []⟩ 8 (by kernel_rfl) (by kernel_rfl) (by kernel_rfl) (by kernel_rfl)) ?_
  intro W base args ds gs before hval0 hW hcnd _
  have hval : ∀ (j : Nat) t v, Try.f3.params[j]? = some t → args[j]? = some v → Value.okWide Try.prog W .any base t v := hval0
  have hW' := hW
  obtain ⟨p, q, hA0, hV, rfl, hfz, hnd⟩ := hW
  have hA : DataW.TrodAll enc Try.prog W 0 (fun _ => true) true Try.f3.params.toList args.toList ds p := hA0
  rw [Try.params3] at hA hval
  obtain ⟨v0, vs0, d0, ds0, p0, q0, hargs, rfl, rfl, h0, r0⟩ := trodAll_cons hA
  obtain ⟨v1, vs1, d1, ds1, p1, q1, rfl, rfl, rfl, h1, r1⟩ := trodAll_cons r0
  obtain ⟨v2, vs2, d2, ds2, p2, q2, rfl, rfl, rfl, h2, r2⟩ := trodAll_cons r1
  obtain ⟨rfl, rfl, rfl⟩ := trodAll_nil r2
  obtain rfl : args = #[v0, v1, v2] := by cases args; simp_all
  obtain ⟨rfl, rfl⟩ := trodVars_none hV
  obtain ⟨a0, len0, cap0, rfl⟩ := okWide_slice Try.underlying22 (hval 0 22 v0 rfl rfl)
  have k0 := h0
  have lt0 : ∀ x ∈ p0, x.block < W.heap.size := by obtain ⟨m, hm⟩ := k0; exact DataW.trod_lt m _ _ _ hm
  have k1 := h1
  have lt1 : ∀ x ∈ p1, x.block < W.heap.size := by obtain ⟨m, hm⟩ := k1; exact DataW.trod_lt m _ _ _ hm
  have k2 := h2
  have lt2 : ∀ x ∈ p2, x.block < W.heap.size := by obtain ⟨m, hm⟩ := k2; exact DataW.trod_lt m _ _ _ hm
  obtain ⟨l, hl⟩ := open_dos h0
  obtain ⟨front, rfl, hfront⟩ := open_str (hval 1 9 v1 rfl rfl) h1
  obtain ⟨most, rfl, hmost⟩ := open_i64 (hval 2 3 v2 rfl rfl) h2
  clear hA0 hval0
  refine (walk a0 len0 cap0 l front most W hl hfront hmost).mono fun e W' ⟨he, bel⟩ => ?_
  subst he
  exact ⟨_, rfl, _, _, _, [], _, [], hW', trodAll_mk1 (shut_bool Try.underlying4 _), (trodAll_cons_mk (Below.trod laidOut (by kernel_rfl) (of_decide_eq_true (by kernel_rfl)) k0 bel lt0) (trodAll_cons_mk (Below.trod laidOut (by kernel_rfl) (of_decide_eq_true (by kernel_rfl)) k1 bel lt1) (trodAll_cons_mk (Below.trod laidOut (by kernel_rfl) (of_decide_eq_true (by kernel_rfl)) k2 bel lt2) trodAll_mk0))), rfl, bel.frame _, fun h => by cases h⟩

theorem over : Rows.storePagesRow.holds Try.pinned (OpenSpec.ofChange Rows.storePagesSpec) :=
  OpenClaim.holds_of_wide 3 Try.f3 rfl rfl rfl rfl rfl rfl rfl ⟨rfl, rfl, rfl, rfl, rfl⟩ rfl rfl rfl rfl rfl (by kernel_rfl) Try.func3 (by kernel_rfl)
    (of_decide_eq_true (by kernel_rfl)) (by unfold Func.isWrapper; first | (rw [if_pos (by decide +kernel)]; kernel_rfl) | (rw [if_neg (by decide +kernel)]; exact ⟨rfl, rfl⟩))
    (fun os started H enc _ => lifted os started H enc)

/-- the statement -/
theorem proved : Rows.StorePagesSaid := over
end Go.Proofs.Ytjnjokbdoendkab.storePages
namespace Go.Proofs.Ytjnjokbdoendkab
theorem storePages_holds : Rows.StorePagesSaid := storePages.proved
#print axioms storePages_holds
end Go.Proofs.Ytjnjokbdoendkab
