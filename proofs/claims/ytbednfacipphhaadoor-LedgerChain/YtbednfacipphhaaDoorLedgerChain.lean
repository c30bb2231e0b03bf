/- For every two lists of entries the law LedgerChain returns true and what came in reads as it did (P21.4): two ledgers one of whose chains is the other's have the same entries, or two unlike texts of one sum are among what was summed. The package's table is as the program's text lays it (the card ties it). -/
import Derived.Test.YtbednfacipphhaaDoorDoor
import Derived.Test.YtbednfacipphhaaDoorLdFill
import Derived.Test.YtbednfacipphhaaDoorAuax
import Derived.Test.YtbednfacipphhaaDoorRLink
import Derived.Test.YtbednfacipphhaaDoorAubc
import Derived.Test.YtbednfacipphhaaDoorCIs
import Derived.Test.YtbednfacipphhaaDoorHdEq
import Derived.Test.YtbednfacipphhaaDoorAuaj
import Derived.Test.YtbednfacipphhaaDoorAppL
import Derived.Test.YtbednfacipphhaaDoorRefSum
import Derived.WalkKit
import Derived.ShutString
import Derived.ChangeOld
import Derived.Below
namespace Go.Proofs.YtbednfacipphhaaDoor.ledgerChain
open Go.ChangeShapes Go.WideShapes Go.ChangeAt Go.RowKit
open Go.ChangeMaps (open_string shut_string)
set_option linter.unusedVariables false

theorem laidOut : laidOutB Tryd.prog = true := by kernel_rfl

/-- the head of the first n texts -/
def hN (KY : List Int) (T : List (List Int)) (n : Nat) : Hd := sgn KY (hdD (leavesL (T.take n) 256))
theorem hN_dg (KY : List Int) (T : List (List Int)) (n : Nat) : HdD (hN KY T n) := sgn_digs (hdD_dg _ (leavesL_dg _ _))
theorem hN_n (KY : List Int) (T : List (List Int)) (n : Nat) (h : n ≤ T.length) : (hN KY T n).n = (n : Int) := by
  show ((leavesL (T.take n) 256).length : Int) = n
  rw [leavesL_len, List.length_take, Nat.min_eq_left h]
theorem hN_head (KY : List Int) (T : List (List Int)) (n : Nat) (h : n ≤ T.length) : headT KY T (n : Int) = (hN KY T n, 0) := by
  rw [headT_yes ⟨Int.natCast_nonneg n, by omega⟩, Int.toNat_natCast]; rfl
theorem hN_sign (KY : List Int) (T : List (List Int)) (n : Nat) : decide ((hN KY T n).G = macL KY (headL (hN KY T n))) = true := decide_eq_true rfl
theorem hN_R (KY : List Int) (T : List (List Int)) (n : Nat) : (hN KY T n).R = rootL (leavesL (T.take n) 256) 256 := rfl
theorem hN_C (KY : List Int) (T : List (List Int)) : (hN KY T T.length).C = chnT T := by
  show chnD (leavesL (T.take T.length) 256) = chnT T
  rw [List.take_length, chnD_leaves]
theorem link_pos (a : Option Addr) (n cap : Nat) (T : List (List Int)) (w : World) (hT : Txs w a n cap T) (hf : ∀ t ∈ T, t.length ≤ 1000000) (h0 : 0 < n) (hn : n ≤ 1000) :
    Calls Tryd.prog 35 #[.slice a n cap] w fun e w' => ∃ v, e = .returned v ∧ w'.ownsRow w.heap.size 5 1 v 65 (bv (linkL T)) ∧ Below w.heap.size w w' := by
  obtain ⟨k, rfl⟩ : ∃ k, n = k + 1 := ⟨n - 1, by omega⟩
  exact link21_any a k cap T w hT hf (by omega)
theorem link_byt (T : List (List Int)) : Byt (linkL T) := Byt.cons (by decide) ((chnT_dg _).2.append (leafL_dg _ _).2)
theorem owns_kept {w w' : World} {own : Nat → Prop} {base : Nat} {e : TypeId} {size n : Nat} {v : Value} {xs : List Value} (h : w.ownsRow base e size v n xs) (hk : Kept own w w') (hb : ∀ k, v.ownBlock = some k → ¬ own k) : w'.ownsRow base e size v n xs := by
  refine ⟨h.1, ?_⟩
  rcases h.2 with h2 | ⟨g, cap, cur, hv, hg, hh, r⟩
  · exact .inl h2
  · exact .inr ⟨g, cap, cur, hv, hg, (hk.block g (Array.getElem?_eq_some_iff.1 hh).1 (hb g (by rw [hv]; rfl))).trans hh, r⟩
/-- what one step back along two chains comes to -/
structure StB (A B : List (List Int)) (n m n1 m1 : Nat) (P Q t u : List Int) : Prop where
  n : n = n1 + 1
  m : m = m1 + 1
  link : P ≠ Q → clashB P Q 256 = true
  text : P = Q → t ≠ u → clashB (0 :: t) (0 :: u) 256 = true
  step : P = Q → t = u → Bk A B n1 m1
theorem stb_of {A B : List (List Int)} {n m : Nat} (h : Bk A B n m) (hn : 0 < n) (hm : 0 < m) : StB A B n m (n - 1) (m - 1) (linkL (A.take n)) (linkL (B.take m)) (A.getD (n - 1) []) (B.getD (m - 1) []) := by
  obtain ⟨n1, rfl⟩ : ∃ k, n = k + 1 := ⟨n - 1, by omega⟩
  obtain ⟨m1, rfl⟩ : ∃ k, m = k + 1 := ⟨m - 1, by omega⟩
  exact ⟨by omega, by omega, fun e => bk_link h e, fun e e2 => bk_text h e e2, fun e e2 => bk_step h e e2⟩
theorem nought_n {A B : List (List Int)} {n : Nat} (h : Bk A B n 0) (hn : 0 < n) : sumL (linkL (A.take n)) = dz := by
  obtain ⟨n1, rfl⟩ : ∃ k, n = k + 1 := ⟨n - 1, by omega⟩
  exact bk_nought h
theorem nought_m {A B : List (List Int)} {m : Nat} (h : Bk A B 0 m) (hm : 0 < m) : sumL (linkL (B.take m)) = dz := by
  obtain ⟨m1, rfl⟩ : ∃ k, m = k + 1 := ⟨m - 1, by omega⟩
  exact bk_nought' h
theorem dz_build : ∀ W : World, (Instr.build 30 #[]).run Tryd.prog W = .ok (.agg (bv dz).toArray) W := fun W => by kernel_rfl
theorem wpList_build_dz {ops : Array Oper} {rest : List Oper} {o : Oper} {a : Act} {w : World} {Q : Exit → Act → World → Prop} (hw : Region.wanted o (yielded ops a.tmps) = true) (ho : o.op = .build 30 #[])
    (h : wpList Tryd.prog ops Q rest (a.put o.dst (.agg (bv dz).toArray)) w) : wpList Tryd.prog ops Q (o :: rest) a w :=
  wpList_step fun K hK => by
    rw [if_pos hw]
    unfold Oper.wp execOp
    simp [ho, dz_build]
    exact hK _ _ h

set_option maxRecDepth 100000 in
set_option maxHeartbeats 1000000 in
theorem walk (a0 : Option Addr) (len0 cap0 : Nat) (l1 : List EC) (a1 : Option Addr) (len1 cap1 : Nat) (l2 : List EC) (w : World) (hl1 : Ens w a0 len0 cap0 l1 ∧ EnsOk w l1) (hl2 : Ens w a1 len1 cap1 l2 ∧ EnsOk w l2) (htab : Tab w) :
    Calls Tryd.prog 7 #[.slice a0 len0 cap0, .slice a1 len1 cap1] w fun e w' => e = .returned (.bool true) ∧ Below w.heap.size w w' := by
  have HT := Bx.mk htab
  have H1 := Bx.mk hl1
  have H2 := Bx.mk hl2
  clear hl1 hl2 htab
  go_enter Tryd.func7, Tryd.ntmps7
  go_wp2_with fail
  refine (numbered21_any a0 len0 cap0 8 l1 _ H1.out.1 H1.out.2 (by decide)).mono ?_
  rintro x w1 ⟨v1, R, rfl, ho1, hn1, hR⟩
  obtain ⟨⟨ra, rc, rfl, hrs⟩, hro⟩ := ho1.ens
  have HB1 := Bx.mk ho1.low
  have HR1 := Bx.mk (And.intro hrs hro)
  have HN1 := Bx.mk hn1
  clear ho1 hrs hro hn1
  go_wp2_with fail
  refine (numbered21_any a1 len1 cap1 8 l2 _ (H2.out.1.below HB1.out) (H2.out.2.below HB1.out) (by decide)).mono ?_
  rintro x w2 ⟨v2, R2, rfl, ho2, hn2, hR2⟩
  obtain ⟨⟨sa, sc, rfl, hss⟩, hso⟩ := ho2.ens
  have HB2 := Bx.mk (bstep HB1.out ho2.low)
  have HS2 := Bx.mk (And.intro hss hso)
  have HN2 := Bx.mk hn2
  have HR2 := Bx.mk (And.intro (HR1.out.1.below ho2.low) (HR1.out.2.below ho2.low))
  clear ho2 hss hso hn2 HR1 HB1 H1 H2
  go_wp2_with fail
  refine (filled21_any none 0 0 [] ra R.length rc R _ (Bts.none rfl) (by decide) HR2.out.1 HR2.out.2 HN1.out (by omega)).mono ?_
  rintro x w3 ⟨gx, ox, rfl, hlx, _, hb3⟩
  have HB3 := Bx.mk (bstep HB2.out hb3)
  have HX3 := Bx.mk hlx
  have HS3 := Bx.mk (And.intro (HS2.out.1.below hb3) (HS2.out.2.below hb3))
  clear hlx hb3 HR2 HS2 HB2
  go_wp2_with fail
  refine (filled21_any none 0 0 [] sa R2.length sc R2 _ (Bts.none rfl) (by decide) HS3.out.1 HS3.out.2 HN2.out (by omega)).mono ?_
  rintro x w4 ⟨gy, oy, rfl, hly, _, hb4⟩
  have HB4 := Bx.mk (bstep HB3.out hb4)
  have HX4 := Bx.mk (HX3.out.below hb4)
  have HY4 := Bx.mk hly
  clear hly hb4 HX3 HS3 HB3 HN1 HN2
  have HFA : Bx (∀ t ∈ txQ R, t.length ≤ 1000000) := ⟨fun t ht => by have := HX4.out.fit t ht; omega⟩
  have HFB : Bx (∀ t ∈ txQ R2, t.length ≤ 1000000) := ⟨fun t ht => by have := HY4.out.fit t ht; omega⟩
  have HFS : Bx (∀ t ∈ txQ R, t.length ≤ 900000) := ⟨fun t ht => by have := HX4.out.fit t ht; omega⟩
  have HFT : Bx (∀ t ∈ txQ R2, t.length ≤ 900000) := ⟨fun t ht => by have := HY4.out.fit t ht; omega⟩
  have HLA : Bx ((txQ R).length ≤ 8) := ⟨by rw [txQ_len]; exact hR⟩
  have HLB : Bx ((txQ R2).length ≤ 8) := ⟨by rw [txQ_len]; exact hR2⟩
  generalize txQ R = A at HX4 HFA HLA HFS
  generalize txQ R2 = B at HY4 HFB HLB HFT
  clear hR hR2
  have HHA := Bx.mk (hN_head [] A A.length (Nat.le_refl _))
  have HHB := Bx.mk (hN_head [] B B.length (Nat.le_refl _))
  have HDA := Bx.mk (hN_dg [] A A.length)
  have HDB := Bx.mk (hN_dg [] B B.length)
  have HCA := Bx.mk (hN_C [] A)
  have HCB := Bx.mk (hN_C [] B)
  have HSE : Bx (A = B → hN [] A A.length = hN [] B B.length) := ⟨fun h => by rw [h]⟩
  go_wp2_with fail
  refine (size21_yes HX4.out).mono ?_
  rintro x wz ⟨rfl, hwz⟩
  subst hwz
  go_wp2_with fail
  refine (head21_any ox gx [] A (A.length : Int) _ HX4.out (HT.out.below HB4.out)).mono ?_
  rintro x w5 ⟨rfl, hb5⟩
  have HB5 := Bx.mk (bstep HB4.out hb5)
  have HX5 := Bx.mk (HX4.out.below hb5)
  have HY5 := Bx.mk (HY4.out.below hb5)
  rw [HHA.out]
  clear hb5 HB4 HX4 HY4 HHA
  generalize hN [] A A.length = HA at HDA HCA HSE ⊢
  obtain ⟨hv, hbv, hth⟩ := hd_var w5 HDA.out
  have HTH := Bx.mk hth
  have HIH := Bx.mk (hdA_info HDA.out)
  have HOH : Bx ((hdA HA).all (·.oneCell') = true) := ⟨hdA_one⟩
  have hzv := hd0_run
  have HV7 := Bx.mk hv
  have HBV := Bx.mk hbv
  clear hv hbv hth
  go_upto_region 6 with (refine wpList_store_mid rfl 47 (.tmp 7) (.tmp 36) rfl w5.heap.size 0 (hdA HA) rfl rfl ?hta HIH.out HOH.out ?_; (case hta => exact HTH.out))
  clear hzv HTH HIH HOH
  obtain ⟨g7, HGa⟩ : ∃ x, Bx (x = w5.heap.size) := ⟨_, ⟨rfl⟩⟩
  rw [← HGa.out] at HV7 ⊢
  have HBV' : Bx (Below w5.heap.size w5 ((w5.alloc (.cells (hdA hd0) 47)).setCells g7 0 (hdA HA).toList)) := ⟨by rw [HGa.out]; exact HBV.out⟩
  clear HBV HGa
  generalize (w5.alloc (.cells (hdA hd0) 47)).setCells g7 0 (hdA HA).toList = w6 at HV7 HBV' ⊢
  have HB6 := Bx.mk (bstep HB5.out HBV'.out)
  have HX6 := Bx.mk (HX5.out.below HBV'.out)
  have HY6 := Bx.mk (HY5.out.below HBV'.out)
  clear HB5 HX5 HY5 HBV'
  go_wp2_with fail
  refine (size21_yes HY6.out).mono ?_
  rintro x wz ⟨rfl, hwz⟩
  subst hwz
  go_wp2_with fail
  refine (head21_any oy gy [] B (B.length : Int) _ HY6.out (HT.out.below HB6.out)).mono ?_
  rintro x w7 ⟨rfl, hb7⟩
  have HB7 := Bx.mk (bstep HB6.out hb7)
  have HX7 := Bx.mk (HX6.out.below hb7)
  have HY7 := Bx.mk (HY6.out.below hb7)
  have HV77 := Bx.mk (HV7.out.below hb7)
  rw [HHB.out]
  clear hb7 HB6 HX6 HY6 HHB HV7
  generalize hN [] B B.length = HB at HDB HCB HSE ⊢
  obtain ⟨hv, hbv, hth⟩ := hd_var w7 HDB.out
  have HTH := Bx.mk hth
  have HIH := Bx.mk (hdA_info HDB.out)
  have HOH : Bx ((hdA HB).all (·.oneCell') = true) := ⟨hdA_one⟩
  have hzv := hd0_run
  have HV9 := Bx.mk hv
  have HBW := Bx.mk hbv
  clear hv hbv hth
  go_upto_region 7 with (refine wpList_store_mid rfl 47 (.tmp 9) (.tmp 43) rfl w7.heap.size 0 (hdA HB) rfl rfl ?htb HIH.out HOH.out ?_; (case htb => exact HTH.out))
  clear hzv HTH HIH HOH
  obtain ⟨g9, HGb⟩ : ∃ x, Bx (x = w7.heap.size) := ⟨_, ⟨rfl⟩⟩
  rw [← HGb.out] at HV9 ⊢
  have HBW' : Bx (Below w7.heap.size w7 ((w7.alloc (.cells (hdA hd0) 47)).setCells g9 0 (hdA HB).toList)) := ⟨by rw [HGb.out]; exact HBW.out⟩
  clear HBW HGb
  generalize (w7.alloc (.cells (hdA hd0) 47)).setCells g9 0 (hdA HB).toList = w8 at HV9 HBW' ⊢
  have HB8 := Bx.mk (bstep HB7.out HBW'.out)
  have HX8 := Bx.mk (HX7.out.below HBW'.out)
  have HY8 := Bx.mk (HY7.out.below HBW'.out)
  have HV78 := Bx.mk (HV77.out.below HBW'.out)
  clear HB7 HX7 HY7 HBW' HV77
  go_wp2_with fail
  refine (texts21_any ox gx [] A _ HX8.out).mono ?_
  rintro x w9 ⟨vs, rfl, hot⟩
  obtain ⟨ta, tc, rfl, htx⟩ := hot.txs
  have HCPA : Bx (ta = none → tc = 0) := ⟨ot_nocap hot⟩
  have HB9 := Bx.mk (bstep HB8.out hot.low)
  have HY9 := Bx.mk (HY8.out.below hot.low)
  have HV79 := Bx.mk (HV78.out.below hot.low)
  have HV99 := Bx.mk (HV9.out.below hot.low)
  have HTA9 := Bx.mk htx
  clear hot htx HB8 HX8 HY8 HV78 HV9
  go_wp2_with fail
  refine (texts21_any oy gy [] B _ HY9.out).mono ?_
  rintro x wa ⟨vt, rfl, hot⟩
  obtain ⟨ua, uc, rfl, htx⟩ := hot.txs
  have HCPB : Bx (ua = none → uc = 0) := ⟨ot_nocap hot⟩
  have HBA := Bx.mk (bstep HB9.out hot.low)
  have HV7A := Bx.mk (HV79.out.below hot.low)
  have HV9A := Bx.mk (HV99.out.below hot.low)
  have HTAA := Bx.mk (HTA9.out.below hot.low)
  have HTBA := Bx.mk htx
  clear hot htx HB9 HY9 HV79 HV99 HTA9
  go_wp2_with fail
  refine (tsame_any ta ua A.length B.length tc uc A B _ HTAA.out HTBA.out).mono ?_
  rintro x wb ⟨rfl, q0, hwb⟩
  have hbq : Below wa.heap.size wa wb := by rw [hwb]; exact below_drewN (Below.refl _ _) q0
  have HBB := Bx.mk (bstep HBA.out hbq)
  have HV7B := Bx.mk (HV7A.out.below hbq)
  have HV9B := Bx.mk (HV9A.out.below hbq)
  have HTAB := Bx.mk (HTAA.out.below hbq)
  have HTBB := Bx.mk (HTBA.out.below hbq)
  clear hbq hwb HBA HV7A HV9A HTAA HTBA
  by_cases hAB : A = B
  · have HEQ := HSE.out hAB
    have hdec : decide (A = B) = true := decide_eq_true hAB
    rw [hdec]
    subst HEQ
    have hhe := hd_eq HDA.out
    clear hAB hdec
    go_wp2_with (first
      | (refine wpList_load_hd rfl (.tmp 7) rfl rfl HV7B.out ?_)
      | (refine wpList_load_hd rfl (.tmp 9) rfl rfl HV9B.out ?_))
    clear hhe
    refine (lives21_any _).mono ?_
    rintro x wc ⟨rfl, hbwc⟩
    have HBE := Bx.mk (bstep HBB.out hbwc)
    clear hbwc
    go_wp2_with fail
    go_ret
    exact ⟨rfl, HBE.out⟩
  have hdec : decide (A = B) = false := decide_eq_false hAB
  rw [hdec]
  clear hdec HSE
  have HNE := Bx.mk hAB
  clear hAB
  have hcmp := dig_cmp HA.C HB.C HDA.out.C.1 HDB.out.C.1
  by_cases hch : HA.C = HB.C
  · have HCC : Bx (chnT A = chnT B) := ⟨by rw [← HCA.out, ← HCB.out, hch]⟩
    have hdec : decide (HA.C = HB.C) = true := decide_eq_true hch
    rw [hdec] at hcmp
    clear hdec hch
    go_wp2_with (first
      | (refine wpList_load_dgR rfl (.tmp 58) rfl rfl HV7B.out.rC HDA.out.C.1 ?_)
      | (refine wpList_load_dgR rfl (.tmp 60) rfl rfl HV9B.out.rC HDB.out.C.1 ?_))
    clear hcmp HV7B HV9B HCA HCB HDA HDB
    have HBK := Bx.mk (bk_begin HCC.out)
    go_loopw [13, 14] (fun i j wr => ∃ n m : Nat, i = .int .i64 n ∧ j = .int .i64 m ∧ Bx (Bk A B n m) ∧ Bx (Below wb.heap.size wb wr)) (fun i _ _ => (intOf i).toNat)
    case atStart => exact ⟨A.length, B.length, rfl, rfl, HBK, ⟨Below.refl _ _⟩⟩
    case round =>
      obtain ⟨n, m, rfl, rfl, HK, HB⟩ := hrel
      have HNL : Bx (n ≤ A.length ∧ m ≤ B.length) := ⟨⟨HK.out.ns, HK.out.mt⟩⟩
      have hnA := HNL.out.1
      have hmB := HNL.out.2
      have hct1 := txs_cut ta A.length tc n (Nat.le_trans hnA HTAB.out.le_cap) HTAB.out.le_cap HCPA.out
      have hct2 := txs_cut ua B.length uc m (Nat.le_trans hmB HTBB.out.le_cap) HTBB.out.le_cap HCPB.out
      have hn8 : n ≤ 8 := Nat.le_trans hnA HLA.out
      have hm8 : m ≤ 8 := Nat.le_trans hmB HLB.out
      have HFN : Bx (∀ t ∈ A.take n, t.length ≤ 1000000) := ⟨fun t ht => HFA.out t (List.mem_of_mem_take ht)⟩
      have HFM : Bx (∀ t ∈ B.take m, t.length ≤ 1000000) := ⟨fun t ht => HFB.out t (List.mem_of_mem_take ht)⟩
      clear hnA hmB
      by_cases hn : 0 < n
      · by_cases hm : 0 < m
        · have hgn : (0 : Int) < (n : Int) := by omega
          have hgm : (0 : Int) < (m : Int) := by omega
          have HST := Bx.mk (stb_of HK.out hn hm)
          have HYA := Bx.mk (link_byt (A.take n))
          have HYB := Bx.mk (link_byt (B.take m))
          clear HK
          go_upto_region 14 with fail
          go_cut [15, 16] from 74 to 81 (fun s15 s16 wx => ∃ (pa : Option Addr) (pc : Nat) (qa : Option Addr) (qc : Nat), s15 = .slice pa 65 pc ∧ s16 = .slice qa 65 qc ∧ Bx (Bts wx pa 65 pc (linkL (A.take n)) ∧ Bts wx qa 65 qc (linkL (B.take m))) ∧ Bx (Below wb.heap.size wb wx))
          case first =>
            have hk : Below wb.heap.size wb wr.drew := HB.out.drew
            refine wp_region_held_drew (S := fun W => Below wb.heap.size wb W) (by kernel_rfl) hk (fun _ => ?_)
            generalize wr.drew = wk at hk ⊢
            refine wpAnyH_take (i := 0) (oi := { dst := some 74, op := Op.move (Operand.tmp 11), type := 28, pos := "law.go:188", after := #[], guard := none }) (v := ?vlch141) rfl (by kernel_rfl) (by kernel_rfl) (by kernel_rfl) (fun _ _ _ h => h) (Or.inl ⟨by rfl, ?ylch141⟩) hk ?rlch141
            case ylch141 => (intro w hSw; (try dsimp only at hSw); go_simp; first | done | with_reducible rfl)
            simp only [Act.put, List.setIfInBounds_toArray, List.set_cons_zero, List.set_cons_succ]
            refine wpAnyH_take (i := 1) (oi := { dst := some 75, op := Op.move (Operand.tmp 13), type := 3, pos := "law.go:188", after := #[], guard := none }) (v := ?vlch142) rfl (by kernel_rfl) (by kernel_rfl) (by kernel_rfl) (fun _ _ _ h => h) (Or.inl ⟨by rfl, ?ylch142⟩) hk ?rlch142
            case ylch142 => (intro w hSw; (try dsimp only at hSw); go_simp; first | done | with_reducible rfl)
            simp only [Act.put, List.setIfInBounds_toArray, List.set_cons_zero, List.set_cons_succ]
            refine wpAnyH_take (i := 2) (oi := { dst := some 76, op := Op.slice 28 (Operand.tmp 74) none (some (Operand.tmp 75)) none, type := 28, pos := "law.go:188", after := #[{ on := 0, ground := Ground.data }, { on := 1, ground := Ground.data }], guard := none }) (v := ?vlch143) rfl (by kernel_rfl) (by kernel_rfl) (by kernel_rfl) (fun _ _ _ h => h) (Or.inl ⟨by rfl, ?ylch143⟩) hk ?rlch143
            case ylch143 => (intro w hSw; (try dsimp only at hSw); go_simp; first | done | with_reducible rfl)
            simp only [Act.put, List.setIfInBounds_toArray, List.set_cons_zero, List.set_cons_succ]
            refine wpAnyH_take (i := 4) (oi := { dst := some 78, op := Op.move (Operand.tmp 12), type := 28, pos := "law.go:188", after := #[], guard := none }) (v := ?vlch144) rfl (by kernel_rfl) (by kernel_rfl) (by kernel_rfl) (fun _ _ _ h => h) (Or.inl ⟨by rfl, ?ylch144⟩) hk ?rlch144
            case ylch144 => (intro w hSw; (try dsimp only at hSw); go_simp; first | done | with_reducible rfl)
            simp only [Act.put, List.setIfInBounds_toArray, List.set_cons_zero, List.set_cons_succ]
            refine wpAnyH_take (i := 5) (oi := { dst := some 79, op := Op.move (Operand.tmp 14), type := 3, pos := "law.go:188", after := #[], guard := none }) (v := ?vlch145) rfl (by kernel_rfl) (by kernel_rfl) (by kernel_rfl) (fun _ _ _ h => h) (Or.inl ⟨by rfl, ?ylch145⟩) hk ?rlch145
            case ylch145 => (intro w hSw; (try dsimp only at hSw); go_simp; first | done | with_reducible rfl)
            simp only [Act.put, List.setIfInBounds_toArray, List.set_cons_zero, List.set_cons_succ]
            refine wpAnyH_take (i := 6) (oi := { dst := some 80, op := Op.slice 28 (Operand.tmp 78) none (some (Operand.tmp 79)) none, type := 28, pos := "law.go:188", after := #[{ on := 4, ground := Ground.data }, { on := 5, ground := Ground.data }], guard := none }) (v := ?vlch146) rfl (by kernel_rfl) (by kernel_rfl) (by kernel_rfl) (fun _ _ _ h => h) (Or.inl ⟨by rfl, ?ylch146⟩) hk ?rlch146
            case ylch146 => (intro w hSw; (try dsimp only at hSw); go_simp; first | done | with_reducible rfl)
            simp only [Act.put, List.setIfInBounds_toArray, List.set_cons_zero, List.set_cons_succ]
            refine wpAnyH_ready (rs := [3]) (by decide +kernel) (by simp) ?_
            refine AllReadyH.cons (o := { dst := some 77, op := Op.call { callee := Callee.value (Operand.func 35), args := #[Operand.tmp 76], argTypes := #[28] }, type := 22, pos := "law.go:188", after := #[{ on := 2, ground := Ground.data }], guard := none }) rfl (fun K hK => ?_) AllReadyH.nil
            go_simp
            refine (link_pos ta n tc (A.take n) _ (txs_take (HTAB.out.below hk) HNL.out.1) HFN.out hn (by omega)).mono ?_
            rintro e1 wk ⟨vp, rfl, hop, hb1⟩
            obtain ⟨pa, pc, rfl, hbp⟩ := Bts.of_owns hop HYA.out
            replace hk := bstep hk hb1
            clear hop hb1
            refine hK.out _ _ hk (fun _ => ?_)
            clear hK K
            try simp only [Act.put, List.setIfInBounds_toArray, List.set_cons_zero, List.set_cons_succ]
            refine wpAnyH_ready (rs := [7]) (by decide +kernel) (by simp) ?_
            refine AllReadyH.cons (o := { dst := some 81, op := Op.call { callee := Callee.value (Operand.func 35), args := #[Operand.tmp 80], argTypes := #[28] }, type := 22, pos := "law.go:188", after := #[{ on := 6, ground := Ground.data }, { on := 3, ground := Ground.chain }], guard := none }) rfl (fun K hK => ?_) AllReadyH.nil
            go_simp
            refine (link_pos ua m uc (B.take m) _ (txs_take (HTBB.out.below hk) HNL.out.2) HFM.out hm (by omega)).mono ?_
            rintro e1 wk ⟨vq, rfl, hop, hb1⟩
            obtain ⟨qa, qc, rfl, hbq⟩ := Bts.of_owns hop HYB.out
            replace hk := bstep hk hb1
            replace hbp := hbp.below hb1
            clear hop hb1
            refine hK.out _ _ hk (fun _ => ?_)
            clear hK K
            try simp only [Act.put, List.setIfInBounds_toArray, List.set_cons_zero, List.set_cons_succ]
            refine wpAnyH_take (i := 8) (oi := { dst := some 15, op := Op.assign (Operand.tmp 77), type := 22, pos := "law.go:188", after := #[{ on := 3, ground := Ground.data }, { on := 7, ground := Ground.chain }, { on := 0, ground := Ground.phase }, { on := 1, ground := Ground.phase }, { on := 2, ground := Ground.phase }, { on := 3, ground := Ground.phase }, { on := 4, ground := Ground.textOnly Departure.lateStores }, { on := 5, ground := Ground.textOnly Departure.lateStores }, { on := 6, ground := Ground.textOnly Departure.lateStoresUnsure }, { on := 7, ground := Ground.textOnly Departure.lateStoresUnsure }], guard := none }) (v := ?vlch147) rfl (by kernel_rfl) (by kernel_rfl) (by kernel_rfl) (fun _ _ _ h => h) (Or.inl ⟨by rfl, ?ylch147⟩) hk ?rlch147
            case ylch147 => (intro w hSw; (try dsimp only at hSw); go_simp; first | done | with_reducible rfl)
            simp only [Act.put, List.setIfInBounds_toArray, List.set_cons_zero, List.set_cons_succ]
            refine wpAnyH_take (i := 9) (oi := { dst := some 16, op := Op.assign (Operand.tmp 81), type := 22, pos := "law.go:188", after := #[{ on := 7, ground := Ground.data }, { on := 8, ground := Ground.chain }, { on := 0, ground := Ground.phase }, { on := 1, ground := Ground.phase }, { on := 2, ground := Ground.phase }, { on := 3, ground := Ground.phase }, { on := 4, ground := Ground.phase }, { on := 5, ground := Ground.phase }, { on := 6, ground := Ground.phase }, { on := 7, ground := Ground.phase }, { on := 8, ground := Ground.phase }], guard := none }) (v := ?vlch148) rfl (by kernel_rfl) (by kernel_rfl) (by kernel_rfl) (fun _ _ _ h => h) (Or.inl ⟨by rfl, ?ylch148⟩) hk ?rlch148
            case ylch148 => (intro w hSw; (try dsimp only at hSw); go_simp; first | done | with_reducible rfl)
            simp only [Act.put, List.setIfInBounds_toArray, List.set_cons_zero, List.set_cons_succ]
            refine wpAnyH_done (by decide +kernel) ?_ _
            go_wp2_with fail
            go_meet
            case rel => exact ⟨pa, pc, qa, qc, rfl, rfl, ⟨⟨hbp, hbq⟩⟩, ⟨hk⟩⟩
          obtain ⟨pa, pc, qa, qc, rfl, rfl, HPQ, HBC⟩ := hcut
          clear hct1 hct2 HYA HYB HFN HFM HB
          generalize linkL (A.take n) = P at HPQ HST
          generalize linkL (B.take m) = Q at HPQ HST
          go_wp2_with fail
          refine (same_any pa qa 65 65 pc qc P Q _ HPQ.out.1 HPQ.out.2).mono ?_
          rintro x wd ⟨rfl, q1, hwd⟩
          have hbd : Below wc.heap.size wc wd := by rw [hwd]; exact below_drewN (Below.refl _ _) q1
          have HPD := Bx.mk (And.intro (HPQ.out.1.below hbd) (HPQ.out.2.below hbd))
          have HBD := Bx.mk (bstep HBC.out hbd)
          clear hbd hwd HPQ HBC
          by_cases hPQ : P = Q
          · have hdec : decide (P = Q) = true := decide_eq_true hPQ
            rw [hdec]
            clear hdec
            have HPQE := Bx.mk hPQ
            clear hPQ HPD
            have hA0 : 0 < A.length := Nat.lt_of_lt_of_le hn HNL.out.1
            have hB0 : 0 < B.length := Nat.lt_of_lt_of_le hm HNL.out.2
            obtain ⟨b1, o1, ea, hlt1, hc1⟩ := HTAB.out.spot hA0
            obtain ⟨b2, o2, eb, hlt2, hc2⟩ := HTBB.out.spot hB0
            subst ea
            subst eb
            have HST0 := HST.out
            obtain ⟨n1, hn1⟩ : ∃ k, k = n - 1 := ⟨_, rfl⟩
            obtain ⟨m1, hm1⟩ : ∃ k, k = m - 1 := ⟨_, rfl⟩
            rw [← hn1, ← hm1] at HST0
            have hnA : n1 < A.length := by have := HNL.out.1; omega
            have hmB : m1 < B.length := by have := HNL.out.2; omega
            obtain ⟨ai, li, ci, hcell1, hbt1⟩ := hc1 n1 hnA
            obtain ⟨aj, lj, cj, hcell2, hbt2⟩ := hc2 m1 hmB
            have hli : li ≤ 900000 := by
              rw [← hbt1.len_eq]
              have := HFS.out (A.getD n1 []) (by rw [List.getD_eq_getElem?_getD, List.getElem?_eq_getElem hnA]; exact List.getElem_mem _)
              exact this
            have hlj : lj ≤ 900000 := by
              rw [← hbt2.len_eq]
              have := HFT.out (B.getD m1 []) (by rw [List.getD_eq_getElem?_getD, List.getElem?_eq_getElem hmB]; exact List.getElem_mem _)
              exact this
            have HN1 : Bx (n = n1 + 1 ∧ m = m1 + 1) := ⟨⟨by omega, by omega⟩⟩
            have hw1 : IntKind.i64.wrap ((n : Int) - 1) = (n1 : Int) := by rw [IntKind.wrap_i64]; omega
            have hw2 : IntKind.i64.wrap ((m : Int) - 1) = (m1 : Int) := by rw [IntKind.wrap_i64]; omega
            have gA : (n1 : Int) < (A.length : Int) := by omega
            have gB : (m1 : Int) < (B.length : Int) := by omega
            generalize A.getD n1 [] = t at HST0 hbt1
            generalize B.getD m1 [] = u at HST0 hbt2
            have HST1 := Bx.mk HST0
            have HBT1 := Bx.mk hbt1
            have HBT2 := Bx.mk hbt2
            clear HST0 HST hbt1 hbt2 hc1 hc2 hn1 hm1 hnA hmB hA0 hB0
            have hk : Below wb.heap.size wb wd.drew := HBD.out.drew
            by_cases htu : t = u
            · have HK2 := Bx.mk (HST1.out.step HPQE.out htu)
              have HDT : Bx (decide (t = u) = true) := ⟨decide_eq_true htu⟩
              clear htu
              go_wp2_with fail
              refine wp_region_held_drew (S := fun W => Below wb.heap.size wb W) (by kernel_rfl) hk (fun _ => ?_)
              generalize wd.drew = wk at hk ⊢
              refine wpAnyH_take (i := 0) (oi := { dst := some 93, op := Op.move (Operand.tmp 11), type := 28, pos := "law.go:192", after := #[], guard := none }) (v := ?vlch171) rfl (by kernel_rfl) (by kernel_rfl) (by kernel_rfl) (fun _ _ _ h => h) (Or.inl ⟨by rfl, ?ylch171⟩) hk ?rlch171
              case ylch171 => (intro w hSw; (try dsimp only at hSw); go_simp; first | done | with_reducible rfl)
              simp only [Act.put, List.setIfInBounds_toArray, List.set_cons_zero, List.set_cons_succ]
              refine wpAnyH_take (i := 1) (oi := { dst := some 94, op := Op.move (Operand.tmp 13), type := 3, pos := "law.go:192", after := #[], guard := none }) (v := ?vlch172) rfl (by kernel_rfl) (by kernel_rfl) (by kernel_rfl) (fun _ _ _ h => h) (Or.inl ⟨by rfl, ?ylch172⟩) hk ?rlch172
              case ylch172 => (intro w hSw; (try dsimp only at hSw); go_simp; first | done | with_reducible rfl)
              simp only [Act.put, List.setIfInBounds_toArray, List.set_cons_zero, List.set_cons_succ]
              refine wpAnyH_take (i := 2) (oi := { dst := some 95, op := Op.binOp BinOp.sub 3 (Operand.tmp 94) (Operand.const (Value.int IntKind.i64 1)) 3, type := 3, pos := "law.go:192", after := #[{ on := 1, ground := Ground.data }], guard := none }) (v := ?vlch173) rfl (by kernel_rfl) (by kernel_rfl) (by kernel_rfl) (fun _ _ _ h => h) (Or.inl ⟨by rfl, ?ylch173⟩) hk ?rlch173
              case ylch173 => (intro w hSw; (try dsimp only at hSw); go_simp; first | done | with_reducible rfl)
              simp only [Act.put, List.setIfInBounds_toArray, List.set_cons_zero, List.set_cons_succ]
              refine wpAnyH_take (i := 3) (oi := { dst := some 96, op := Op.indexAddr 28 (Operand.tmp 93) (Operand.tmp 95), type := 0, pos := "law.go:192", after := #[{ on := 0, ground := Ground.data }, { on := 2, ground := Ground.data }], guard := none }) (v := ?vlch174) rfl (by kernel_rfl) (by kernel_rfl) (by kernel_rfl) (fun _ _ _ h => h) (Or.inl ⟨by rfl, ?ylch174⟩) hk ?rlch174
              case ylch174 => (intro w hSw; (try dsimp only at hSw); go_simp; first | done | with_reducible rfl)
              simp only [Act.put, List.setIfInBounds_toArray, List.set_cons_zero, List.set_cons_succ]
              refine wpAnyH_take (i := 4) (oi := { dst := some 97, op := Op.load 22 (Operand.tmp 96), type := 22, pos := "law.go:192", after := #[{ on := 3, ground := Ground.data }], guard := none }) (v := ?vlch175) rfl (by kernel_rfl) (by kernel_rfl) (by kernel_rfl) (fun _ _ _ h => h) (Or.inl ⟨by rfl, ?ylch175⟩) hk ?rlch175
              case ylch175 => (intro w hSw; have hcw := (hSw.cell (p := ⟨b1, o1 + n1, none⟩) hlt1).trans hcell1; clear hSw; go_simp; first | done | with_reducible rfl)
              simp only [Act.put, List.setIfInBounds_toArray, List.set_cons_zero, List.set_cons_succ]
              refine wpAnyH_take (i := 5) (oi := { dst := some 98, op := Op.move (Operand.tmp 12), type := 28, pos := "law.go:192", after := #[], guard := none }) (v := ?vlch176) rfl (by kernel_rfl) (by kernel_rfl) (by kernel_rfl) (fun _ _ _ h => h) (Or.inl ⟨by rfl, ?ylch176⟩) hk ?rlch176
              case ylch176 => (intro w hSw; (try dsimp only at hSw); go_simp; first | done | with_reducible rfl)
              simp only [Act.put, List.setIfInBounds_toArray, List.set_cons_zero, List.set_cons_succ]
              refine wpAnyH_take (i := 6) (oi := { dst := some 99, op := Op.move (Operand.tmp 14), type := 3, pos := "law.go:192", after := #[], guard := none }) (v := ?vlch177) rfl (by kernel_rfl) (by kernel_rfl) (by kernel_rfl) (fun _ _ _ h => h) (Or.inl ⟨by rfl, ?ylch177⟩) hk ?rlch177
              case ylch177 => (intro w hSw; (try dsimp only at hSw); go_simp; first | done | with_reducible rfl)
              simp only [Act.put, List.setIfInBounds_toArray, List.set_cons_zero, List.set_cons_succ]
              refine wpAnyH_take (i := 7) (oi := { dst := some 100, op := Op.binOp BinOp.sub 3 (Operand.tmp 99) (Operand.const (Value.int IntKind.i64 1)) 3, type := 3, pos := "law.go:192", after := #[{ on := 6, ground := Ground.data }], guard := none }) (v := ?vlch178) rfl (by kernel_rfl) (by kernel_rfl) (by kernel_rfl) (fun _ _ _ h => h) (Or.inl ⟨by rfl, ?ylch178⟩) hk ?rlch178
              case ylch178 => (intro w hSw; (try dsimp only at hSw); go_simp; first | done | with_reducible rfl)
              simp only [Act.put, List.setIfInBounds_toArray, List.set_cons_zero, List.set_cons_succ]
              refine wpAnyH_take (i := 8) (oi := { dst := some 101, op := Op.indexAddr 28 (Operand.tmp 98) (Operand.tmp 100), type := 0, pos := "law.go:192", after := #[{ on := 5, ground := Ground.data }, { on := 7, ground := Ground.data }], guard := none }) (v := ?vlch179) rfl (by kernel_rfl) (by kernel_rfl) (by kernel_rfl) (fun _ _ _ h => h) (Or.inl ⟨by rfl, ?ylch179⟩) hk ?rlch179
              case ylch179 => (intro w hSw; (try dsimp only at hSw); go_simp; first | done | with_reducible rfl)
              simp only [Act.put, List.setIfInBounds_toArray, List.set_cons_zero, List.set_cons_succ]
              refine wpAnyH_take (i := 9) (oi := { dst := some 102, op := Op.load 22 (Operand.tmp 101), type := 22, pos := "law.go:192", after := #[{ on := 8, ground := Ground.data }], guard := none }) (v := ?vlch1710) rfl (by kernel_rfl) (by kernel_rfl) (by kernel_rfl) (fun _ _ _ h => h) (Or.inl ⟨by rfl, ?ylch1710⟩) hk ?rlch1710
              case ylch1710 => (intro w hSw; have hcw := (hSw.cell (p := ⟨b2, o2 + m1, none⟩) hlt2).trans hcell2; clear hSw; go_simp; first | done | with_reducible rfl)
              simp only [Act.put, List.setIfInBounds_toArray, List.set_cons_zero, List.set_cons_succ]
              refine wpAnyH_ready (rs := [10]) (by decide +kernel) (by simp) ?_
              refine AllReadyH.cons (o := { dst := some 103, op := Op.call { callee := Callee.value (Operand.func 21), args := #[Operand.tmp 97, Operand.tmp 102], argTypes := #[22, 22] }, type := 4, pos := "law.go:192", after := #[{ on := 4, ground := Ground.data }, { on := 9, ground := Ground.data }], guard := none }) rfl (fun K hK => ?_) AllReadyH.nil
              go_simp
              refine (same_any ai aj li lj ci cj t u _ (HBT1.out.below hk) (HBT2.out.below hk)).mono ?_
              rintro e1 wz ⟨rfl, q2, hwz⟩
              rw [HDT.out]
              replace hk : Below wb.heap.size wb wz := by rw [hwz]; exact below_drewN hk q2
              clear hwz
              refine hK.out _ _ hk (fun _ => ?_)
              clear hK K
              try simp only [Act.put, List.setIfInBounds_toArray, List.set_cons_zero, List.set_cons_succ]
              refine wpAnyH_take (i := 11) (oi := { dst := some 104, op := Op.unOp UnOp.not 4 (Operand.tmp 103), type := 4, pos := "law.go:192", after := #[{ on := 10, ground := Ground.data }], guard := none }) (v := ?vlch1711) rfl (by kernel_rfl) (by kernel_rfl) (by kernel_rfl) (fun _ _ _ h => h) (Or.inl ⟨by rfl, ?ylch1711⟩) hk ?rlch1711
              case ylch1711 => (intro w hSw; (try dsimp only at hSw); go_simp; first | done | with_reducible rfl)
              simp only [Act.put, List.setIfInBounds_toArray, List.set_cons_zero, List.set_cons_succ]
              refine wpAnyH_done (by decide +kernel) ?_ _
              have HBZ := Bx.mk hk
              have hrn : Value.int .i64 ((n : Int) - 1) = .int .i64 (n1 : Int) := by have := HN1.out; congr 1; omega
              have hrm : Value.int .i64 ((m : Int) - 1) = .int .i64 (m1 : Int) := by have := HN1.out; congr 1; omega
              clear hk hcell1 hcell2 hw1 hw2 gA gB HBD
              go_wp2
              go_roundw
              case rel => exact ⟨n1, m1, hrn, hrm, HK2, HBZ⟩
              case measure => have := HN1.out; simp [intOf]; omega
            · have HCL : Bx (clashB ([0] ++ t) ([0] ++ u) 256 = true) := ⟨HST1.out.text HPQE.out htu⟩
              have HDT : Bx (decide (t = u) = false) := ⟨decide_eq_false htu⟩
              clear htu
              go_wp2_with fail
              refine wp_region_held_drew (S := fun W => Below wb.heap.size wb W) (by kernel_rfl) hk (fun _ => ?_)
              generalize wd.drew = wk at hk ⊢
              refine wpAnyH_take (i := 0) (oi := { dst := some 93, op := Op.move (Operand.tmp 11), type := 28, pos := "law.go:192", after := #[], guard := none }) (v := ?vlch17b1) rfl (by kernel_rfl) (by kernel_rfl) (by kernel_rfl) (fun _ _ _ h => h) (Or.inl ⟨by rfl, ?ylch17b1⟩) hk ?rlch17b1
              case ylch17b1 => (intro w hSw; (try dsimp only at hSw); go_simp; first | done | with_reducible rfl)
              simp only [Act.put, List.setIfInBounds_toArray, List.set_cons_zero, List.set_cons_succ]
              refine wpAnyH_take (i := 1) (oi := { dst := some 94, op := Op.move (Operand.tmp 13), type := 3, pos := "law.go:192", after := #[], guard := none }) (v := ?vlch17b2) rfl (by kernel_rfl) (by kernel_rfl) (by kernel_rfl) (fun _ _ _ h => h) (Or.inl ⟨by rfl, ?ylch17b2⟩) hk ?rlch17b2
              case ylch17b2 => (intro w hSw; (try dsimp only at hSw); go_simp; first | done | with_reducible rfl)
              simp only [Act.put, List.setIfInBounds_toArray, List.set_cons_zero, List.set_cons_succ]
              refine wpAnyH_take (i := 2) (oi := { dst := some 95, op := Op.binOp BinOp.sub 3 (Operand.tmp 94) (Operand.const (Value.int IntKind.i64 1)) 3, type := 3, pos := "law.go:192", after := #[{ on := 1, ground := Ground.data }], guard := none }) (v := ?vlch17b3) rfl (by kernel_rfl) (by kernel_rfl) (by kernel_rfl) (fun _ _ _ h => h) (Or.inl ⟨by rfl, ?ylch17b3⟩) hk ?rlch17b3
              case ylch17b3 => (intro w hSw; (try dsimp only at hSw); go_simp; first | done | with_reducible rfl)
              simp only [Act.put, List.setIfInBounds_toArray, List.set_cons_zero, List.set_cons_succ]
              refine wpAnyH_take (i := 3) (oi := { dst := some 96, op := Op.indexAddr 28 (Operand.tmp 93) (Operand.tmp 95), type := 0, pos := "law.go:192", after := #[{ on := 0, ground := Ground.data }, { on := 2, ground := Ground.data }], guard := none }) (v := ?vlch17b4) rfl (by kernel_rfl) (by kernel_rfl) (by kernel_rfl) (fun _ _ _ h => h) (Or.inl ⟨by rfl, ?ylch17b4⟩) hk ?rlch17b4
              case ylch17b4 => (intro w hSw; (try dsimp only at hSw); go_simp; first | done | with_reducible rfl)
              simp only [Act.put, List.setIfInBounds_toArray, List.set_cons_zero, List.set_cons_succ]
              refine wpAnyH_take (i := 4) (oi := { dst := some 97, op := Op.load 22 (Operand.tmp 96), type := 22, pos := "law.go:192", after := #[{ on := 3, ground := Ground.data }], guard := none }) (v := ?vlch17b5) rfl (by kernel_rfl) (by kernel_rfl) (by kernel_rfl) (fun _ _ _ h => h) (Or.inl ⟨by rfl, ?ylch17b5⟩) hk ?rlch17b5
              case ylch17b5 => (intro w hSw; have hcw := (hSw.cell (p := ⟨b1, o1 + n1, none⟩) hlt1).trans hcell1; clear hSw; go_simp; first | done | with_reducible rfl)
              simp only [Act.put, List.setIfInBounds_toArray, List.set_cons_zero, List.set_cons_succ]
              refine wpAnyH_take (i := 5) (oi := { dst := some 98, op := Op.move (Operand.tmp 12), type := 28, pos := "law.go:192", after := #[], guard := none }) (v := ?vlch17b6) rfl (by kernel_rfl) (by kernel_rfl) (by kernel_rfl) (fun _ _ _ h => h) (Or.inl ⟨by rfl, ?ylch17b6⟩) hk ?rlch17b6
              case ylch17b6 => (intro w hSw; (try dsimp only at hSw); go_simp; first | done | with_reducible rfl)
              simp only [Act.put, List.setIfInBounds_toArray, List.set_cons_zero, List.set_cons_succ]
              refine wpAnyH_take (i := 6) (oi := { dst := some 99, op := Op.move (Operand.tmp 14), type := 3, pos := "law.go:192", after := #[], guard := none }) (v := ?vlch17b7) rfl (by kernel_rfl) (by kernel_rfl) (by kernel_rfl) (fun _ _ _ h => h) (Or.inl ⟨by rfl, ?ylch17b7⟩) hk ?rlch17b7
              case ylch17b7 => (intro w hSw; (try dsimp only at hSw); go_simp; first | done | with_reducible rfl)
              simp only [Act.put, List.setIfInBounds_toArray, List.set_cons_zero, List.set_cons_succ]
              refine wpAnyH_take (i := 7) (oi := { dst := some 100, op := Op.binOp BinOp.sub 3 (Operand.tmp 99) (Operand.const (Value.int IntKind.i64 1)) 3, type := 3, pos := "law.go:192", after := #[{ on := 6, ground := Ground.data }], guard := none }) (v := ?vlch17b8) rfl (by kernel_rfl) (by kernel_rfl) (by kernel_rfl) (fun _ _ _ h => h) (Or.inl ⟨by rfl, ?ylch17b8⟩) hk ?rlch17b8
              case ylch17b8 => (intro w hSw; (try dsimp only at hSw); go_simp; first | done | with_reducible rfl)
              simp only [Act.put, List.setIfInBounds_toArray, List.set_cons_zero, List.set_cons_succ]
              refine wpAnyH_take (i := 8) (oi := { dst := some 101, op := Op.indexAddr 28 (Operand.tmp 98) (Operand.tmp 100), type := 0, pos := "law.go:192", after := #[{ on := 5, ground := Ground.data }, { on := 7, ground := Ground.data }], guard := none }) (v := ?vlch17b9) rfl (by kernel_rfl) (by kernel_rfl) (by kernel_rfl) (fun _ _ _ h => h) (Or.inl ⟨by rfl, ?ylch17b9⟩) hk ?rlch17b9
              case ylch17b9 => (intro w hSw; (try dsimp only at hSw); go_simp; first | done | with_reducible rfl)
              simp only [Act.put, List.setIfInBounds_toArray, List.set_cons_zero, List.set_cons_succ]
              refine wpAnyH_take (i := 9) (oi := { dst := some 102, op := Op.load 22 (Operand.tmp 101), type := 22, pos := "law.go:192", after := #[{ on := 8, ground := Ground.data }], guard := none }) (v := ?vlch17b10) rfl (by kernel_rfl) (by kernel_rfl) (by kernel_rfl) (fun _ _ _ h => h) (Or.inl ⟨by rfl, ?ylch17b10⟩) hk ?rlch17b10
              case ylch17b10 => (intro w hSw; have hcw := (hSw.cell (p := ⟨b2, o2 + m1, none⟩) hlt2).trans hcell2; clear hSw; go_simp; first | done | with_reducible rfl)
              simp only [Act.put, List.setIfInBounds_toArray, List.set_cons_zero, List.set_cons_succ]
              refine wpAnyH_ready (rs := [10]) (by decide +kernel) (by simp) ?_
              refine AllReadyH.cons (o := { dst := some 103, op := Op.call { callee := Callee.value (Operand.func 21), args := #[Operand.tmp 97, Operand.tmp 102], argTypes := #[22, 22] }, type := 4, pos := "law.go:192", after := #[{ on := 4, ground := Ground.data }, { on := 9, ground := Ground.data }], guard := none }) rfl (fun K hK => ?_) AllReadyH.nil
              go_simp
              refine (same_any ai aj li lj ci cj t u _ (HBT1.out.below hk) (HBT2.out.below hk)).mono ?_
              rintro e1 wz ⟨rfl, q2, hwz⟩
              rw [HDT.out]
              replace hk : Below wb.heap.size wb wz := by rw [hwz]; exact below_drewN hk q2
              clear hwz
              refine hK.out _ _ hk (fun _ => ?_)
              clear hK K
              try simp only [Act.put, List.setIfInBounds_toArray, List.set_cons_zero, List.set_cons_succ]
              refine wpAnyH_take (i := 11) (oi := { dst := some 104, op := Op.unOp UnOp.not 4 (Operand.tmp 103), type := 4, pos := "law.go:192", after := #[{ on := 10, ground := Ground.data }], guard := none }) (v := ?vlch17b11) rfl (by kernel_rfl) (by kernel_rfl) (by kernel_rfl) (fun _ _ _ h => h) (Or.inl ⟨by rfl, ?ylch17b11⟩) hk ?rlch17b11
              case ylch17b11 => (intro w hSw; (try dsimp only at hSw); go_simp; first | done | with_reducible rfl)
              simp only [Act.put, List.setIfInBounds_toArray, List.set_cons_zero, List.set_cons_succ]
              refine wpAnyH_done (by decide +kernel) ?_ _
              obtain ⟨wq, hwq⟩ : ∃ x, x = wz := ⟨_, rfl⟩
              subst hwq
              replace hk := hk.drew
              have HY1 : Bx (Byt ([0] ++ t)) := ⟨Byt.append (Byt.cons (by decide) Byt.nil) HBT1.out.byt⟩
              have HY2 : Bx (Byt ([0] ++ u)) := ⟨Byt.append (Byt.cons (by decide) Byt.nil) HBT2.out.byt⟩
              have hgt0 : True := trivial
              go_wp2_with fail
              refine wp_region_held_drew (S := fun W => Below wb.heap.size wb W) (by kernel_rfl) hk (fun _ => ?_)
              generalize wq.drew = wk at hk ⊢
              refine wpAnyH_take (i := 1) (oi := { dst := some 106, op := Op.move (Operand.tmp 11), type := 28, pos := "law.go:193", after := #[], guard := none }) (v := ?vlch181) rfl (by kernel_rfl) (by kernel_rfl) (by kernel_rfl) (fun _ _ _ h => h) (Or.inl ⟨by rfl, ?ylch181⟩) hk ?rlch181
              case ylch181 => (intro w hSw; (try dsimp only at hSw); go_simp; first | done | with_reducible rfl)
              simp only [Act.put, List.setIfInBounds_toArray, List.set_cons_zero, List.set_cons_succ]
              refine wpAnyH_take (i := 2) (oi := { dst := some 107, op := Op.move (Operand.tmp 13), type := 3, pos := "law.go:193", after := #[], guard := none }) (v := ?vlch182) rfl (by kernel_rfl) (by kernel_rfl) (by kernel_rfl) (fun _ _ _ h => h) (Or.inl ⟨by rfl, ?ylch182⟩) hk ?rlch182
              case ylch182 => (intro w hSw; (try dsimp only at hSw); go_simp; first | done | with_reducible rfl)
              simp only [Act.put, List.setIfInBounds_toArray, List.set_cons_zero, List.set_cons_succ]
              refine wpAnyH_take (i := 3) (oi := { dst := some 108, op := Op.binOp BinOp.sub 3 (Operand.tmp 107) (Operand.const (Value.int IntKind.i64 1)) 3, type := 3, pos := "law.go:193", after := #[{ on := 2, ground := Ground.data }], guard := none }) (v := ?vlch183) rfl (by kernel_rfl) (by kernel_rfl) (by kernel_rfl) (fun _ _ _ h => h) (Or.inl ⟨by rfl, ?ylch183⟩) hk ?rlch183
              case ylch183 => (intro w hSw; (try dsimp only at hSw); go_simp; first | done | with_reducible rfl)
              simp only [Act.put, List.setIfInBounds_toArray, List.set_cons_zero, List.set_cons_succ]
              refine wpAnyH_take (i := 4) (oi := { dst := some 109, op := Op.indexAddr 28 (Operand.tmp 106) (Operand.tmp 108), type := 0, pos := "law.go:193", after := #[{ on := 1, ground := Ground.data }, { on := 3, ground := Ground.data }], guard := none }) (v := ?vlch184) rfl (by kernel_rfl) (by kernel_rfl) (by kernel_rfl) (fun _ _ _ h => h) (Or.inl ⟨by rfl, ?ylch184⟩) hk ?rlch184
              case ylch184 => (intro w hSw; (try dsimp only at hSw); go_simp; first | done | with_reducible rfl)
              simp only [Act.put, List.setIfInBounds_toArray, List.set_cons_zero, List.set_cons_succ]
              refine wpAnyH_take (i := 5) (oi := { dst := some 110, op := Op.load 22 (Operand.tmp 109), type := 22, pos := "law.go:193", after := #[{ on := 4, ground := Ground.data }], guard := none }) (v := ?vlch185) rfl (by kernel_rfl) (by kernel_rfl) (by kernel_rfl) (fun _ _ _ h => h) (Or.inl ⟨by rfl, ?ylch185⟩) hk ?rlch185
              case ylch185 => (intro w hSw; have hcw := (hSw.cell (p := ⟨b1, o1 + n1, none⟩) hlt1).trans hcell1; clear hSw; go_simp; first | done | with_reducible rfl)
              simp only [Act.put, List.setIfInBounds_toArray, List.set_cons_zero, List.set_cons_succ]
              refine wpAnyH_take (i := 8) (oi := { dst := some 113, op := Op.move (Operand.tmp 12), type := 28, pos := "law.go:193", after := #[], guard := none }) (v := ?vlch186) rfl (by kernel_rfl) (by kernel_rfl) (by kernel_rfl) (fun _ _ _ h => h) (Or.inl ⟨by rfl, ?ylch186⟩) hk ?rlch186
              case ylch186 => (intro w hSw; (try dsimp only at hSw); go_simp; first | done | with_reducible rfl)
              simp only [Act.put, List.setIfInBounds_toArray, List.set_cons_zero, List.set_cons_succ]
              refine wpAnyH_take (i := 9) (oi := { dst := some 114, op := Op.move (Operand.tmp 14), type := 3, pos := "law.go:193", after := #[], guard := none }) (v := ?vlch187) rfl (by kernel_rfl) (by kernel_rfl) (by kernel_rfl) (fun _ _ _ h => h) (Or.inl ⟨by rfl, ?ylch187⟩) hk ?rlch187
              case ylch187 => (intro w hSw; (try dsimp only at hSw); go_simp; first | done | with_reducible rfl)
              simp only [Act.put, List.setIfInBounds_toArray, List.set_cons_zero, List.set_cons_succ]
              refine wpAnyH_take (i := 10) (oi := { dst := some 115, op := Op.binOp BinOp.sub 3 (Operand.tmp 114) (Operand.const (Value.int IntKind.i64 1)) 3, type := 3, pos := "law.go:193", after := #[{ on := 9, ground := Ground.data }], guard := none }) (v := ?vlch188) rfl (by kernel_rfl) (by kernel_rfl) (by kernel_rfl) (fun _ _ _ h => h) (Or.inl ⟨by rfl, ?ylch188⟩) hk ?rlch188
              case ylch188 => (intro w hSw; (try dsimp only at hSw); go_simp; first | done | with_reducible rfl)
              simp only [Act.put, List.setIfInBounds_toArray, List.set_cons_zero, List.set_cons_succ]
              refine wpAnyH_take (i := 11) (oi := { dst := some 116, op := Op.indexAddr 28 (Operand.tmp 113) (Operand.tmp 115), type := 0, pos := "law.go:193", after := #[{ on := 8, ground := Ground.data }, { on := 10, ground := Ground.data }], guard := none }) (v := ?vlch189) rfl (by kernel_rfl) (by kernel_rfl) (by kernel_rfl) (fun _ _ _ h => h) (Or.inl ⟨by rfl, ?ylch189⟩) hk ?rlch189
              case ylch189 => (intro w hSw; (try dsimp only at hSw); go_simp; first | done | with_reducible rfl)
              simp only [Act.put, List.setIfInBounds_toArray, List.set_cons_zero, List.set_cons_succ]
              refine wpAnyH_take (i := 12) (oi := { dst := some 117, op := Op.load 22 (Operand.tmp 116), type := 22, pos := "law.go:193", after := #[{ on := 11, ground := Ground.data }], guard := none }) (v := ?vlch1810) rfl (by kernel_rfl) (by kernel_rfl) (by kernel_rfl) (fun _ _ _ h => h) (Or.inl ⟨by rfl, ?ylch1810⟩) hk ?rlch1810
              case ylch1810 => (intro w hSw; have hcw := (hSw.cell (p := ⟨b2, o2 + m1, none⟩) hlt2).trans hcell2; clear hSw; go_simp; first | done | with_reducible rfl)
              simp only [Act.put, List.setIfInBounds_toArray, List.set_cons_zero, List.set_cons_succ]
              refine wpAnyH_ready (rs := [0, 7]) (by decide +kernel) (by simp) ?_
              refine (AllReadyH.cons (o := { dst := some 105, op := Op.buildSlice 22 1 #[(0, Operand.const (Value.int IntKind.u8 0))], type := 22, pos := "law.go:193", after := #[], guard := none }) rfl (fun K hK => ?_) (AllReadyH.cons (o := { dst := some 112, op := Op.buildSlice 22 1 #[(0, Operand.const (Value.int IntKind.u8 0))], type := 22, pos := "law.go:193", after := #[], guard := none }) rfl (fun K hK => ?_) AllReadyH.nil))
              · go_simp
                have h1 : (wk.alloc (.cells #[.int .u8 0] 5)).ownsRow wb.heap.size 5 1 (.slice (some ⟨wk.heap.size, 0, none⟩) 1 1) 1 (bv [0]) := World.ownsRow_lit wk #[.int .u8 0] 1 hk.size (by unfold maxLen; omega) rfl
                have hbA : Below wk.heap.size wk (wk.alloc (.cells #[.int .u8 0] 5)) := (Below.refl _ _).alloc (Nat.le_refl _) _
                have hg1 : wk.heap.size < (wk.alloc (.cells #[.int .u8 0] 5)).heap.size := by simp
                try have h12 : G2 ≠ wk.heap.size := Nat.ne_of_lt hg2
                try have hne : (Value.slice a1 (1 + li) c1).ownBlock ≠ some wk.heap.size := fun e => Nat.lt_irrefl _ (r1.lt _ e).2
                try replace h2 := owns_below h2 hbA
                try replace hg2 := Nat.lt_of_lt_of_le hg2 hbA.size
                try replace rb1 := rb1.below hbA
                replace hk := bstep hk hbA
                clear hbA
                try clear r1
                first | generalize wk.heap.size = G1 at h1 hg1 h12 ⊢ | generalize wk.heap.size = G1 at h1 hg1 hne ⊢ | generalize wk.heap.size = G1 at h1 hg1 ⊢
                first | generalize wk.alloc (.cells #[.int .u8 0] 5) = wk at hk h1 hg1 h2 hg2 ⊢ | generalize wk.alloc (.cells #[.int .u8 0] 5) = wk at hk h1 hg1 rb1 ⊢ | generalize wk.alloc (.cells #[.int .u8 0] 5) = wk at hk h1 hg1 ⊢
                refine hK.out _ _ hk (fun _ => ?_)
                clear hK K
                try simp only [Act.put, List.setIfInBounds_toArray, List.set_cons_zero, List.set_cons_succ]
                refine wpAnyH_ready (rs := [6, 7]) (by decide +kernel) (by simp) ?_
                refine (AllReadyH.cons (o := { dst := some 111, op := Op.call { callee := Callee.builtin Builtin.append, args := #[Operand.tmp 105, Operand.tmp 110], argTypes := #[22, 22] }, type := 22, pos := "law.go:193", after := #[{ on := 0, ground := Ground.data }, { on := 5, ground := Ground.data }], guard := none }) rfl (fun K hK => ?_) (AllReadyH.cons (o := { dst := some 112, op := Op.buildSlice 22 1 #[(0, Operand.const (Value.int IntKind.u8 0))], type := 22, pos := "law.go:193", after := #[], guard := none }) rfl (fun K hK => ?_) AllReadyH.nil))
                · refine step_append_btsL rfl (.tmp 105) (.tmp 110) rfl wb.heap.size 1 _ [0] rfl h1 ai li ci t rfl (HBT1.out.below hk) (.inl (by decide)) (by omega) hk.size ?_
                  intro v1 w1x r1 hk1 hl1
                  obtain ⟨a1, c1, rfl, rb1⟩ := Bts.of_owns r1 HY1.out
                  try have hne : (Value.slice a1 (1 + li) c1).ownBlock ≠ some G2 := fun e => by rcases hl1 _ e with h3 | h3; exact h12 (Option.some.inj h3).symm; exact absurd hg2 (Nat.not_lt.2 h3)
                  try replace h2 := owns_kept h2 hk1 (fun j hj e => h12 (Option.some.inj (hj.trans e.symm)))
                  try replace hg2 := Nat.lt_of_lt_of_le hg2 hk1.size
                  have hG1 : wb.heap.size ≤ G1 := (h1.lt G1 rfl).1
                  have hks := hk.size
                  replace hk : Below wb.heap.size wb w1x := hk.trans (hk1.low (fun j hj => by cases hj; exact hG1) hks)
                  clear h1 hg1 hk1 hl1 hG1 hks
                  try clear h12
                  obtain ⟨wk, hwk⟩ : ∃ x, x = w1x := ⟨_, rfl⟩
                  subst hwk
                  refine hK.out _ _ hk (fun _ => ?_)
                  clear hK K
                  try simp only [Act.put, List.setIfInBounds_toArray, List.set_cons_zero, List.set_cons_succ]
                  refine wpAnyH_ready (rs := [7]) (by decide +kernel) (by simp) ?_
                  refine AllReadyH.cons (o := { dst := some 112, op := Op.buildSlice 22 1 #[(0, Operand.const (Value.int IntKind.u8 0))], type := 22, pos := "law.go:193", after := #[], guard := none }) rfl (fun K hK => ?_) AllReadyH.nil
                  go_simp
                  have h2 : (wk.alloc (.cells #[.int .u8 0] 5)).ownsRow wb.heap.size 5 1 (.slice (some ⟨wk.heap.size, 0, none⟩) 1 1) 1 (bv [0]) := World.ownsRow_lit wk #[.int .u8 0] 1 hk.size (by unfold maxLen; omega) rfl
                  have hbA : Below wk.heap.size wk (wk.alloc (.cells #[.int .u8 0] 5)) := (Below.refl _ _).alloc (Nat.le_refl _) _
                  have hg2 : wk.heap.size < (wk.alloc (.cells #[.int .u8 0] 5)).heap.size := by simp
                  try have h12 : wk.heap.size ≠ G1 := Nat.ne_of_gt hg1
                  try have hne : (Value.slice a1 (1 + li) c1).ownBlock ≠ some wk.heap.size := fun e => Nat.lt_irrefl _ (r1.lt _ e).2
                  try replace h1 := owns_below h1 hbA
                  try replace hg1 := Nat.lt_of_lt_of_le hg1 hbA.size
                  try replace rb1 := rb1.below hbA
                  replace hk := bstep hk hbA
                  clear hbA
                  try clear r1
                  first | generalize wk.heap.size = G2 at h2 hg2 h12 ⊢ | generalize wk.heap.size = G2 at h2 hg2 hne ⊢ | generalize wk.heap.size = G2 at h2 hg2 ⊢
                  first | generalize wk.alloc (.cells #[.int .u8 0] 5) = wk at hk h2 hg2 h1 hg1 ⊢ | generalize wk.alloc (.cells #[.int .u8 0] 5) = wk at hk h2 hg2 rb1 ⊢ | generalize wk.alloc (.cells #[.int .u8 0] 5) = wk at hk h2 hg2 ⊢
                  refine hK.out _ _ hk (fun _ => ?_)
                  clear hK K
                  try simp only [Act.put, List.setIfInBounds_toArray, List.set_cons_zero, List.set_cons_succ]
                  refine wpAnyH_ready (rs := [13]) (by decide +kernel) (by simp) ?_
                  refine AllReadyH.cons (o := { dst := some 118, op := Op.call { callee := Callee.builtin Builtin.append, args := #[Operand.tmp 112, Operand.tmp 117], argTypes := #[22, 22] }, type := 22, pos := "law.go:193", after := #[{ on := 7, ground := Ground.data }, { on := 12, ground := Ground.data }, { on := 6, ground := Ground.chain }], guard := none }) rfl (fun K hK => ?_) AllReadyH.nil
                  refine step_append_btsL rfl (.tmp 112) (.tmp 117) rfl wb.heap.size 1 _ [0] rfl h2 aj lj cj u rfl (HBT2.out.below hk) (.inl (by decide)) (by omega) hk.size ?_
                  intro v2 w2x r2 hk2 hl2
                  obtain ⟨a2, c2, rfl, rb2⟩ := Bts.of_owns r2 HY2.out
                  replace rb1 : Bts w2x a1 (1 + li) c1 ([0] ++ t) := rb1.keep (fun hp p e => hk2.block _ (rb1.lt hp e) (fun e2 => hne (by rw [e]; exact e2.symm))) hk2.size
                  have hG2 : wb.heap.size ≤ G2 := (h2.lt G2 rfl).1
                  have hks := hk.size
                  replace hk : Below wb.heap.size wb w2x := hk.trans (hk2.low (fun j hj => by cases hj; exact hG2) hks)
                  clear h2 hg2 hk2 hl2 hG2 hks r2 hne
                  try clear r1
                  obtain ⟨wk, hwk⟩ : ∃ x, x = w2x := ⟨_, rfl⟩
                  subst hwk
                  refine hK.out _ _ hk (fun _ => ?_)
                  clear hK K
                  try simp only [Act.put, List.setIfInBounds_toArray, List.set_cons_zero, List.set_cons_succ]
                  refine wpAnyH_take (i := 14) (oi := { dst := some 119, op := Op.build 72 #[(0, Operand.tmp 111), (1, Operand.tmp 118)], type := 72, pos := "law.go:193", after := #[{ on := 6, ground := Ground.data }, { on := 13, ground := Ground.data }], guard := none }) (v := ?vlch1811) rfl (by kernel_rfl) (by kernel_rfl) (by kernel_rfl) (fun _ _ _ h => h) (Or.inl ⟨by rfl, ?ylch1811⟩) hk ?rlch1811
                  case ylch1811 => (intro w hSw; (try dsimp only at hSw); go_simp; first | done | with_reducible rfl)
                  simp only [Act.put, List.setIfInBounds_toArray, List.set_cons_zero, List.set_cons_succ]
                  refine wpAnyH_ready (rs := [15]) (by decide +kernel) (by simp) ?_
                  refine AllReadyH.cons (o := { dst := some 120, op := Op.call { callee := Callee.value (Operand.func 36), args := #[Operand.tmp 119, Operand.const (Value.int IntKind.i64 256)], argTypes := #[72, 3] }, type := 4, pos := "law.go:193", after := #[{ on := 14, ground := Ground.data }, { on := 13, ground := Ground.chain }], guard := none }) rfl (fun K hK => ?_) AllReadyH.nil
                  go_simp
                  refine (refis_any a1 a2 (1 + li) (1 + lj) c1 c2 ([0] ++ t) ([0] ++ u) 256 _ rb1 rb2 (HT.out.below (bstep HBB.out hk)) (by omega) (by omega)).mono ?_
                  rintro e1 wk3 ⟨rfl, hb3⟩
                  rw [HCL.out]
                  replace hk := bstep hk hb3
                  clear hb3 rb1 rb2
                  refine hK.out _ _ hk (fun _ => ?_)
                  clear hK K
                  try simp only [Act.put, List.setIfInBounds_toArray, List.set_cons_zero, List.set_cons_succ]
                  refine wpAnyH_take (i := 16) (oi := { dst := some 121, op := Op.move (Operand.tmp 120), type := 4, pos := "law.go:193", after := #[{ on := 15, ground := Ground.data }, { on := 15, ground := Ground.chain }], guard := none }) (v := ?vlch1812) rfl (by kernel_rfl) (by kernel_rfl) (by kernel_rfl) (fun _ _ _ h => h) (Or.inl ⟨by rfl, ?ylch1812⟩) hk ?rlch1812
                  case ylch1812 => (intro w hSw; (try dsimp only at hSw); go_simp; first | done | with_reducible rfl)
                  simp only [Act.put, List.setIfInBounds_toArray, List.set_cons_zero, List.set_cons_succ]
                  refine wpAnyH_ready (rs := [17]) (by decide +kernel) (by simp) ?_
                  refine AllReadyH.cons (o := { dst := some 122, op := Op.call { callee := Callee.value (Operand.func 18), args := #[], argTypes := #[] }, type := 4, pos := "law.go:193", after := #[{ on := 16, ground := Ground.chain }, { on := 16, ground := Ground.guard }], guard := some (16, true) }) rfl (fun K hK => ?_) AllReadyH.nil
                  go_simp
                  refine (lives21_any _).mono ?_
                  rintro e1 wk4 ⟨rfl, hb4⟩
                  replace hk := bstep hk hb4
                  clear hb4
                  refine hK.out _ _ hk (fun _ => ?_)
                  clear hK K
                  try simp only [Act.put, List.setIfInBounds_toArray, List.set_cons_zero, List.set_cons_succ]
                  refine wpAnyH_take (i := 18) (oi := { dst := some 123, op := Op.pick (Operand.tmp 121) (Operand.tmp 122) (Operand.const (Value.bool false)), type := 4, pos := "law.go:193", after := #[{ on := 16, ground := Ground.data }, { on := 17, ground := Ground.data }], guard := none }) (v := ?vlch1813) rfl (by kernel_rfl) (by kernel_rfl) (by kernel_rfl) (fun _ _ _ h => h) (Or.inl ⟨by rfl, ?ylch1813⟩) hk ?rlch1813
                  case ylch1813 => (intro w hSw; (try dsimp only at hSw); go_simp; first | done | with_reducible rfl)
                  simp only [Act.put, List.setIfInBounds_toArray, List.set_cons_zero, List.set_cons_succ]
                  refine wpAnyH_take (i := 19) (oi := { dst := some 4, op := Op.assign (Operand.tmp 123), type := 4, pos := "law.go:193", after := #[{ on := 18, ground := Ground.data }, { on := 17, ground := Ground.chain }, { on := 0, ground := Ground.phase }, { on := 1, ground := Ground.phase }, { on := 2, ground := Ground.phase }, { on := 3, ground := Ground.phase }, { on := 4, ground := Ground.phase }, { on := 5, ground := Ground.phase }, { on := 6, ground := Ground.phase }, { on := 7, ground := Ground.phase }, { on := 8, ground := Ground.phase }, { on := 9, ground := Ground.phase }, { on := 10, ground := Ground.phase }, { on := 11, ground := Ground.phase }, { on := 12, ground := Ground.phase }, { on := 13, ground := Ground.phase }, { on := 14, ground := Ground.phase }, { on := 15, ground := Ground.phase }, { on := 16, ground := Ground.phase }, { on := 17, ground := Ground.phase }, { on := 18, ground := Ground.phase }], guard := none }) (v := ?vlch1814) rfl (by kernel_rfl) (by kernel_rfl) (by kernel_rfl) (fun _ _ _ h => h) (Or.inl ⟨by rfl, ?ylch1814⟩) hk ?rlch1814
                  case ylch1814 => (intro w hSw; (try dsimp only at hSw); go_simp; first | done | with_reducible rfl)
                  simp only [Act.put, List.setIfInBounds_toArray, List.set_cons_zero, List.set_cons_succ]
                  refine wpAnyH_done (by decide +kernel) ?_ _
                  have HBE := Bx.mk (bstep HBB.out hk)
                  clear hk
                  go_wp2
                  go_ret
                  exact ⟨rfl, HBE.out⟩
                · go_simp
                  have h2 : (wk.alloc (.cells #[.int .u8 0] 5)).ownsRow wb.heap.size 5 1 (.slice (some ⟨wk.heap.size, 0, none⟩) 1 1) 1 (bv [0]) := World.ownsRow_lit wk #[.int .u8 0] 1 hk.size (by unfold maxLen; omega) rfl
                  have hbA : Below wk.heap.size wk (wk.alloc (.cells #[.int .u8 0] 5)) := (Below.refl _ _).alloc (Nat.le_refl _) _
                  have hg2 : wk.heap.size < (wk.alloc (.cells #[.int .u8 0] 5)).heap.size := by simp
                  try have h12 : wk.heap.size ≠ G1 := Nat.ne_of_gt hg1
                  try have hne : (Value.slice a1 (1 + li) c1).ownBlock ≠ some wk.heap.size := fun e => Nat.lt_irrefl _ (r1.lt _ e).2
                  try replace h1 := owns_below h1 hbA
                  try replace hg1 := Nat.lt_of_lt_of_le hg1 hbA.size
                  try replace rb1 := rb1.below hbA
                  replace hk := bstep hk hbA
                  clear hbA
                  try clear r1
                  first | generalize wk.heap.size = G2 at h2 hg2 h12 ⊢ | generalize wk.heap.size = G2 at h2 hg2 hne ⊢ | generalize wk.heap.size = G2 at h2 hg2 ⊢
                  first | generalize wk.alloc (.cells #[.int .u8 0] 5) = wk at hk h2 hg2 h1 hg1 ⊢ | generalize wk.alloc (.cells #[.int .u8 0] 5) = wk at hk h2 hg2 rb1 ⊢ | generalize wk.alloc (.cells #[.int .u8 0] 5) = wk at hk h2 hg2 ⊢
                  refine hK.out _ _ hk (fun _ => ?_)
                  clear hK K
                  try simp only [Act.put, List.setIfInBounds_toArray, List.set_cons_zero, List.set_cons_succ]
                  refine wpAnyH_ready (rs := [6]) (by decide +kernel) (by simp) ?_
                  refine AllReadyH.cons (o := { dst := some 111, op := Op.call { callee := Callee.builtin Builtin.append, args := #[Operand.tmp 105, Operand.tmp 110], argTypes := #[22, 22] }, type := 22, pos := "law.go:193", after := #[{ on := 0, ground := Ground.data }, { on := 5, ground := Ground.data }], guard := none }) rfl (fun K hK => ?_) AllReadyH.nil
                  refine step_append_btsL rfl (.tmp 105) (.tmp 110) rfl wb.heap.size 1 _ [0] rfl h1 ai li ci t rfl (HBT1.out.below hk) (.inl (by decide)) (by omega) hk.size ?_
                  intro v1 w1x r1 hk1 hl1
                  obtain ⟨a1, c1, rfl, rb1⟩ := Bts.of_owns r1 HY1.out
                  try have hne : (Value.slice a1 (1 + li) c1).ownBlock ≠ some G2 := fun e => by rcases hl1 _ e with h3 | h3; exact h12 (Option.some.inj h3).symm; exact absurd hg2 (Nat.not_lt.2 h3)
                  try replace h2 := owns_kept h2 hk1 (fun j hj e => h12 (Option.some.inj (hj.trans e.symm)))
                  try replace hg2 := Nat.lt_of_lt_of_le hg2 hk1.size
                  have hG1 : wb.heap.size ≤ G1 := (h1.lt G1 rfl).1
                  have hks := hk.size
                  replace hk : Below wb.heap.size wb w1x := hk.trans (hk1.low (fun j hj => by cases hj; exact hG1) hks)
                  clear h1 hg1 hk1 hl1 hG1 hks
                  try clear h12
                  obtain ⟨wk, hwk⟩ : ∃ x, x = w1x := ⟨_, rfl⟩
                  subst hwk
                  refine hK.out _ _ hk (fun _ => ?_)
                  clear hK K
                  try simp only [Act.put, List.setIfInBounds_toArray, List.set_cons_zero, List.set_cons_succ]
                  refine wpAnyH_ready (rs := [13]) (by decide +kernel) (by simp) ?_
                  refine AllReadyH.cons (o := { dst := some 118, op := Op.call { callee := Callee.builtin Builtin.append, args := #[Operand.tmp 112, Operand.tmp 117], argTypes := #[22, 22] }, type := 22, pos := "law.go:193", after := #[{ on := 7, ground := Ground.data }, { on := 12, ground := Ground.data }, { on := 6, ground := Ground.chain }], guard := none }) rfl (fun K hK => ?_) AllReadyH.nil
                  refine step_append_btsL rfl (.tmp 112) (.tmp 117) rfl wb.heap.size 1 _ [0] rfl h2 aj lj cj u rfl (HBT2.out.below hk) (.inl (by decide)) (by omega) hk.size ?_
                  intro v2 w2x r2 hk2 hl2
                  obtain ⟨a2, c2, rfl, rb2⟩ := Bts.of_owns r2 HY2.out
                  replace rb1 : Bts w2x a1 (1 + li) c1 ([0] ++ t) := rb1.keep (fun hp p e => hk2.block _ (rb1.lt hp e) (fun e2 => hne (by rw [e]; exact e2.symm))) hk2.size
                  have hG2 : wb.heap.size ≤ G2 := (h2.lt G2 rfl).1
                  have hks := hk.size
                  replace hk : Below wb.heap.size wb w2x := hk.trans (hk2.low (fun j hj => by cases hj; exact hG2) hks)
                  clear h2 hg2 hk2 hl2 hG2 hks r2 hne
                  try clear r1
                  obtain ⟨wk, hwk⟩ : ∃ x, x = w2x := ⟨_, rfl⟩
                  subst hwk
                  refine hK.out _ _ hk (fun _ => ?_)
                  clear hK K
                  try simp only [Act.put, List.setIfInBounds_toArray, List.set_cons_zero, List.set_cons_succ]
                  refine wpAnyH_take (i := 14) (oi := { dst := some 119, op := Op.build 72 #[(0, Operand.tmp 111), (1, Operand.tmp 118)], type := 72, pos := "law.go:193", after := #[{ on := 6, ground := Ground.data }, { on := 13, ground := Ground.data }], guard := none }) (v := ?vlch1815) rfl (by kernel_rfl) (by kernel_rfl) (by kernel_rfl) (fun _ _ _ h => h) (Or.inl ⟨by rfl, ?ylch1815⟩) hk ?rlch1815
                  case ylch1815 => (intro w hSw; (try dsimp only at hSw); go_simp; first | done | with_reducible rfl)
                  simp only [Act.put, List.setIfInBounds_toArray, List.set_cons_zero, List.set_cons_succ]
                  refine wpAnyH_ready (rs := [15]) (by decide +kernel) (by simp) ?_
                  refine AllReadyH.cons (o := { dst := some 120, op := Op.call { callee := Callee.value (Operand.func 36), args := #[Operand.tmp 119, Operand.const (Value.int IntKind.i64 256)], argTypes := #[72, 3] }, type := 4, pos := "law.go:193", after := #[{ on := 14, ground := Ground.data }, { on := 13, ground := Ground.chain }], guard := none }) rfl (fun K hK => ?_) AllReadyH.nil
                  go_simp
                  refine (refis_any a1 a2 (1 + li) (1 + lj) c1 c2 ([0] ++ t) ([0] ++ u) 256 _ rb1 rb2 (HT.out.below (bstep HBB.out hk)) (by omega) (by omega)).mono ?_
                  rintro e1 wk3 ⟨rfl, hb3⟩
                  rw [HCL.out]
                  replace hk := bstep hk hb3
                  clear hb3 rb1 rb2
                  refine hK.out _ _ hk (fun _ => ?_)
                  clear hK K
                  try simp only [Act.put, List.setIfInBounds_toArray, List.set_cons_zero, List.set_cons_succ]
                  refine wpAnyH_take (i := 16) (oi := { dst := some 121, op := Op.move (Operand.tmp 120), type := 4, pos := "law.go:193", after := #[{ on := 15, ground := Ground.data }, { on := 15, ground := Ground.chain }], guard := none }) (v := ?vlch1816) rfl (by kernel_rfl) (by kernel_rfl) (by kernel_rfl) (fun _ _ _ h => h) (Or.inl ⟨by rfl, ?ylch1816⟩) hk ?rlch1816
                  case ylch1816 => (intro w hSw; (try dsimp only at hSw); go_simp; first | done | with_reducible rfl)
                  simp only [Act.put, List.setIfInBounds_toArray, List.set_cons_zero, List.set_cons_succ]
                  refine wpAnyH_ready (rs := [17]) (by decide +kernel) (by simp) ?_
                  refine AllReadyH.cons (o := { dst := some 122, op := Op.call { callee := Callee.value (Operand.func 18), args := #[], argTypes := #[] }, type := 4, pos := "law.go:193", after := #[{ on := 16, ground := Ground.chain }, { on := 16, ground := Ground.guard }], guard := some (16, true) }) rfl (fun K hK => ?_) AllReadyH.nil
                  go_simp
                  refine (lives21_any _).mono ?_
                  rintro e1 wk4 ⟨rfl, hb4⟩
                  replace hk := bstep hk hb4
                  clear hb4
                  refine hK.out _ _ hk (fun _ => ?_)
                  clear hK K
                  try simp only [Act.put, List.setIfInBounds_toArray, List.set_cons_zero, List.set_cons_succ]
                  refine wpAnyH_take (i := 18) (oi := { dst := some 123, op := Op.pick (Operand.tmp 121) (Operand.tmp 122) (Operand.const (Value.bool false)), type := 4, pos := "law.go:193", after := #[{ on := 16, ground := Ground.data }, { on := 17, ground := Ground.data }], guard := none }) (v := ?vlch1817) rfl (by kernel_rfl) (by kernel_rfl) (by kernel_rfl) (fun _ _ _ h => h) (Or.inl ⟨by rfl, ?ylch1817⟩) hk ?rlch1817
                  case ylch1817 => (intro w hSw; (try dsimp only at hSw); go_simp; first | done | with_reducible rfl)
                  simp only [Act.put, List.setIfInBounds_toArray, List.set_cons_zero, List.set_cons_succ]
                  refine wpAnyH_take (i := 19) (oi := { dst := some 4, op := Op.assign (Operand.tmp 123), type := 4, pos := "law.go:193", after := #[{ on := 18, ground := Ground.data }, { on := 17, ground := Ground.chain }, { on := 0, ground := Ground.phase }, { on := 1, ground := Ground.phase }, { on := 2, ground := Ground.phase }, { on := 3, ground := Ground.phase }, { on := 4, ground := Ground.phase }, { on := 5, ground := Ground.phase }, { on := 6, ground := Ground.phase }, { on := 7, ground := Ground.phase }, { on := 8, ground := Ground.phase }, { on := 9, ground := Ground.phase }, { on := 10, ground := Ground.phase }, { on := 11, ground := Ground.phase }, { on := 12, ground := Ground.phase }, { on := 13, ground := Ground.phase }, { on := 14, ground := Ground.phase }, { on := 15, ground := Ground.phase }, { on := 16, ground := Ground.phase }, { on := 17, ground := Ground.phase }, { on := 18, ground := Ground.phase }], guard := none }) (v := ?vlch1818) rfl (by kernel_rfl) (by kernel_rfl) (by kernel_rfl) (fun _ _ _ h => h) (Or.inl ⟨by rfl, ?ylch1818⟩) hk ?rlch1818
                  case ylch1818 => (intro w hSw; (try dsimp only at hSw); go_simp; first | done | with_reducible rfl)
                  simp only [Act.put, List.setIfInBounds_toArray, List.set_cons_zero, List.set_cons_succ]
                  refine wpAnyH_done (by decide +kernel) ?_ _
                  have HBE := Bx.mk (bstep HBB.out hk)
                  clear hk
                  go_wp2
                  go_ret
                  exact ⟨rfl, HBE.out⟩
              · go_simp
                have h2 : (wk.alloc (.cells #[.int .u8 0] 5)).ownsRow wb.heap.size 5 1 (.slice (some ⟨wk.heap.size, 0, none⟩) 1 1) 1 (bv [0]) := World.ownsRow_lit wk #[.int .u8 0] 1 hk.size (by unfold maxLen; omega) rfl
                have hbA : Below wk.heap.size wk (wk.alloc (.cells #[.int .u8 0] 5)) := (Below.refl _ _).alloc (Nat.le_refl _) _
                have hg2 : wk.heap.size < (wk.alloc (.cells #[.int .u8 0] 5)).heap.size := by simp
                try have h12 : wk.heap.size ≠ G1 := Nat.ne_of_gt hg1
                try have hne : (Value.slice a1 (1 + li) c1).ownBlock ≠ some wk.heap.size := fun e => Nat.lt_irrefl _ (r1.lt _ e).2
                try replace h1 := owns_below h1 hbA
                try replace hg1 := Nat.lt_of_lt_of_le hg1 hbA.size
                try replace rb1 := rb1.below hbA
                replace hk := bstep hk hbA
                clear hbA
                try clear r1
                first | generalize wk.heap.size = G2 at h2 hg2 h12 ⊢ | generalize wk.heap.size = G2 at h2 hg2 hne ⊢ | generalize wk.heap.size = G2 at h2 hg2 ⊢
                first | generalize wk.alloc (.cells #[.int .u8 0] 5) = wk at hk h2 hg2 h1 hg1 ⊢ | generalize wk.alloc (.cells #[.int .u8 0] 5) = wk at hk h2 hg2 rb1 ⊢ | generalize wk.alloc (.cells #[.int .u8 0] 5) = wk at hk h2 hg2 ⊢
                refine hK.out _ _ hk (fun _ => ?_)
                clear hK K
                try simp only [Act.put, List.setIfInBounds_toArray, List.set_cons_zero, List.set_cons_succ]
                refine wpAnyH_ready (rs := [0]) (by decide +kernel) (by simp) ?_
                refine AllReadyH.cons (o := { dst := some 105, op := Op.buildSlice 22 1 #[(0, Operand.const (Value.int IntKind.u8 0))], type := 22, pos := "law.go:193", after := #[], guard := none }) rfl (fun K hK => ?_) AllReadyH.nil
                go_simp
                have h1 : (wk.alloc (.cells #[.int .u8 0] 5)).ownsRow wb.heap.size 5 1 (.slice (some ⟨wk.heap.size, 0, none⟩) 1 1) 1 (bv [0]) := World.ownsRow_lit wk #[.int .u8 0] 1 hk.size (by unfold maxLen; omega) rfl
                have hbA : Below wk.heap.size wk (wk.alloc (.cells #[.int .u8 0] 5)) := (Below.refl _ _).alloc (Nat.le_refl _) _
                have hg1 : wk.heap.size < (wk.alloc (.cells #[.int .u8 0] 5)).heap.size := by simp
                try have h12 : G2 ≠ wk.heap.size := Nat.ne_of_lt hg2
                try have hne : (Value.slice a1 (1 + li) c1).ownBlock ≠ some wk.heap.size := fun e => Nat.lt_irrefl _ (r1.lt _ e).2
                try replace h2 := owns_below h2 hbA
                try replace hg2 := Nat.lt_of_lt_of_le hg2 hbA.size
                try replace rb1 := rb1.below hbA
                replace hk := bstep hk hbA
                clear hbA
                try clear r1
                first | generalize wk.heap.size = G1 at h1 hg1 h12 ⊢ | generalize wk.heap.size = G1 at h1 hg1 hne ⊢ | generalize wk.heap.size = G1 at h1 hg1 ⊢
                first | generalize wk.alloc (.cells #[.int .u8 0] 5) = wk at hk h1 hg1 h2 hg2 ⊢ | generalize wk.alloc (.cells #[.int .u8 0] 5) = wk at hk h1 hg1 rb1 ⊢ | generalize wk.alloc (.cells #[.int .u8 0] 5) = wk at hk h1 hg1 ⊢
                refine hK.out _ _ hk (fun _ => ?_)
                clear hK K
                try simp only [Act.put, List.setIfInBounds_toArray, List.set_cons_zero, List.set_cons_succ]
                refine wpAnyH_ready (rs := [6]) (by decide +kernel) (by simp) ?_
                refine AllReadyH.cons (o := { dst := some 111, op := Op.call { callee := Callee.builtin Builtin.append, args := #[Operand.tmp 105, Operand.tmp 110], argTypes := #[22, 22] }, type := 22, pos := "law.go:193", after := #[{ on := 0, ground := Ground.data }, { on := 5, ground := Ground.data }], guard := none }) rfl (fun K hK => ?_) AllReadyH.nil
                refine step_append_btsL rfl (.tmp 105) (.tmp 110) rfl wb.heap.size 1 _ [0] rfl h1 ai li ci t rfl (HBT1.out.below hk) (.inl (by decide)) (by omega) hk.size ?_
                intro v1 w1x r1 hk1 hl1
                obtain ⟨a1, c1, rfl, rb1⟩ := Bts.of_owns r1 HY1.out
                try have hne : (Value.slice a1 (1 + li) c1).ownBlock ≠ some G2 := fun e => by rcases hl1 _ e with h3 | h3; exact h12 (Option.some.inj h3).symm; exact absurd hg2 (Nat.not_lt.2 h3)
                try replace h2 := owns_kept h2 hk1 (fun j hj e => h12 (Option.some.inj (hj.trans e.symm)))
                try replace hg2 := Nat.lt_of_lt_of_le hg2 hk1.size
                have hG1 : wb.heap.size ≤ G1 := (h1.lt G1 rfl).1
                have hks := hk.size
                replace hk : Below wb.heap.size wb w1x := hk.trans (hk1.low (fun j hj => by cases hj; exact hG1) hks)
                clear h1 hg1 hk1 hl1 hG1 hks
                try clear h12
                obtain ⟨wk, hwk⟩ : ∃ x, x = w1x := ⟨_, rfl⟩
                subst hwk
                refine hK.out _ _ hk (fun _ => ?_)
                clear hK K
                try simp only [Act.put, List.setIfInBounds_toArray, List.set_cons_zero, List.set_cons_succ]
                refine wpAnyH_ready (rs := [13]) (by decide +kernel) (by simp) ?_
                refine AllReadyH.cons (o := { dst := some 118, op := Op.call { callee := Callee.builtin Builtin.append, args := #[Operand.tmp 112, Operand.tmp 117], argTypes := #[22, 22] }, type := 22, pos := "law.go:193", after := #[{ on := 7, ground := Ground.data }, { on := 12, ground := Ground.data }, { on := 6, ground := Ground.chain }], guard := none }) rfl (fun K hK => ?_) AllReadyH.nil
                refine step_append_btsL rfl (.tmp 112) (.tmp 117) rfl wb.heap.size 1 _ [0] rfl h2 aj lj cj u rfl (HBT2.out.below hk) (.inl (by decide)) (by omega) hk.size ?_
                intro v2 w2x r2 hk2 hl2
                obtain ⟨a2, c2, rfl, rb2⟩ := Bts.of_owns r2 HY2.out
                replace rb1 : Bts w2x a1 (1 + li) c1 ([0] ++ t) := rb1.keep (fun hp p e => hk2.block _ (rb1.lt hp e) (fun e2 => hne (by rw [e]; exact e2.symm))) hk2.size
                have hG2 : wb.heap.size ≤ G2 := (h2.lt G2 rfl).1
                have hks := hk.size
                replace hk : Below wb.heap.size wb w2x := hk.trans (hk2.low (fun j hj => by cases hj; exact hG2) hks)
                clear h2 hg2 hk2 hl2 hG2 hks r2 hne
                try clear r1
                obtain ⟨wk, hwk⟩ : ∃ x, x = w2x := ⟨_, rfl⟩
                subst hwk
                refine hK.out _ _ hk (fun _ => ?_)
                clear hK K
                try simp only [Act.put, List.setIfInBounds_toArray, List.set_cons_zero, List.set_cons_succ]
                refine wpAnyH_take (i := 14) (oi := { dst := some 119, op := Op.build 72 #[(0, Operand.tmp 111), (1, Operand.tmp 118)], type := 72, pos := "law.go:193", after := #[{ on := 6, ground := Ground.data }, { on := 13, ground := Ground.data }], guard := none }) (v := ?vlch1819) rfl (by kernel_rfl) (by kernel_rfl) (by kernel_rfl) (fun _ _ _ h => h) (Or.inl ⟨by rfl, ?ylch1819⟩) hk ?rlch1819
                case ylch1819 => (intro w hSw; (try dsimp only at hSw); go_simp; first | done | with_reducible rfl)
                simp only [Act.put, List.setIfInBounds_toArray, List.set_cons_zero, List.set_cons_succ]
                refine wpAnyH_ready (rs := [15]) (by decide +kernel) (by simp) ?_
                refine AllReadyH.cons (o := { dst := some 120, op := Op.call { callee := Callee.value (Operand.func 36), args := #[Operand.tmp 119, Operand.const (Value.int IntKind.i64 256)], argTypes := #[72, 3] }, type := 4, pos := "law.go:193", after := #[{ on := 14, ground := Ground.data }, { on := 13, ground := Ground.chain }], guard := none }) rfl (fun K hK => ?_) AllReadyH.nil
                go_simp
                refine (refis_any a1 a2 (1 + li) (1 + lj) c1 c2 ([0] ++ t) ([0] ++ u) 256 _ rb1 rb2 (HT.out.below (bstep HBB.out hk)) (by omega) (by omega)).mono ?_
                rintro e1 wk3 ⟨rfl, hb3⟩
                rw [HCL.out]
                replace hk := bstep hk hb3
                clear hb3 rb1 rb2
                refine hK.out _ _ hk (fun _ => ?_)
                clear hK K
                try simp only [Act.put, List.setIfInBounds_toArray, List.set_cons_zero, List.set_cons_succ]
                refine wpAnyH_take (i := 16) (oi := { dst := some 121, op := Op.move (Operand.tmp 120), type := 4, pos := "law.go:193", after := #[{ on := 15, ground := Ground.data }, { on := 15, ground := Ground.chain }], guard := none }) (v := ?vlch1820) rfl (by kernel_rfl) (by kernel_rfl) (by kernel_rfl) (fun _ _ _ h => h) (Or.inl ⟨by rfl, ?ylch1820⟩) hk ?rlch1820
                case ylch1820 => (intro w hSw; (try dsimp only at hSw); go_simp; first | done | with_reducible rfl)
                simp only [Act.put, List.setIfInBounds_toArray, List.set_cons_zero, List.set_cons_succ]
                refine wpAnyH_ready (rs := [17]) (by decide +kernel) (by simp) ?_
                refine AllReadyH.cons (o := { dst := some 122, op := Op.call { callee := Callee.value (Operand.func 18), args := #[], argTypes := #[] }, type := 4, pos := "law.go:193", after := #[{ on := 16, ground := Ground.chain }, { on := 16, ground := Ground.guard }], guard := some (16, true) }) rfl (fun K hK => ?_) AllReadyH.nil
                go_simp
                refine (lives21_any _).mono ?_
                rintro e1 wk4 ⟨rfl, hb4⟩
                replace hk := bstep hk hb4
                clear hb4
                refine hK.out _ _ hk (fun _ => ?_)
                clear hK K
                try simp only [Act.put, List.setIfInBounds_toArray, List.set_cons_zero, List.set_cons_succ]
                refine wpAnyH_take (i := 18) (oi := { dst := some 123, op := Op.pick (Operand.tmp 121) (Operand.tmp 122) (Operand.const (Value.bool false)), type := 4, pos := "law.go:193", after := #[{ on := 16, ground := Ground.data }, { on := 17, ground := Ground.data }], guard := none }) (v := ?vlch1821) rfl (by kernel_rfl) (by kernel_rfl) (by kernel_rfl) (fun _ _ _ h => h) (Or.inl ⟨by rfl, ?ylch1821⟩) hk ?rlch1821
                case ylch1821 => (intro w hSw; (try dsimp only at hSw); go_simp; first | done | with_reducible rfl)
                simp only [Act.put, List.setIfInBounds_toArray, List.set_cons_zero, List.set_cons_succ]
                refine wpAnyH_take (i := 19) (oi := { dst := some 4, op := Op.assign (Operand.tmp 123), type := 4, pos := "law.go:193", after := #[{ on := 18, ground := Ground.data }, { on := 17, ground := Ground.chain }, { on := 0, ground := Ground.phase }, { on := 1, ground := Ground.phase }, { on := 2, ground := Ground.phase }, { on := 3, ground := Ground.phase }, { on := 4, ground := Ground.phase }, { on := 5, ground := Ground.phase }, { on := 6, ground := Ground.phase }, { on := 7, ground := Ground.phase }, { on := 8, ground := Ground.phase }, { on := 9, ground := Ground.phase }, { on := 10, ground := Ground.phase }, { on := 11, ground := Ground.phase }, { on := 12, ground := Ground.phase }, { on := 13, ground := Ground.phase }, { on := 14, ground := Ground.phase }, { on := 15, ground := Ground.phase }, { on := 16, ground := Ground.phase }, { on := 17, ground := Ground.phase }, { on := 18, ground := Ground.phase }], guard := none }) (v := ?vlch1822) rfl (by kernel_rfl) (by kernel_rfl) (by kernel_rfl) (fun _ _ _ h => h) (Or.inl ⟨by rfl, ?ylch1822⟩) hk ?rlch1822
                case ylch1822 => (intro w hSw; (try dsimp only at hSw); go_simp; first | done | with_reducible rfl)
                simp only [Act.put, List.setIfInBounds_toArray, List.set_cons_zero, List.set_cons_succ]
                refine wpAnyH_done (by decide +kernel) ?_ _
                have HBE := Bx.mk (bstep HBB.out hk)
                clear hk
                go_wp2
                go_ret
                exact ⟨rfl, HBE.out⟩
          · have hdec : decide (P = Q) = false := decide_eq_false hPQ
            rw [hdec]
            have HCL := Bx.mk (HST.out.link hPQ)
            clear hdec hPQ HST
            go_wp2_with fail
            refine (refis_any pa qa 65 65 pc qc P Q 256 _ HPD.out.1 HPD.out.2 (HT.out.below (bstep HBB.out HBD.out)) (by decide) (by decide)).mono ?_
            rintro x we ⟨rfl, hbe⟩
            rw [HCL.out]
            have HBF := Bx.mk (bstep (bstep HBB.out HBD.out) hbe)
            clear hbe
            go_wp2_with fail
            refine (lives21_any _).mono ?_
            rintro x wg ⟨rfl, hbwg⟩
            have HBE := Bx.mk (bstep HBF.out hbwg)
            clear hbwg
            go_wp2_with fail
            go_ret
            exact ⟨rfl, HBE.out⟩
        · have hgn : (0 : Int) < (n : Int) := by omega
          have hgm : ¬ (0 : Int) < (m : Int) := by omega
          obtain rfl : m = 0 := by omega
          have HNO := Bx.mk (nought_n HK.out hn)
          have HBW := Bx.mk (bstep HBB.out HB.out)
          go_wp2_with fail
          refine (link_pos ta n tc (A.take n) _ (txs_take (HTAB.out.below HB.out) HNL.out.1) HFN.out hn (by omega)).mono ?_
          rintro x wd ⟨vp, rfl, hop, hbp⟩
          obtain ⟨pa, pc, rfl, hpb⟩ := Bts.of_owns hop (link_byt _)
          have HPB := Bx.mk hpb
          have HBD := Bx.mk (bstep HBW.out hbp)
          clear hop hpb hbp
          go_wp2_with fail
          refine (refsum_any pa 65 pc _ _ HPB.out (by decide)).mono ?_
          rintro x we ⟨rfl, hbe⟩
          rw [HNO.out]
          have HBF := Bx.mk (bstep HBD.out hbe)
          have hde := dig_eq dz dz_dg.1
          clear hbe
          go_wp2_with (refine wpList_build_dz rfl rfl ?_)
          clear hde
          refine (lives21_any _).mono ?_
          rintro x wg ⟨rfl, hbwg⟩
          have HBE := Bx.mk (bstep HBF.out hbwg)
          clear hbwg
          go_wp2_with fail
          go_ret
          exact ⟨rfl, HBE.out⟩
      · have hgn : ¬ (0 : Int) < (n : Int) := by omega
        obtain rfl : n = 0 := by omega
        by_cases hm : 0 < m
        · have hgm : (0 : Int) < (m : Int) := by omega
          have HNO := Bx.mk (nought_m HK.out hm)
          have HBW := Bx.mk (bstep HBB.out HB.out)
          go_wp2_with fail
          refine (link_pos ua m uc (B.take m) _ (txs_take (HTBB.out.below HB.out) HNL.out.2) HFM.out hm (by omega)).mono ?_
          rintro x wd ⟨vp, rfl, hop, hbp⟩
          obtain ⟨pa, pc, rfl, hpb⟩ := Bts.of_owns hop (link_byt _)
          have HPB := Bx.mk hpb
          have HBD := Bx.mk (bstep HBW.out hbp)
          clear hop hpb hbp
          go_wp2_with fail
          refine (refsum_any pa 65 pc _ _ HPB.out (by decide)).mono ?_
          rintro x we ⟨rfl, hbe⟩
          rw [HNO.out]
          have HBF := Bx.mk (bstep HBD.out hbe)
          have hde := dig_eq dz dz_dg.1
          clear hbe
          go_wp2_with (refine wpList_build_dz rfl rfl ?_)
          clear hde
          refine (lives21_any _).mono ?_
          rintro x wg ⟨rfl, hbwg⟩
          have HBE := Bx.mk (bstep HBF.out hbwg)
          clear hbwg
          go_wp2_with fail
          go_ret
          exact ⟨rfl, HBE.out⟩
        · obtain rfl : m = 0 := by omega
          exact absurd (bk_both HK.out) HNE.out
  · have hdec : decide (HA.C = HB.C) = false := decide_eq_false hch
    rw [hdec] at hcmp
    clear hdec hch
    go_wp2_with (first
      | (refine wpList_load_dgR rfl (.tmp 58) rfl rfl HV7B.out.rC HDA.out.C.1 ?_)
      | (refine wpList_load_dgR rfl (.tmp 60) rfl rfl HV9B.out.rC HDB.out.C.1 ?_))
    clear hcmp
    refine (lives21_any _).mono ?_
    rintro x wc ⟨rfl, hbwc⟩
    have HBE := Bx.mk (bstep HBB.out hbwc)
    clear hbwc
    go_wp2_with fail
    go_ret
    exact ⟨rfl, HBE.out⟩

set_option maxRecDepth 100000 in
/-- what the walk gives, for every argument and every world that holds the table -/
theorem contract (H : Type) (enc : TypeId × Value → H) (W : World) (base : Nat) (args : Array Value) (ds gs : List (DataW H)) (before : List MemPlace)
    (hval0 : ∀ (j : Nat) t v, Tryd.f7.params[j]? = some t → args[j]? = some v → Value.okWide Tryd.prog W .any base t v)
    (hW : DataW.Whole enc Tryd.prog Tryd.f7.params.toList Rows.ledgerChainSpec.vars false W args.toList ds gs before) (hL : laidMetH Tryd.prog Rows.ledgerChainRow.laid W) :
    Calls Tryd.prog 7 args W fun e W' => ∃ v, e = .returned v ∧ Rows.ledgerChainSpec.post enc Tryd.prog Tryd.f7 false true false false W args v W' := by
  have htab := tab_of_laid hL
  have hval : ∀ (j : Nat) t v, Tryd.f7.params[j]? = some t → args[j]? = some v → Value.okWide Tryd.prog W .any base t v := hval0
  have hW' := hW
  obtain ⟨p, q, hA0, hV, rfl, hfz, hnd⟩ := hW
  have hA : DataW.TrodAll enc Tryd.prog W 0 (fun _ => true) true Tryd.f7.params.toList args.toList ds p := hA0
  rw [Tryd.params7] at hA hval
  obtain ⟨v0, vs0, d0, ds0, p0, q0, hargs, rfl, rfl, h0, r0⟩ := trodAll_cons hA
  obtain ⟨v1, vs1, d1, ds1, p1, q1, rfl, rfl, rfl, h1, r1⟩ := trodAll_cons r0
  obtain ⟨rfl, rfl, rfl⟩ := trodAll_nil r1
  obtain rfl : args = #[v0, v1] := by cases args; simp_all
  obtain ⟨rfl, rfl⟩ := trodVars_none hV
  obtain ⟨a0, len0, cap0, rfl⟩ := okWide_slice Tryd.underlying23 (hval 0 23 v0 rfl rfl)
  obtain ⟨a1, len1, cap1, rfl⟩ := okWide_slice Tryd.underlying23 (hval 1 23 v1 rfl rfl)
  have k0 := h0
  have lt0 : ∀ x ∈ p0, x.block < W.heap.size := by obtain ⟨m, hm⟩ := k0; exact DataW.trod_lt m _ _ _ hm
  have k1 := h1
  have lt1 : ∀ x ∈ p1, x.block < W.heap.size := by obtain ⟨m, hm⟩ := k1; exact DataW.trod_lt m _ _ _ hm
  obtain ⟨l1, hl1⟩ := open_ens h0
  obtain ⟨l2, hl2⟩ := open_ens h1
  clear hA0 hval0
  refine (walk a0 len0 cap0 l1 a1 len1 cap1 l2 W hl1 hl2 htab).mono fun e W' ⟨he, bel⟩ => ?_
  subst he
  exact ⟨_, rfl, _, _, _, [], _, [], hW', trodAll_mk1 (shut_bool Tryd.underlying4 _), (trodAll_cons_mk (Below.trod laidOut (by kernel_rfl) (of_decide_eq_true (by kernel_rfl)) k0 bel lt0) (trodAll_cons_mk (Below.trod laidOut (by kernel_rfl) (of_decide_eq_true (by kernel_rfl)) k1 bel lt1) trodAll_mk0)), rfl, bel.frame _, fun h => by cases h⟩

set_option maxRecDepth 100000 in
theorem laid_met (os : Os) : laidMet Tryd.prog Rows.ledgerChainRow.laid (({ World.holding Tryd.prog os ⟨#[], #[], []⟩ with heap := (World.holding Tryd.prog os ⟨#[], #[], []⟩).heap.setIfInBounds 0 (.cells (uv keyL).toArray 138) } : World).forCall (fun _ _ => 0) ⟨#[], #[.slice none 0 0, .slice none 0 0], []⟩).memory :=
  laidMet_of_run' 8 (by kernel_rfl) (by kernel_rfl)
set_option maxRecDepth 100000 in
theorem reads (os : Os) {H : Type} (enc : TypeId × Value → H) : ∃ places, DataW.whole enc Tryd.prog (({ World.holding Tryd.prog os ⟨#[], #[], []⟩ with heap := (World.holding Tryd.prog os ⟨#[], #[], []⟩).heap.setIfInBounds 0 (.cells (uv keyL).toArray 138) } : World).forCall (fun _ _ => 0) ⟨#[], #[.slice none 0 0, .slice none 0 0], []⟩).memory Tryd.f7.params.toList Rows.ledgerChainSpec.vars false (#[.slice none 0 0, .slice none 0 0] : Array Value).toList 8 = some ([.nil, .nil], [], places) :=
  ⟨[], by kernel_rfl⟩
set_option maxRecDepth 100000 in
theorem lifted (os : Os) (started : os.Started) (H : Type) (enc : TypeId × Value → H) (F : Stop.Interp) :
    ReturnsInHanded {} Tryd.checked os 7 .any ((OpenSpec.ofChange Rows.ledgerChainSpec).preRow enc Tryd.prog Tryd.f7 Rows.ledgerChainRow.domain false Rows.ledgerChainRow.laid) (((OpenSpec.ofChange Rows.ledgerChainSpec).at F).post enc Tryd.prog Tryd.f7 false true false false) := by
  obtain ⟨places, hx⟩ := reads os enc
  refine returnsInHanded_of_row (C := Tryd.checked) (s := OpenSpec.ofChange Rows.ledgerChainSpec) own started (by kernel_rfl) Tryd.func7
    (witness_row_at (enc := enc) (C := Tryd.checked) false ({ World.holding Tryd.prog os ⟨#[], #[], []⟩ with heap := (World.holding Tryd.prog os ⟨#[], #[], []⟩).heap.setIfInBounds 0 (.cells (uv keyL).toArray 138) } : World) #[.slice none 0 0, .slice none 0 0] rfl (by kernel_rfl) (by kernel_rfl) (by kernel_rfl)
      (OpenSpec.preRow_of_cond 8 hx (by kernel_rfl) (fun k hk => by cases hk) (by kernel_rfl) (laid_met os))) ?_
  intro W base args ds gs before hval hW _ _ _ hL _ _
  exact contract H enc W base args ds gs before hval hW hL
theorem said : Rows.LedgerChainSaid :=
  OpenClaim.holds_of_cond 7 Tryd.f7 rfl rfl rfl rfl rfl rfl rfl ⟨rfl, rfl, rfl, rfl, rfl⟩ rfl rfl rfl rfl rfl (by kernel_rfl) Tryd.func7 (by kernel_rfl)
    (of_decide_eq_true (by kernel_rfl)) (by unfold Func.isWrapper; first | (rw [if_pos (by decide +kernel)]; kernel_rfl) | (rw [if_neg (by decide +kernel)]; exact ⟨rfl, rfl⟩))
    (fun os started H enc _ F => by rw [OpenClaim.pre_eq_preRow]; exact lifted os started H enc F)
theorem plain (f : FuncId) (fn : Func) (hf : Tryd.pinned.checked.prog.funcNamed "inquest/inquestlaw21.LedgerChain" = some f) (hfn : Tryd.pinned.checked.prog.funcs[f]? = some fn) :
    false = Tryd.pinned.checked.prog.looks [] ∧ ∀ (j : Nat) t, fn.params[j]? = some t → Tryd.pinned.checked.prog.wantsStandIn t = false := by
  obtain rfl : f = 7 := Option.some.inj ((show Tryd.prog.funcNamed "inquest/inquestlaw21.LedgerChain" = some 7 by kernel_rfl).symm.trans hf) |>.symm
  obtain rfl : fn = Tryd.f7 := (Option.some.inj (Tryd.func7.symm.trans hfn)).symm
  refine ⟨by kernel_rfl, fun j t ht => ?_⟩
  rw [Tryd.params7] at ht
  have hall : ([23, 23].all fun u => !Tryd.prog.wantsStandIn u) = true := by kernel_rfl
  have hm : t ∈ [23, 23] := by simpa using Array.mem_of_getElem? ht
  exact (show Tryd.prog.wantsStandIn t = false by simpa using List.all_eq_true.1 hall t hm)
/-- the tied card -/
theorem card : Rows.LedgerChainCardSaid :=
  Claim7.holds_tied_plain_at .later [] _ _ _ _ said (fun _ h => by cases h) (by kernel_rfl) (fun _ h => by cases h) ledgerChain_row_tie rfl ⟨rfl, rfl⟩ (by kernel_rfl) rfl plain (by kernel_rfl)
end Go.Proofs.YtbednfacipphhaaDoor.ledgerChain
namespace Go.Proofs.YtbednfacipphhaaDoor
theorem ledgerChain_holds : Rows.LedgerChainCardSaid := ledgerChain.card
#print axioms ledgerChain_holds
end Go.Proofs.YtbednfacipphhaaDoor
