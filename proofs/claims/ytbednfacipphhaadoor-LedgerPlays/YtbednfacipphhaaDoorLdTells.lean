/- What a ledger must tell of some texts: the law's. -/
import Derived.Test.YtbednfacipphhaaDoorAubd
import Derived.Test.YtbednfacipphhaaDoorHdEq
import Derived.Test.YtbednfacipphhaaDoorAuba
import Derived.Laws.OwnMore
namespace Go.Proofs.YtbednfacipphhaaDoor
open Go.RowKit
set_option linter.unusedVariables false

set_option maxRecDepth 100000 in
theorem bv_setU (l : List Int) (k : Nat) (z : Int) : (bv l).set k (.int .u8 z) = bv (l.set k z) := by unfold bv; rw [List.map_set]
/-- own bytes that are written over, one by one -/
structure BuI (B : Nat) (a : Option Addr) (n c : Nat) (l : List Int) (ws wr : World) : Prop where
  len : l.length = n
  own : wr.ownsRow B 5 1 (.slice a n c) n (bv l)
  kept : Kept (fun b => (Value.slice a n c).ownBlock = some b) ws wr
set_option maxRecDepth 100000 in
theorem BuI.put {B g k n c : Nat} {l : List Int} {ws wr : World} (h : BuI B (some ⟨g, 0, none⟩) n c l ws wr) (z : Int) : BuI B (some ⟨g, 0, none⟩) n c (l.set k z) ws (wr.setCell ⟨g, k, none⟩ (.int .u8 z)) :=
  ⟨by rw [List.length_set]; exact h.len, by rw [← bv_setU]; exact (h.own.stored k (.int .u8 z)).1, h.kept.setCell (.inl rfl) k _⟩
set_option maxRecDepth 100000 in
theorem BuI.low {B n c : Nat} {a : Option Addr} {l : List Int} {ws wr w : World} (h : BuI B a n c l ws wr) (hb : Below B w ws) (hs : B ≤ ws.heap.size) : Below B w wr :=
  hb.trans (h.kept.low (fun k hk => (h.own.lt k hk).1) hs)
set_option maxRecDepth 100000 in
theorem pathT_dg (T : List (List Int)) (i n : Int) : Dgl (pathT T i n).1 := by
  unfold pathT
  split
  · exact Dgl.nil
  · exact pathL_dg _ _ _ 256 (Nat.le_refl _) (leavesL_dg _ _)
set_option maxRecDepth 100000 in
theorem growT_dg (T : List (List Int)) (m n : Int) : Dgl (growT T m n).1 := by
  unfold growT
  split
  · exact Dgl.nil
  · next h =>
    refine growL_dg _ _ _ true 256 (Nat.le_refl _) (by omega) ?_ (leavesL_dg _ _)
    rw [leavesL_len, List.length_take]; omega
set_option maxHeartbeats 4000000 in
set_option maxRecDepth 100000 in
theorem tells21_any (own : Nat → Prop) (g : Nat) (KY : List Int) (T : List (List Int)) (ka : Option Addr) (kn kc : Nat) (ta : Option Addr) (tc : Nat) (i n : Int) (w : World) (hg : Lg w own g KY T) (hk : Bts w ka kn kc KY) (hkn : kn ≤ 1000000) (hT : Txs w ta T.length tc T) (hcap : ta = none → tc = 0) (htab : Tab w) :
    Calls Tryd.prog 15 #[.pointer (some ⟨g, 0, none⟩), .slice ka kn kc, .slice ta T.length tc, .int .i64 i, .int .i64 n] w fun e w' => e = .returned (.bool true) ∧ Below w.heap.size w w' := by
  have HG := Bx.mk hg
  have HK := Bx.mk hk
  have HT := Bx.mk hT
  have HTB := Bx.mk htab
  have HT64 : Bx (T.length ≤ 64) := ⟨hg.le⟩
  have hle := hg.le
  have HFT : Bx (∀ t ∈ T, t.length ≤ 1000000) := ⟨fun t ht => by have := hg.fit t ht; omega⟩
  have hq0 : ((T.length : Int) != (T.length : Int)) = false := by simp
  have HCAP := Bx.mk hcap
  clear hg hk hT htab hcap
  by_cases hno : i < 0 ∨ (T.length : Int) ≤ i
  · have HE : Bx (textT T i = ([], 9)) := ⟨by unfold textT; rw [if_pos hno]⟩
    have HDD : Bx (decide (i < 0) = true ∨ (decide (i < 0) = false ∧ decide ((T.length : Int) ≤ i) = true)) := ⟨by
      by_cases h1 : i < 0
      · exact .inl (decide_eq_true h1)
      · exact .inr ⟨decide_eq_false h1, decide_eq_true (by omega)⟩⟩
    clear hno
    go_enter Tryd.func15, Tryd.ntmps15
    go_wp2_with fail
    refine (size21_yes HG.out).mono ?_
    rintro x wz ⟨rfl, hwz⟩
    subst hwz
    go_wp2_with fail
    refine (text21_any own g KY T i _ HG.out).mono ?_
    rintro x w1 ⟨a1, n1, c1, rfl, hto, hn1, hb1⟩
    rw [HE.out] at hto ⊢
    have hn0 : n1 = 0 := by have h := hto.1; simp [bv] at h; omega
    have hz : ¬ (0 : Int) < (n1 : Int) := by omega
    have hz2 : decide (0 < n1) = false := decide_eq_false (by omega)
    have HTO1 := Bx.mk hto
    have HB1 := Bx.mk hb1
    clear hto hb1 hn0
    go_upto_region 4 with fail
    go_cut [42] from 35 to 42 (fun s wx => s = .bool true ∧ w1 = wx)
    case first =>
      rcases HDD.out with h1 | ⟨h1, h2⟩
      all_goals
        go_wp2_with fail
        go_meet
        case rel => exact ⟨rfl, rfl⟩
    obtain ⟨rfl, hwc⟩ := hcut
    subst hwc
    go_upto_region 9 with fail
    obtain ⟨wC, hwC⟩ : ∃ x, x = w1 := ⟨_, rfl⟩
    subst hwC
    have HTO := HTO1
    have HBC := HB1
    clear HTO1 HB1 HDD HE hz hz2
    go_wp2_with fail
    go_loopw [13] (fun j wr => ∃ (p : Nat) (l : List Int), p ≤ n1 ∧ j = .int .i64 p ∧ Bx (BuI w.heap.size a1 n1 c1 l wC wr)) (fun j _ => n1 - (intOf j).toNat)
    case atStart => exact ⟨0, _, Nat.zero_le _, rfl, ⟨⟨by have := HTO.out.1; rw [bv_length] at this; omega, HTO.out, Kept.refl _ _⟩⟩⟩
    case round =>
      obtain ⟨p, l, hp, rfl, HBU⟩ := hrel
      by_cases hlt : p < n1
      · have g1 : (p : Int) < (n1 : Int) := by omega
        obtain ⟨g1', _, e, _, _⟩ := owns_form HBU.out.own (by omega)
        cases e
        have k0 : wr.cell? ⟨g1', p, none⟩ = some (.int .u8 (l.getD p 0)) := by
          rw [HBU.out.own.cellAt p (by omega), bv, List.getElem?_map, List.getElem?_eq_getElem (by rw [HBU.out.len]; exact hlt), List.getD_eq_getElem?_getD, List.getElem?_eq_getElem (by rw [HBU.out.len]; exact hlt)]; rfl
        have f0 := HBU.out.own.frozenAt p
        generalize l.getD p 0 = y at k0
        go_wp2_with fail
        go_roundw
        case rel => exact ⟨p + 1, l.set p _, by omega, by go_num, ⟨HBU.out.put _⟩⟩
        case measure => simp [intOf]; omega
      · have g1 : ¬ (p : Int) < (n1 : Int) := by omega
        have HBR : Bx (Below w.heap.size w wr) := ⟨HBU.out.low HBC.out HBC.out.size⟩
        clear HTO HBU HBC
        obtain ⟨LP, ep, HPT⟩ : ∃ LP ep, Bx (pathT T i n = (LP, ep)) := ⟨_, _, ⟨rfl⟩⟩
        obtain ⟨LG, eg, HGT⟩ : ∃ LG eg, Bx (growT T i n = (LG, eg)) := ⟨_, _, ⟨rfl⟩⟩
        have HDP : Bx (Dgl LP) := ⟨by have := pathT_dg T i n; rwa [HPT.out] at this⟩
        have HDG : Bx (Dgl LG) := ⟨by have := growT_dg T i n; rwa [HGT.out] at this⟩
        go_wp2_with fail
        refine (path21_any own g KY T i n _ (HG.out.below HBR.out) (HTB.out.below HBR.out)).mono ?_
        rintro x w2 ⟨vp, rfl, hpo, hb2⟩
        rw [HPT.out] at hpo ⊢
        dsimp only at hpo
        obtain ⟨pa, pc, rfl, hpd⟩ := Dgs.of_owns hpo HDP.out
        have HP2 := Bx.mk hpd
        have HB2 := Bx.mk (bstep HBR.out hb2)
        clear hpo hpd hb2 HBR
        go_wp2_with fail
        refine (refpath21_any ta T.length tc T i n _ (HT.out.below HB2.out) HCAP.out HFT.out HT64.out (HTB.out.below HB2.out)).mono ?_
        rintro x w3 ⟨vq, rfl, hqo, hb3⟩
        rw [HPT.out] at hqo ⊢
        dsimp only at hqo
        obtain ⟨qa, qc, rfl, hqd⟩ := Dgs.of_owns hqo HDP.out
        have HQ3 := Bx.mk hqd
        have HP3 := Bx.mk (HP2.out.below hb3)
        have HB3 := Bx.mk (bstep HB2.out hb3)
        clear hqo hqd hb3 HP2 HB2
        go_wp2_with fail
        refine (growth21_any own g KY T i n _ (HG.out.below HB3.out) (HTB.out.below HB3.out)).mono ?_
        rintro x w4 ⟨vr, rfl, hro, hb4⟩
        rw [HGT.out] at hro ⊢
        dsimp only at hro
        obtain ⟨ra, rc, rfl, hrd⟩ := Dgs.of_owns hro HDG.out
        have HR4 := Bx.mk hrd
        have HP4 := Bx.mk (HP3.out.below hb4)
        have HQ4 := Bx.mk (HQ3.out.below hb4)
        have HB4 := Bx.mk (bstep HB3.out hb4)
        clear hro hrd hb4 HP3 HQ3 HB3
        go_wp2_with fail
        refine (refgrowth21_any ta T.length tc T i n _ (HT.out.below HB4.out) HCAP.out HFT.out HT64.out (HTB.out.below HB4.out)).mono ?_
        rintro x w5 ⟨vs, rfl, hso, hb5⟩
        rw [HGT.out] at hso ⊢
        dsimp only at hso
        obtain ⟨sa, sc, rfl, hsd⟩ := Dgs.of_owns hso HDG.out
        have HS5 := Bx.mk hsd
        have HP5 := Bx.mk (HP4.out.below hb5)
        have HQ5 := Bx.mk (HQ4.out.below hb5)
        have HR5 := Bx.mk (HR4.out.below hb5)
        have HB5 := Bx.mk (bstep HB4.out hb5)
        clear hso hsd hb5 HP4 HQ4 HR4 HB4 HDP HDG HPT HGT
        have qep : (ep != ep) = false := by simp
        have qeg : (eg != eg) = false := by simp
        go_wp2_with fail
        refine (dsame_yes pa qa LP.length pc qc LP _ HP5.out HQ5.out).mono ?_
        rintro x w6 ⟨rfl, q6, hw6⟩
        have hb6 : Below w5.heap.size w5 w6 := by rw [hw6]; exact below_drewN (Below.refl _ _) q6
        have HR6 := Bx.mk (HR5.out.below hb6)
        have HS6 := Bx.mk (HS5.out.below hb6)
        have HB6 := Bx.mk (bstep HB5.out hb6)
        clear hb6 hw6 HP5 HQ5 HR5 HS5 HB5
        go_wp2_with fail
        refine (dsame_yes ra sa LG.length rc sc LG _ HR6.out HS6.out).mono ?_
        rintro x w7 ⟨rfl, q7, hw7⟩
        have HB7 : Bx (Below w.heap.size w w7) := ⟨by rw [hw7]; exact below_drewN HB6.out q7⟩
        clear hw7 HR6 HS6 HB6
        go_wp2_with fail
        refine (head21_any own g KY T n _ (HG.out.below HB7.out) (HTB.out.below HB7.out)).mono ?_
        rintro x w8 ⟨rfl, hb8⟩
        have HB8 := Bx.mk (bstep HB7.out hb8)
        clear hb8 HB7 qep qeg
        by_cases hn : n < 0 ∨ (T.length : Int) < n
        · have HE := Bx.mk (headT_no (k := KY) hn)
          rw [HE.out]
          have hd : decide (n < 0) = true ∨ (decide (n < 0) = false ∧ decide ((T.length : Int) < n) = true) := by
            by_cases h1 : n < 0
            · exact .inl (decide_eq_true h1)
            · exact .inr ⟨decide_eq_false h1, decide_eq_true (by omega)⟩
          clear hn
          obtain ⟨hv, hbv, hth⟩ := hd_var w8 hd0_dg
          have HTH := Bx.mk hth
          have HIH := Bx.mk (hdA_info hd0_dg)
          have HOH : Bx ((hdA hd0).all (·.oneCell') = true) := ⟨hdA_one⟩
          have hzv := hd0_run
          have HV22 := Bx.mk hv
          have HBV := Bx.mk hbv
          clear hv hbv hth
          go_upto_region 20 with (refine wpList_store_mid rfl 47 (.tmp 22) (.tmp 127) rfl w8.heap.size 0 (hdA hd0) rfl rfl ?htax HIH.out HOH.out ?_; (case htax => exact HTH.out))
          clear hzv HTH HIH HOH
          obtain ⟨g22, HGax⟩ : ∃ x, Bx (x = w8.heap.size) := ⟨_, ⟨rfl⟩⟩
          rw [← HGax.out] at HV22 ⊢
          have HBV' : Bx (Below w8.heap.size w8 ((w8.alloc (.cells (hdA hd0) 47)).setCells g22 0 (hdA hd0).toList)) := ⟨by rw [HGax.out]; exact HBV.out⟩
          clear HBV HGax
          generalize (w8.alloc (.cells (hdA hd0) 47)).setCells g22 0 (hdA hd0).toList = w9 at HV22 HBV' ⊢
          have HB9 := Bx.mk (bstep HB8.out HBV'.out)
          have hhe := hd_eq hd0_dg
          rcases hd with h1 | ⟨h1, h2⟩
          all_goals
            go_wp2_with (first
              | (refine wpList_load_hd rfl (.tmp 22) rfl rfl HV22.out ?_)
              | (refine wpList_build_hd0 rfl rfl ?_))
            go_ret
            exact ⟨rfl, HB9.out⟩
        · obtain ⟨m, rfl⟩ : ∃ m : Nat, n = (m : Int) := ⟨n.toNat, by omega⟩
          have hmT : m ≤ T.length := by omega
          have HE : Bx (headT KY T (m : Int) = (sgn KY (hdD (leavesL (T.take m) 256)), 0)) := ⟨by rw [headT_yes ⟨Int.natCast_nonneg m, by omega⟩, Int.toNat_natCast]⟩
          rw [HE.out]
          have h1 : decide ((m : Int) < 0) = false := decide_eq_false (by omega)
          have h2 : decide (T.length < m) = false := decide_eq_false (by omega)
          have HHD : Bx (HdD (sgn KY (hdD (leavesL (T.take m) 256)))) := ⟨sgn_digs (hdD_dg _ (leavesL_dg _ _))⟩
          have hct := txs_cut ta T.length tc m (Nat.le_trans hmT HT.out.le_cap) HT.out.le_cap HCAP.out
          have HTM := Bx.mk (txs_take HT.out hmT)
          have HFM : Bx (∀ t ∈ T.take m, t.length ≤ 1000000) := ⟨fun t ht => HFT.out t (List.mem_of_mem_take ht)⟩
          have hm64 : m ≤ 64 := Nat.le_trans hmT HT64.out
          obtain ⟨H, HHE⟩ : ∃ H, Bx (sgn KY (hdD (leavesL (T.take m) 256)) = H) := ⟨_, ⟨rfl⟩⟩
          rw [HHE.out] at HHD
          rw [HHE.out]
          clear hn HE
          obtain ⟨hv, hbv, hth⟩ := hd_var w8 HHD.out
          have HTH := Bx.mk hth
          have HIH := Bx.mk (hdA_info HHD.out)
          have HOH : Bx ((hdA H).all (·.oneCell') = true) := ⟨hdA_one⟩
          have hzv := hd0_run
          have HV22 := Bx.mk hv
          have HBV := Bx.mk hbv
          clear hv hbv hth
          go_upto_region 20 with (refine wpList_store_mid rfl 47 (.tmp 22) (.tmp 127) rfl w8.heap.size 0 (hdA H) rfl rfl ?htbx HIH.out HOH.out ?_; (case htbx => exact HTH.out))
          clear hzv HTH HIH HOH
          obtain ⟨g22, HGbx⟩ : ∃ x, Bx (x = w8.heap.size) := ⟨_, ⟨rfl⟩⟩
          rw [← HGbx.out] at HV22 ⊢
          have HBV' : Bx (Below w8.heap.size w8 ((w8.alloc (.cells (hdA hd0) 47)).setCells g22 0 (hdA H).toList)) := ⟨by rw [HGbx.out]; exact HBV.out⟩
          clear HBV HGbx
          generalize (w8.alloc (.cells (hdA hd0) 47)).setCells g22 0 (hdA H).toList = w9 at HV22 HBV' ⊢
          have hk : HdB w9.drew g22 H ∧ Below w.heap.size w w9.drew := ⟨HV22.out.keep rfl, (bstep HB8.out HBV'.out).drew⟩
          have hhe : ∀ W : World, (Op.equalIn 10000 47 (.agg (hdC H).toArray) (.agg (hdA H))).run Tryd.prog W = .ok true W := fun W => hd_eq HHD.out W
          clear HB8 HV22 HBV'
          go_wp2_with fail
          refine wp_region_held_drew (S := fun W => HdB W g22 H ∧ Below w.heap.size w W) (by kernel_rfl) hk (fun _ => ?_)
          generalize w9.drew = wd at hk ⊢
          refine wpAnyH_take (i := 0) (oi := { dst := some 144, op := Op.load 47 (Operand.tmp 22), type := 47, pos := "law.go:103", after := #[], guard := none }) (v := .agg (hdC H).toArray) rfl (by kernel_rfl) (by kernel_rfl) (by kernel_rfl) (fun _ _ _ h => h) (yieldsIf_load_mid (by rfl) 47 (.tmp 22) rfl g22 0 rfl (hdC H) _ (fun (W : World) (hW : HdB W g22 H ∧ Below w.heap.size w W) => hW.1.range) Tryd.underlying47 rfl (hdC_info HHD.out)) hk ?_
          simp only [Act.put, List.setIfInBounds_toArray, List.set_cons_zero, List.set_cons_succ]
          refine wpAnyH_take (i := 1) (oi := { dst := some 145, op := Op.move (Operand.tmp 1), type := 22, pos := "law.go:103", after := #[], guard := none }) (v := ?vtel22b1) rfl (by kernel_rfl) (by kernel_rfl) (by kernel_rfl) (fun _ _ _ h => h) (Or.inl ⟨by rfl, ?ytel22b1⟩) hk ?rtel22b1
          case ytel22b1 => (intro w hSw; (try dsimp only at hSw); go_simp; first | done | with_reducible rfl)
          simp only [Act.put, List.setIfInBounds_toArray, List.set_cons_zero, List.set_cons_succ]
          refine wpAnyH_take (i := 2) (oi := { dst := some 146, op := Op.move (Operand.tmp 2), type := 28, pos := "law.go:103", after := #[], guard := none }) (v := ?vtel22b2) rfl (by kernel_rfl) (by kernel_rfl) (by kernel_rfl) (fun _ _ _ h => h) (Or.inl ⟨by rfl, ?ytel22b2⟩) hk ?rtel22b2
          case ytel22b2 => (intro w hSw; (try dsimp only at hSw); go_simp; first | done | with_reducible rfl)
          simp only [Act.put, List.setIfInBounds_toArray, List.set_cons_zero, List.set_cons_succ]
          refine wpAnyH_take (i := 3) (oi := { dst := some 147, op := Op.move (Operand.tmp 4), type := 3, pos := "law.go:103", after := #[], guard := none }) (v := ?vtel22b3) rfl (by kernel_rfl) (by kernel_rfl) (by kernel_rfl) (fun _ _ _ h => h) (Or.inl ⟨by rfl, ?ytel22b3⟩) hk ?rtel22b3
          case ytel22b3 => (intro w hSw; (try dsimp only at hSw); go_simp; first | done | with_reducible rfl)
          simp only [Act.put, List.setIfInBounds_toArray, List.set_cons_zero, List.set_cons_succ]
          refine wpAnyH_take (i := 4) (oi := { dst := some 148, op := Op.slice 28 (Operand.tmp 146) none (some (Operand.tmp 147)) none, type := 28, pos := "law.go:103", after := #[{ on := 2, ground := Ground.data }, { on := 3, ground := Ground.data }], guard := none }) (v := ?vtel22b4) rfl (by kernel_rfl) (by kernel_rfl) (by kernel_rfl) (fun _ _ _ h => h) (Or.inl ⟨by rfl, ?ytel22b4⟩) hk ?rtel22b4
          case ytel22b4 => (intro w hSw; (try dsimp only at hSw); go_simp; first | done | with_reducible rfl)
          simp only [Act.put, List.setIfInBounds_toArray, List.set_cons_zero, List.set_cons_succ]
          refine wpAnyH_ready (rs := [5]) (by decide +kernel) (by simp) ?_
          refine AllReadyH.cons (o := { dst := some 149, op := Op.call { callee := Callee.value (Operand.func 45), args := #[Operand.tmp 145, Operand.tmp 148], argTypes := #[22, 28] }, type := 47, pos := "law.go:103", after := #[{ on := 1, ground := Ground.data }, { on := 4, ground := Ground.data }], guard := none }) rfl (fun K hK => ?_) AllReadyH.nil
          go_simp
          refine (refhead21_any ka kn kc KY ta m tc (T.take m) _ (HK.out.below hk.2) hkn (HTM.out.below hk.2) HFM.out hm64 (HTB.out.below hk.2)).mono ?_
          rintro e wz1 ⟨rfl, hb9⟩
          rw [HHE.out]
          replace hk := And.intro (hk.1.below hb9) (bstep hk.2 hb9)
          clear hb9
          refine hK.out _ _ hk (fun _ => ?_)
          clear hK K
          try simp only [Act.put, List.setIfInBounds_toArray, List.set_cons_zero, List.set_cons_succ]
          refine wpAnyH_take (i := 6) (oi := { dst := some 150, op := Op.binOp BinOp.eql 47 (Operand.tmp 144) (Operand.tmp 149) 47, type := 4, pos := "law.go:103", after := #[{ on := 0, ground := Ground.data }, { on := 5, ground := Ground.data }], guard := none }) (v := ?vtel22b5) rfl (by kernel_rfl) (by kernel_rfl) (by kernel_rfl) (fun _ _ _ h => h) (Or.inl ⟨by rfl, ?ytel22b5⟩) hk ?rtel22b5
          case ytel22b5 => (intro w hSw; (try dsimp only at hSw); go_simp; first | done | with_reducible rfl)
          simp only [Act.put, List.setIfInBounds_toArray, List.set_cons_zero, List.set_cons_succ]
          refine wpAnyH_take (i := 7) (oi := { dst := some 151, op := Op.move (Operand.tmp 150), type := 4, pos := "law.go:103", after := #[{ on := 6, ground := Ground.data }, { on := 5, ground := Ground.chain }], guard := none }) (v := ?vtel22b6) rfl (by kernel_rfl) (by kernel_rfl) (by kernel_rfl) (fun _ _ _ h => h) (Or.inl ⟨by rfl, ?ytel22b6⟩) hk ?rtel22b6
          case ytel22b6 => (intro w hSw; (try dsimp only at hSw); go_simp; first | done | with_reducible rfl)
          simp only [Act.put, List.setIfInBounds_toArray, List.set_cons_zero, List.set_cons_succ]
          refine wpAnyH_take (i := 8) (oi := { dst := some 152, op := Op.move (Operand.tmp 23), type := 39, pos := "law.go:103", after := #[{ on := 7, ground := Ground.guard }], guard := some (7, true) }) (v := ?vtel22b7) rfl (by kernel_rfl) (by kernel_rfl) (by kernel_rfl) (fun _ _ _ h => h) (Or.inl ⟨by rfl, ?ytel22b7⟩) hk ?rtel22b7
          case ytel22b7 => (intro w hSw; (try dsimp only at hSw); go_simp; first | done | with_reducible rfl)
          simp only [Act.put, List.setIfInBounds_toArray, List.set_cons_zero, List.set_cons_succ]
          refine wpAnyH_take (i := 9) (oi := { dst := some 153, op := Op.binOp BinOp.eql 39 (Operand.tmp 152) (Operand.const (Value.int IntKind.i64 0)) 39, type := 4, pos := "law.go:103", after := #[{ on := 8, ground := Ground.data }, { on := 7, ground := Ground.guard }], guard := some (7, true) }) (v := ?vtel22b8) rfl (by kernel_rfl) (by kernel_rfl) (by kernel_rfl) (fun _ _ _ h => h) (Or.inl ⟨by rfl, ?ytel22b8⟩) hk ?rtel22b8
          case ytel22b8 => (intro w hSw; (try dsimp only at hSw); go_simp; first | done | with_reducible rfl)
          simp only [Act.put, List.setIfInBounds_toArray, List.set_cons_zero, List.set_cons_succ]
          refine wpAnyH_take (i := 10) (oi := { dst := some 154, op := Op.pick (Operand.tmp 151) (Operand.tmp 153) (Operand.const (Value.bool false)), type := 4, pos := "law.go:103", after := #[{ on := 7, ground := Ground.data }, { on := 9, ground := Ground.data }], guard := none }) (v := ?vtel22b9) rfl (by kernel_rfl) (by kernel_rfl) (by kernel_rfl) (fun _ _ _ h => h) (Or.inl ⟨by rfl, ?ytel22b9⟩) hk ?rtel22b9
          case ytel22b9 => (intro w hSw; (try dsimp only at hSw); go_simp; first | done | with_reducible rfl)
          simp only [Act.put, List.setIfInBounds_toArray, List.set_cons_zero, List.set_cons_succ]
          refine wpAnyH_take (i := 11) (oi := { dst := some 10, op := Op.assign (Operand.tmp 154), type := 4, pos := "law.go:103", after := #[{ on := 10, ground := Ground.data }, { on := 7, ground := Ground.chain }, { on := 0, ground := Ground.phase }, { on := 1, ground := Ground.phase }, { on := 2, ground := Ground.phase }, { on := 3, ground := Ground.phase }, { on := 4, ground := Ground.phase }, { on := 5, ground := Ground.phase }, { on := 6, ground := Ground.phase }, { on := 7, ground := Ground.phase }, { on := 8, ground := Ground.phase }, { on := 9, ground := Ground.phase }, { on := 10, ground := Ground.phase }], guard := none }) (v := ?vtel22b10) rfl (by kernel_rfl) (by kernel_rfl) (by kernel_rfl) (fun _ _ _ h => h) (Or.inl ⟨by rfl, ?ytel22b10⟩) hk ?rtel22b10
          case ytel22b10 => (intro w hSw; (try dsimp only at hSw); go_simp; first | done | with_reducible rfl)
          simp only [Act.put, List.setIfInBounds_toArray, List.set_cons_zero, List.set_cons_succ]
          refine wpAnyH_done (by decide +kernel) ?_ _
          have hlow := hk.2
          clear hk hhe
          go_wp2
          go_ret
          exact ⟨rfl, hlow⟩
  · obtain ⟨k, rfl⟩ : ∃ k : Nat, i = (k : Int) := ⟨i.toNat, by omega⟩
    have hkT : k < T.length := by omega
    have HE : Bx (textT T (k : Int) = (T.getD k [], 0)) := ⟨by unfold textT; rw [if_neg hno, Int.toNat_natCast]⟩
    have h1 : decide ((k : Int) < 0) = false := decide_eq_false (by omega)
    have h2 : decide (T.length ≤ k) = false := decide_eq_false (by omega)
    have hkI : (k : Int) < (T.length : Int) := by omega
    clear hno
    go_enter Tryd.func15, Tryd.ntmps15
    go_wp2_with fail
    refine (size21_yes HG.out).mono ?_
    rintro x wz ⟨rfl, hwz⟩
    subst hwz
    go_wp2_with fail
    refine (text21_any own g KY T (k : Int) _ HG.out).mono ?_
    rintro x w1 ⟨a1, n1, c1, rfl, hto, hn1, hb1⟩
    rw [HE.out] at hto ⊢
    have HTO1 := Bx.mk hto
    have HB1 := Bx.mk hb1
    obtain ⟨bT, off, rfl, hblt, hc⟩ := (HT.out.below HB1.out).spot (by omega)
    obtain ⟨ai, li, ci, hcell, hbt⟩ := hc k hkT
    obtain ⟨_, _, e9, hb9⟩ := Bts.of_owns hto hbt.byt
    cases e9
    have HB9 := Bx.mk hb9
    have HBT := Bx.mk hbt
    clear hc hto hb9 hbt hkT hb1
    go_wp2_with fail
    refine (same_yes a1 ai n1 li c1 ci _ _ HB9.out HBT.out).mono ?_
    rintro x wC ⟨rfl, q, hw2⟩
    have hb2 : Below w1.heap.size w1 wC := by rw [hw2]; exact below_drewN (Below.refl _ _) q
    have HTO := Bx.mk (owns_below HTO1.out hb2)
    have HBC := Bx.mk (bstep HB1.out hb2)
    clear hw2 hb2 HTO1 HB1 HB9 HBT h1 h2 hkI hcell hblt
    obtain ⟨ta, hta⟩ : ∃ ta : Option Addr, ta = some ⟨bT, off, none⟩ := ⟨_, rfl⟩
    rw [← hta] at HT HCAP ⊢
    clear hta
    go_wp2_with fail
    go_loopw [13] (fun j wr => ∃ (p : Nat) (l : List Int), p ≤ n1 ∧ j = .int .i64 p ∧ Bx (BuI w.heap.size a1 n1 c1 l wC wr)) (fun j _ => n1 - (intOf j).toNat)
    case atStart => exact ⟨0, _, Nat.zero_le _, rfl, ⟨⟨by have := HTO.out.1; rw [bv_length] at this; omega, HTO.out, Kept.refl _ _⟩⟩⟩
    case round =>
      obtain ⟨p, l, hp, rfl, HBU⟩ := hrel
      by_cases hlt : p < n1
      · have g1 : (p : Int) < (n1 : Int) := by omega
        obtain ⟨g1', _, e, _, _⟩ := owns_form HBU.out.own (by omega)
        cases e
        have k0 : wr.cell? ⟨g1', p, none⟩ = some (.int .u8 (l.getD p 0)) := by
          rw [HBU.out.own.cellAt p (by omega), bv, List.getElem?_map, List.getElem?_eq_getElem (by rw [HBU.out.len]; exact hlt), List.getD_eq_getElem?_getD, List.getElem?_eq_getElem (by rw [HBU.out.len]; exact hlt)]; rfl
        have f0 := HBU.out.own.frozenAt p
        generalize l.getD p 0 = y at k0
        go_wp2_with fail
        go_roundw
        case rel => exact ⟨p + 1, l.set p _, by omega, by go_num, ⟨HBU.out.put _⟩⟩
        case measure => simp [intOf]; omega
      · have g1 : ¬ (p : Int) < (n1 : Int) := by omega
        have HBR : Bx (Below w.heap.size w wr) := ⟨HBU.out.low HBC.out HBC.out.size⟩
        clear HTO HBU HBC
        obtain ⟨LP, ep, HPT⟩ : ∃ LP ep, Bx (pathT T (k : Int) n = (LP, ep)) := ⟨_, _, ⟨rfl⟩⟩
        obtain ⟨LG, eg, HGT⟩ : ∃ LG eg, Bx (growT T (k : Int) n = (LG, eg)) := ⟨_, _, ⟨rfl⟩⟩
        have HDP : Bx (Dgl LP) := ⟨by have := pathT_dg T (k : Int) n; rwa [HPT.out] at this⟩
        have HDG : Bx (Dgl LG) := ⟨by have := growT_dg T (k : Int) n; rwa [HGT.out] at this⟩
        go_wp2_with fail
        refine (path21_any own g KY T (k : Int) n _ (HG.out.below HBR.out) (HTB.out.below HBR.out)).mono ?_
        rintro x w2 ⟨vp, rfl, hpo, hb2⟩
        rw [HPT.out] at hpo ⊢
        dsimp only at hpo
        obtain ⟨pa, pc, rfl, hpd⟩ := Dgs.of_owns hpo HDP.out
        have HP2 := Bx.mk hpd
        have HB2 := Bx.mk (bstep HBR.out hb2)
        clear hpo hpd hb2 HBR
        go_wp2_with fail
        refine (refpath21_any ta T.length tc T (k : Int) n _ (HT.out.below HB2.out) HCAP.out HFT.out HT64.out (HTB.out.below HB2.out)).mono ?_
        rintro x w3 ⟨vq, rfl, hqo, hb3⟩
        rw [HPT.out] at hqo ⊢
        dsimp only at hqo
        obtain ⟨qa, qc, rfl, hqd⟩ := Dgs.of_owns hqo HDP.out
        have HQ3 := Bx.mk hqd
        have HP3 := Bx.mk (HP2.out.below hb3)
        have HB3 := Bx.mk (bstep HB2.out hb3)
        clear hqo hqd hb3 HP2 HB2
        go_wp2_with fail
        refine (growth21_any own g KY T (k : Int) n _ (HG.out.below HB3.out) (HTB.out.below HB3.out)).mono ?_
        rintro x w4 ⟨vr, rfl, hro, hb4⟩
        rw [HGT.out] at hro ⊢
        dsimp only at hro
        obtain ⟨ra, rc, rfl, hrd⟩ := Dgs.of_owns hro HDG.out
        have HR4 := Bx.mk hrd
        have HP4 := Bx.mk (HP3.out.below hb4)
        have HQ4 := Bx.mk (HQ3.out.below hb4)
        have HB4 := Bx.mk (bstep HB3.out hb4)
        clear hro hrd hb4 HP3 HQ3 HB3
        go_wp2_with fail
        refine (refgrowth21_any ta T.length tc T (k : Int) n _ (HT.out.below HB4.out) HCAP.out HFT.out HT64.out (HTB.out.below HB4.out)).mono ?_
        rintro x w5 ⟨vs, rfl, hso, hb5⟩
        rw [HGT.out] at hso ⊢
        dsimp only at hso
        obtain ⟨sa, sc, rfl, hsd⟩ := Dgs.of_owns hso HDG.out
        have HS5 := Bx.mk hsd
        have HP5 := Bx.mk (HP4.out.below hb5)
        have HQ5 := Bx.mk (HQ4.out.below hb5)
        have HR5 := Bx.mk (HR4.out.below hb5)
        have HB5 := Bx.mk (bstep HB4.out hb5)
        clear hso hsd hb5 HP4 HQ4 HR4 HB4 HDP HDG HPT HGT
        have qep : (ep != ep) = false := by simp
        have qeg : (eg != eg) = false := by simp
        go_wp2_with fail
        refine (dsame_yes pa qa LP.length pc qc LP _ HP5.out HQ5.out).mono ?_
        rintro x w6 ⟨rfl, q6, hw6⟩
        have hb6 : Below w5.heap.size w5 w6 := by rw [hw6]; exact below_drewN (Below.refl _ _) q6
        have HR6 := Bx.mk (HR5.out.below hb6)
        have HS6 := Bx.mk (HS5.out.below hb6)
        have HB6 := Bx.mk (bstep HB5.out hb6)
        clear hb6 hw6 HP5 HQ5 HR5 HS5 HB5
        go_wp2_with fail
        refine (dsame_yes ra sa LG.length rc sc LG _ HR6.out HS6.out).mono ?_
        rintro x w7 ⟨rfl, q7, hw7⟩
        have HB7 : Bx (Below w.heap.size w w7) := ⟨by rw [hw7]; exact below_drewN HB6.out q7⟩
        clear hw7 HR6 HS6 HB6
        go_wp2_with fail
        refine (head21_any own g KY T n _ (HG.out.below HB7.out) (HTB.out.below HB7.out)).mono ?_
        rintro x w8 ⟨rfl, hb8⟩
        have HB8 := Bx.mk (bstep HB7.out hb8)
        clear hb8 HB7 qep qeg
        by_cases hn : n < 0 ∨ (T.length : Int) < n
        · have HE := Bx.mk (headT_no (k := KY) hn)
          rw [HE.out]
          have hd : decide (n < 0) = true ∨ (decide (n < 0) = false ∧ decide ((T.length : Int) < n) = true) := by
            by_cases h1 : n < 0
            · exact .inl (decide_eq_true h1)
            · exact .inr ⟨decide_eq_false h1, decide_eq_true (by omega)⟩
          clear hn
          obtain ⟨hv, hbv, hth⟩ := hd_var w8 hd0_dg
          have HTH := Bx.mk hth
          have HIH := Bx.mk (hdA_info hd0_dg)
          have HOH : Bx ((hdA hd0).all (·.oneCell') = true) := ⟨hdA_one⟩
          have hzv := hd0_run
          have HV22 := Bx.mk hv
          have HBV := Bx.mk hbv
          clear hv hbv hth
          go_upto_region 20 with (refine wpList_store_mid rfl 47 (.tmp 22) (.tmp 127) rfl w8.heap.size 0 (hdA hd0) rfl rfl ?htay HIH.out HOH.out ?_; (case htay => exact HTH.out))
          clear hzv HTH HIH HOH
          obtain ⟨g22, HGay⟩ : ∃ x, Bx (x = w8.heap.size) := ⟨_, ⟨rfl⟩⟩
          rw [← HGay.out] at HV22 ⊢
          have HBV' : Bx (Below w8.heap.size w8 ((w8.alloc (.cells (hdA hd0) 47)).setCells g22 0 (hdA hd0).toList)) := ⟨by rw [HGay.out]; exact HBV.out⟩
          clear HBV HGay
          generalize (w8.alloc (.cells (hdA hd0) 47)).setCells g22 0 (hdA hd0).toList = w9 at HV22 HBV' ⊢
          have HB9 := Bx.mk (bstep HB8.out HBV'.out)
          have hhe := hd_eq hd0_dg
          rcases hd with h1 | ⟨h1, h2⟩
          all_goals
            go_wp2_with (first
              | (refine wpList_load_hd rfl (.tmp 22) rfl rfl HV22.out ?_)
              | (refine wpList_build_hd0 rfl rfl ?_))
            go_ret
            exact ⟨rfl, HB9.out⟩
        · obtain ⟨m, rfl⟩ : ∃ m : Nat, n = (m : Int) := ⟨n.toNat, by omega⟩
          have hmT : m ≤ T.length := by omega
          have HE : Bx (headT KY T (m : Int) = (sgn KY (hdD (leavesL (T.take m) 256)), 0)) := ⟨by rw [headT_yes ⟨Int.natCast_nonneg m, by omega⟩, Int.toNat_natCast]⟩
          rw [HE.out]
          have h1 : decide ((m : Int) < 0) = false := decide_eq_false (by omega)
          have h2 : decide (T.length < m) = false := decide_eq_false (by omega)
          have HHD : Bx (HdD (sgn KY (hdD (leavesL (T.take m) 256)))) := ⟨sgn_digs (hdD_dg _ (leavesL_dg _ _))⟩
          have hct := txs_cut ta T.length tc m (Nat.le_trans hmT HT.out.le_cap) HT.out.le_cap HCAP.out
          have HTM := Bx.mk (txs_take HT.out hmT)
          have HFM : Bx (∀ t ∈ T.take m, t.length ≤ 1000000) := ⟨fun t ht => HFT.out t (List.mem_of_mem_take ht)⟩
          have hm64 : m ≤ 64 := Nat.le_trans hmT HT64.out
          obtain ⟨H, HHE⟩ : ∃ H, Bx (sgn KY (hdD (leavesL (T.take m) 256)) = H) := ⟨_, ⟨rfl⟩⟩
          rw [HHE.out] at HHD
          rw [HHE.out]
          clear hn HE
          obtain ⟨hv, hbv, hth⟩ := hd_var w8 HHD.out
          have HTH := Bx.mk hth
          have HIH := Bx.mk (hdA_info HHD.out)
          have HOH : Bx ((hdA H).all (·.oneCell') = true) := ⟨hdA_one⟩
          have hzv := hd0_run
          have HV22 := Bx.mk hv
          have HBV := Bx.mk hbv
          clear hv hbv hth
          go_upto_region 20 with (refine wpList_store_mid rfl 47 (.tmp 22) (.tmp 127) rfl w8.heap.size 0 (hdA H) rfl rfl ?htby HIH.out HOH.out ?_; (case htby => exact HTH.out))
          clear hzv HTH HIH HOH
          obtain ⟨g22, HGby⟩ : ∃ x, Bx (x = w8.heap.size) := ⟨_, ⟨rfl⟩⟩
          rw [← HGby.out] at HV22 ⊢
          have HBV' : Bx (Below w8.heap.size w8 ((w8.alloc (.cells (hdA hd0) 47)).setCells g22 0 (hdA H).toList)) := ⟨by rw [HGby.out]; exact HBV.out⟩
          clear HBV HGby
          generalize (w8.alloc (.cells (hdA hd0) 47)).setCells g22 0 (hdA H).toList = w9 at HV22 HBV' ⊢
          have hk : HdB w9.drew g22 H ∧ Below w.heap.size w w9.drew := ⟨HV22.out.keep rfl, (bstep HB8.out HBV'.out).drew⟩
          have hhe : ∀ W : World, (Op.equalIn 10000 47 (.agg (hdC H).toArray) (.agg (hdA H))).run Tryd.prog W = .ok true W := fun W => hd_eq HHD.out W
          clear HB8 HV22 HBV'
          go_wp2_with fail
          refine wp_region_held_drew (S := fun W => HdB W g22 H ∧ Below w.heap.size w W) (by kernel_rfl) hk (fun _ => ?_)
          generalize w9.drew = wd at hk ⊢
          refine wpAnyH_take (i := 0) (oi := { dst := some 144, op := Op.load 47 (Operand.tmp 22), type := 47, pos := "law.go:103", after := #[], guard := none }) (v := .agg (hdC H).toArray) rfl (by kernel_rfl) (by kernel_rfl) (by kernel_rfl) (fun _ _ _ h => h) (yieldsIf_load_mid (by rfl) 47 (.tmp 22) rfl g22 0 rfl (hdC H) _ (fun (W : World) (hW : HdB W g22 H ∧ Below w.heap.size w W) => hW.1.range) Tryd.underlying47 rfl (hdC_info HHD.out)) hk ?_
          simp only [Act.put, List.setIfInBounds_toArray, List.set_cons_zero, List.set_cons_succ]
          refine wpAnyH_take (i := 1) (oi := { dst := some 145, op := Op.move (Operand.tmp 1), type := 22, pos := "law.go:103", after := #[], guard := none }) (v := ?vtel221) rfl (by kernel_rfl) (by kernel_rfl) (by kernel_rfl) (fun _ _ _ h => h) (Or.inl ⟨by rfl, ?ytel221⟩) hk ?rtel221
          case ytel221 => (intro w hSw; (try dsimp only at hSw); go_simp; first | done | with_reducible rfl)
          simp only [Act.put, List.setIfInBounds_toArray, List.set_cons_zero, List.set_cons_succ]
          refine wpAnyH_take (i := 2) (oi := { dst := some 146, op := Op.move (Operand.tmp 2), type := 28, pos := "law.go:103", after := #[], guard := none }) (v := ?vtel222) rfl (by kernel_rfl) (by kernel_rfl) (by kernel_rfl) (fun _ _ _ h => h) (Or.inl ⟨by rfl, ?ytel222⟩) hk ?rtel222
          case ytel222 => (intro w hSw; (try dsimp only at hSw); go_simp; first | done | with_reducible rfl)
          simp only [Act.put, List.setIfInBounds_toArray, List.set_cons_zero, List.set_cons_succ]
          refine wpAnyH_take (i := 3) (oi := { dst := some 147, op := Op.move (Operand.tmp 4), type := 3, pos := "law.go:103", after := #[], guard := none }) (v := ?vtel223) rfl (by kernel_rfl) (by kernel_rfl) (by kernel_rfl) (fun _ _ _ h => h) (Or.inl ⟨by rfl, ?ytel223⟩) hk ?rtel223
          case ytel223 => (intro w hSw; (try dsimp only at hSw); go_simp; first | done | with_reducible rfl)
          simp only [Act.put, List.setIfInBounds_toArray, List.set_cons_zero, List.set_cons_succ]
          refine wpAnyH_take (i := 4) (oi := { dst := some 148, op := Op.slice 28 (Operand.tmp 146) none (some (Operand.tmp 147)) none, type := 28, pos := "law.go:103", after := #[{ on := 2, ground := Ground.data }, { on := 3, ground := Ground.data }], guard := none }) (v := ?vtel224) rfl (by kernel_rfl) (by kernel_rfl) (by kernel_rfl) (fun _ _ _ h => h) (Or.inl ⟨by rfl, ?ytel224⟩) hk ?rtel224
          case ytel224 => (intro w hSw; (try dsimp only at hSw); go_simp; first | done | with_reducible rfl)
          simp only [Act.put, List.setIfInBounds_toArray, List.set_cons_zero, List.set_cons_succ]
          refine wpAnyH_ready (rs := [5]) (by decide +kernel) (by simp) ?_
          refine AllReadyH.cons (o := { dst := some 149, op := Op.call { callee := Callee.value (Operand.func 45), args := #[Operand.tmp 145, Operand.tmp 148], argTypes := #[22, 28] }, type := 47, pos := "law.go:103", after := #[{ on := 1, ground := Ground.data }, { on := 4, ground := Ground.data }], guard := none }) rfl (fun K hK => ?_) AllReadyH.nil
          go_simp
          refine (refhead21_any ka kn kc KY ta m tc (T.take m) _ (HK.out.below hk.2) hkn (HTM.out.below hk.2) HFM.out hm64 (HTB.out.below hk.2)).mono ?_
          rintro e wz1 ⟨rfl, hb9⟩
          rw [HHE.out]
          replace hk := And.intro (hk.1.below hb9) (bstep hk.2 hb9)
          clear hb9
          refine hK.out _ _ hk (fun _ => ?_)
          clear hK K
          try simp only [Act.put, List.setIfInBounds_toArray, List.set_cons_zero, List.set_cons_succ]
          refine wpAnyH_take (i := 6) (oi := { dst := some 150, op := Op.binOp BinOp.eql 47 (Operand.tmp 144) (Operand.tmp 149) 47, type := 4, pos := "law.go:103", after := #[{ on := 0, ground := Ground.data }, { on := 5, ground := Ground.data }], guard := none }) (v := ?vtel225) rfl (by kernel_rfl) (by kernel_rfl) (by kernel_rfl) (fun _ _ _ h => h) (Or.inl ⟨by rfl, ?ytel225⟩) hk ?rtel225
          case ytel225 => (intro w hSw; (try dsimp only at hSw); go_simp; first | done | with_reducible rfl)
          simp only [Act.put, List.setIfInBounds_toArray, List.set_cons_zero, List.set_cons_succ]
          refine wpAnyH_take (i := 7) (oi := { dst := some 151, op := Op.move (Operand.tmp 150), type := 4, pos := "law.go:103", after := #[{ on := 6, ground := Ground.data }, { on := 5, ground := Ground.chain }], guard := none }) (v := ?vtel226) rfl (by kernel_rfl) (by kernel_rfl) (by kernel_rfl) (fun _ _ _ h => h) (Or.inl ⟨by rfl, ?ytel226⟩) hk ?rtel226
          case ytel226 => (intro w hSw; (try dsimp only at hSw); go_simp; first | done | with_reducible rfl)
          simp only [Act.put, List.setIfInBounds_toArray, List.set_cons_zero, List.set_cons_succ]
          refine wpAnyH_take (i := 8) (oi := { dst := some 152, op := Op.move (Operand.tmp 23), type := 39, pos := "law.go:103", after := #[{ on := 7, ground := Ground.guard }], guard := some (7, true) }) (v := ?vtel227) rfl (by kernel_rfl) (by kernel_rfl) (by kernel_rfl) (fun _ _ _ h => h) (Or.inl ⟨by rfl, ?ytel227⟩) hk ?rtel227
          case ytel227 => (intro w hSw; (try dsimp only at hSw); go_simp; first | done | with_reducible rfl)
          simp only [Act.put, List.setIfInBounds_toArray, List.set_cons_zero, List.set_cons_succ]
          refine wpAnyH_take (i := 9) (oi := { dst := some 153, op := Op.binOp BinOp.eql 39 (Operand.tmp 152) (Operand.const (Value.int IntKind.i64 0)) 39, type := 4, pos := "law.go:103", after := #[{ on := 8, ground := Ground.data }, { on := 7, ground := Ground.guard }], guard := some (7, true) }) (v := ?vtel228) rfl (by kernel_rfl) (by kernel_rfl) (by kernel_rfl) (fun _ _ _ h => h) (Or.inl ⟨by rfl, ?ytel228⟩) hk ?rtel228
          case ytel228 => (intro w hSw; (try dsimp only at hSw); go_simp; first | done | with_reducible rfl)
          simp only [Act.put, List.setIfInBounds_toArray, List.set_cons_zero, List.set_cons_succ]
          refine wpAnyH_take (i := 10) (oi := { dst := some 154, op := Op.pick (Operand.tmp 151) (Operand.tmp 153) (Operand.const (Value.bool false)), type := 4, pos := "law.go:103", after := #[{ on := 7, ground := Ground.data }, { on := 9, ground := Ground.data }], guard := none }) (v := ?vtel229) rfl (by kernel_rfl) (by kernel_rfl) (by kernel_rfl) (fun _ _ _ h => h) (Or.inl ⟨by rfl, ?ytel229⟩) hk ?rtel229
          case ytel229 => (intro w hSw; (try dsimp only at hSw); go_simp; first | done | with_reducible rfl)
          simp only [Act.put, List.setIfInBounds_toArray, List.set_cons_zero, List.set_cons_succ]
          refine wpAnyH_take (i := 11) (oi := { dst := some 10, op := Op.assign (Operand.tmp 154), type := 4, pos := "law.go:103", after := #[{ on := 10, ground := Ground.data }, { on := 7, ground := Ground.chain }, { on := 0, ground := Ground.phase }, { on := 1, ground := Ground.phase }, { on := 2, ground := Ground.phase }, { on := 3, ground := Ground.phase }, { on := 4, ground := Ground.phase }, { on := 5, ground := Ground.phase }, { on := 6, ground := Ground.phase }, { on := 7, ground := Ground.phase }, { on := 8, ground := Ground.phase }, { on := 9, ground := Ground.phase }, { on := 10, ground := Ground.phase }], guard := none }) (v := ?vtel2210) rfl (by kernel_rfl) (by kernel_rfl) (by kernel_rfl) (fun _ _ _ h => h) (Or.inl ⟨by rfl, ?ytel2210⟩) hk ?rtel2210
          case ytel2210 => (intro w hSw; (try dsimp only at hSw); go_simp; first | done | with_reducible rfl)
          simp only [Act.put, List.setIfInBounds_toArray, List.set_cons_zero, List.set_cons_succ]
          refine wpAnyH_done (by decide +kernel) ?_ _
          have hlow := hk.2
          clear hk hhe
          go_wp2
          go_ret
          exact ⟨rfl, hlow⟩
end Go.Proofs.YtbednfacipphhaaDoor
