/- For every key, every list of entries and every entry more the law LedgerStays returns true and what came in reads as it did (P21.4): nothing that is added changes a text or a head that was told, and what is refused changes nothing. The package's table is as the program's text lays it (the card ties it). -/
import Derived.Test.YtbednfacipphhaaDoorDoor
import Derived.Test.YtbednfacipphhaaDoorLdFill
import Derived.Test.YtbednfacipphhaaDoorAuax
import Derived.Test.YtbednfacipphhaaDoorAuaa
import Derived.Test.YtbednfacipphhaaDoorAuac
import Derived.Test.YtbednfacipphhaaDoorHsMem
import Derived.Test.YtbednfacipphhaaDoorHdEq
import Derived.Test.YtbednfacipphhaaDoorAuba
import Derived.WalkKit
import Derived.ShutString
import Derived.ChangeOld
import Derived.Below
namespace Go.Proofs.YtbednfacipphhaaDoor.ledgerStays
open Go.ChangeShapes Go.WideShapes Go.ChangeAt Go.RowKit
open Go.ChangeMaps (open_string shut_string)
set_option linter.unusedVariables false

theorem laidOut : laidOutB Tryd.prog = true := by kernel_rfl

/-- the head of the first n texts -/
def hN (KY : List Int) (T : List (List Int)) (n : Nat) : Hd := sgn KY (hdD (leavesL (T.take n) 256))
theorem hN_dg (KY : List Int) (T : List (List Int)) (n : Nat) : HdD (hN KY T n) := sgn_digs (hdD_dg _ (leavesL_dg _ _))
theorem hN_n (KY : List Int) (T : List (List Int)) (n : Nat) (h : n ≤ T.length) : (hN KY T n).n = (n : Int) := by
  show ((leavesL (T.take n) 256).length : Int) = n
  rw [leavesL_len, List.length_take, Nat.min_eq_left h]
theorem hN_head (KY : List Int) (T : List (List Int)) (n : Nat) (h : n ≤ T.length) : headT KY T (n : Int) = (hN KY T n, 0) := by
  rw [headT_yes ⟨Int.natCast_nonneg n, by omega⟩, Int.toNat_natCast]; rfl
theorem hN_sign (KY : List Int) (T : List (List Int)) (n : Nat) : decide ((hN KY T n).G = macL KY (headL (hN KY T n))) = true := decide_eq_true rfl
theorem hN_R (KY : List Int) (T : List (List Int)) (n : Nat) : (hN KY T n).R = rootL (leavesL (T.take n) 256) 256 := rfl
theorem tN (T : List (List Int)) (i : Nat) (h : i < T.length) : textT T (i : Int) = (T.getD i [], 0) := by unfold textT; rw [if_neg (by omega), Int.toNat_natCast]
theorem pN (T : List (List Int)) (i n : Nat) (h : i < n) (hn : n ≤ T.length) : pathT T (i : Int) (n : Int) = (pathL (leavesL (T.take n) 256) i 256, 0) := by unfold pathT; rw [if_neg (by omega), Int.toNat_natCast, Int.toNat_natCast]
theorem gN (T : List (List Int)) (i n : Nat) (h : i < n) (hn : n ≤ T.length) : growT T ((i : Int) + 1) (n : Int) = (growL (leavesL (T.take n) 256) (i + 1) true 256, 0) := by unfold growT; rw [if_neg (by omega), Int.toNat_natCast, show ((i : Int) + 1).toNat = i + 1 from by omega]
theorem hN_head1 (KY : List Int) (T : List (List Int)) (i : Nat) (h : i < T.length) : headT KY T ((i : Int) + 1) = (hN KY T (i + 1), 0) := hN_head KY T (i + 1) h
/-- the heads of all beginnings -/
def hQ (KY : List Int) (T : List (List Int)) (n : Nat) : List HC := (List.range n).map (fun j => ⟨hN KY T j, hN_dg KY T j⟩)
theorem hQ_len (KY : List Int) (T : List (List Int)) (n : Nat) : (hQ KY T n).length = n := by unfold hQ; rw [List.length_map, List.length_range]
theorem hQ_more (KY : List Int) (T : List (List Int)) (n : Nat) : hQ KY T (n + 1) = hQ KY T n ++ [⟨hN KY T n, hN_dg KY T n⟩] := by unfold hQ; rw [List.range_succ, List.map_append]; rfl
theorem hQ_at (KY : List Int) (T : List (List Int)) (n j : Nat) (h : j < (hQ KY T n).length) : (hQ KY T n)[j].h = hN KY T j := by
  have e : (hQ KY T n)[j]? = some ⟨hN KY T j, hN_dg KY T j⟩ := by
    have hj : j < n := by rw [hQ_len] at h; exact h
    unfold hQ
    rw [List.getElem?_map, List.getElem?_range hj]; rfl
  rw [List.getElem?_eq_getElem h] at e
  rw [Option.some.inj e]
theorem hQ_cells (KY : List Int) (T : List (List Int)) (n j : Nat) (h : j < (hQ KY T n).length) : hcC (hQ KY T n)[j] = hdC (hN KY T j) := by unfold hcC; rw [hQ_at]
theorem hd_parts1 : ∃ i0, Tryd.prog.info? 47 = some i0 ∧ i0.zero = some (.agg (hdA hd0)) ∧ i0.size = 97 ∧ i0.bytes = 104 := by
  have h : (Tryd.prog.info? 47).map (fun i => (i.zero, i.size, i.bytes)) = some (some (.agg (hdA hd0)), 97, 104) := by kernel_rfl
  obtain ⟨i0, hi, h1⟩ := Option.map_eq_some_iff.1 h
  simp only [Prod.mk.injEq] at h1
  exact ⟨i0, hi, h1.1, h1.2.1, h1.2.2⟩
/-- '[]Head{h}' -/
theorem wpList_build_h1 {ops : Array Oper} {rest : List Oper} {o : Oper} {a : Act} {w : World} {R : Exit → Act → World → Prop} (hgd : o.guard = none) (x : Operand) (ho : o.op = .buildSlice 67 1 #[(0, x)]) (h : Hd) (hd : HdD h) (hx : a.eval x = .agg (hdA h))
    (k : wpList Tryd.prog ops R rest (a.put o.dst (.slice (some ⟨w.heap.size, 0, none⟩) 1 1)) (w.alloc (.cells (hdA h) 47))) : wpList Tryd.prog ops R (o :: rest) a w :=
  wpList_plain hgd fun K hK => by
    obtain ⟨i0, hi, hz0, hz1, hz2⟩ := hd_parts1
    have hb := build_one_of 67 47 97 i0 _ Tryd.underlying67 hi hz0 hz1 (by rw [hz2]; decide) (by decide) (by decide) (hdC h) (hdC_len hd) w
    unfold Oper.wp execOp
    have hx2 : a.eval x = .agg (hdC h).toArray := hx
    simp [ho, hx2, hb]
    exact hK _ _ k
/-- texts elsewhere stay while the ledger's variable is written over -/
theorem txs_kept_g {w w' : World} {own : Nat → Prop} {g : Nat} {K : List Int} {T0 T : List (List Int)} {a : Option Addr} {n c : Nat} (h : Txs w a n c T) (hl : Lg w own g K T0) (hk : Kept (fun b => b = g) w w') (ha : ∀ p, a = some p → p.block ≠ g) : Txs w' a n c T :=
  ⟨h.len_eq, h.le_cap, h.cap_le, fun hp => by
    obtain ⟨b, off, e, hlt, hc⟩ := h.spot hp
    refine ⟨b, off, e, Nat.lt_of_lt_of_le hlt hk.size, fun i hi => ?_⟩
    obtain ⟨ai, li, ci, e1, e2⟩ := hc i hi
    exact ⟨ai, li, ci, (World.cell?_of_block (w := w) (hk.block b hlt (ha _ e))).trans e1, e2.kept hk (fun hp2 p2 e3 => hl.far e2 hp2 p2 e3)⟩⟩
theorem txs_take {w : World} {a : Option Addr} {n c m : Nat} {T : List (List Int)} (h : Txs w a n c T) (hm : m ≤ n) : Txs w a m c (T.take m) :=
  ⟨by rw [List.length_take, h.len_eq]; omega, Nat.le_trans hm h.le_cap, h.cap_le, fun hp => by
    obtain ⟨b, off, e, hlt, hc⟩ := h.spot (by omega)
    refine ⟨b, off, e, hlt, fun i hi => ?_⟩
    rw [List.getD_eq_getElem?_getD, List.getElem?_take, if_pos hi, ← List.getD_eq_getElem?_getD]
    exact hc i (by omega)⟩
theorem txs_size (w : World) : (Go.sizeOf (Tryd.prog.elem 28)).run Tryd.prog w = .ok 1 w := by kernel_rfl
theorem txs_under : Tryd.prog.underlying 28 = some (.slice (Tryd.prog.elem 28)) := by kernel_rfl
/-- l[:k] -/
theorem txs_cut (a : Option Addr) (len cap k : Nat) (hk : k ≤ cap) (hl : len ≤ cap) (ha : a = none → cap = 0) (w : World) : (Instr.sliceAt 28 (.slice a len cap) none (some (.int .i64 (k : Int))) none).run Tryd.prog w = .ok (.slice a k cap) w := by
  cases a with
  | none =>
    obtain rfl : cap = 0 := ha rfl
    obtain rfl : k = 0 := by omega
    obtain rfl : len = 0 := by omega
    kernel_rfl
  | some ad =>
    rw [run_sliceAt_slice w _ _ _ _ _ txs_under, run_slice_h w _ _ len cap txs_under .i64 k (by omega) (by omega), txs_size]
    simp [sliced, Addr.add]
theorem hN_pre {KY : List Int} {T T' : List (List Int)} {m n : Nat} (h : T'.take m = T) (hn : n ≤ m) : hN KY T' n = hN KY T n := by
  unfold hN
  rw [← h, List.take_take, Nat.min_eq_left hn]

set_option maxRecDepth 100000 in
set_option maxHeartbeats 1000000 in
theorem walk (a0 : Option Addr) (len0 cap0 : Nat) (k : List Int) (a1 : Option Addr) (len1 cap1 : Nat) (l : List EC) (more : En) (ea2 : Option Addr) (el2 ec2 : Nat) (w : World) (hk : Bts w a0 len0 cap0 k) (hl : Ens w a1 len1 cap1 l ∧ EnsOk w l) (hmore : EnI w more ea2 el2 ec2) (htab : Tab w) :
    Calls Tryd.prog 6 #[.slice a0 len0 cap0, .slice a1 len1 cap1, .agg (enA more ea2 el2 ec2)] w fun e w' => e = .returned (.bool true) ∧ Below w.heap.size w w' := by
  have HMI := Bx.mk hmore
  have hb0 : Below w.heap.size w (w.alloc (.cells (enA more ea2 el2 ec2) 35)) := (Below.refl _ _).alloc (Nat.le_refl _) _
  have HR0 := Bx.mk (EnB.new (a := ea2) (n := el2) (c := ec2) w hmore.dig)
  have HB0 := Bx.mk hb0
  have HT := Bx.mk (htab.below hb0)
  have HW := Bx.mk htab
  have HLI := Bx.mk (And.intro (hl.1.below hb0) (hl.2.below hb0))
  have HK0 := Bx.mk (hk.below hb0)
  obtain ⟨g5, HG5⟩ : ∃ g5, Bx (g5 = w.heap.size) := ⟨_, ⟨rfl⟩⟩
  rw [← HG5.out] at HR0
  clear hl htab hk hb0 hmore
  go_enter Tryd.func6, Tryd.ntmps6
  go_upto_region 1 with fail
  rw [← HG5.out]
  generalize w.alloc (.cells (enA more ea2 el2 ec2) 35) = w0 at HR0 HB0 HT HLI HK0 ⊢
  go_wp2_with fail
  refine (cut_any a0 len0 cap0 100 k _ HK0.out (by decide)).mono ?_
  rintro x wz ⟨⟨n0, rfl, hkey⟩, hwz⟩
  subst hwz
  have HKL : Bx (n0 ≤ 1000000) := ⟨by have := hkey.len_eq; rw [List.length_take] at this; omega⟩
  generalize k.take 100 = KY at hkey
  have HKEY := Bx.mk hkey
  clear hkey HK0
  go_wp2_with fail
  refine (numbered21_any a1 len1 cap1 12 l _ HLI.out.1 HLI.out.2 (by decide)).mono ?_
  rintro x w1 ⟨v1, R, rfl, ho1, hnq, hR12⟩
  obtain ⟨⟨la, lc, rfl, hls⟩, hlo⟩ := ho1.ens
  have HB1 := Bx.mk ho1.low
  have HLS := Bx.mk hls
  have HLO := Bx.mk hlo
  have HNQ := Bx.mk hnq
  have HK1 := Bx.mk (HKEY.out.below ho1.low)
  clear ho1 hls hlo hnq
  go_wp2_with fail
  refine (filled21_any a0 n0 cap0 KY la R.length lc R _ HK1.out HKL.out HLS.out HLO.out HNQ.out (by omega)).mono ?_
  rintro x wf ⟨g, own, rfl, hlg, hown, hbf⟩
  have HLG := Bx.mk hlg
  have HGW : Bx (w0.heap.size ≤ g) := ⟨Nat.le_trans HB1.out.size (hown g hlg.og)⟩
  have HBF := Bx.mk (bstep HB1.out hbf)
  have HTF := Bx.mk (HT.out.below HBF.out)
  have HRF := Bx.mk (HR0.out.below HBF.out)
  have HTL : Bx ((txQ R).length = R.length) := ⟨txQ_len R⟩
  generalize txQ R = T at HLG HTL
  generalize R.length = m at HTL hR12
  clear hlg hown hbf HKEY HK1 HLS HLO HNQ HB1 HR0
  go_wp2_with fail
  refine (texts21_any own g KY T _ HLG.out).mono ?_
  rintro x wt ⟨vw, rfl, hot⟩
  obtain ⟨wa, wc, rfl, hwt⟩ := hot.txs
  rw [HTL.out] at hwt ⊢
  have HFW : Bx (∀ p, wa = some p → p.block ≠ g) := ⟨fun p e => by
    obtain ⟨xs, hxo, _⟩ := hot.own
    have h1 := (hxo.lt p.block (by rw [e]; rfl)).1
    have h2 := HLG.out.glt
    omega⟩
  have HWT := Bx.mk hwt
  have HBT := Bx.mk hot.low
  clear hot hwt
  have HLT := Bx.mk (HLG.out.below HBT.out)
  have HTT := Bx.mk (HTF.out.below HBT.out)
  have HRT := Bx.mk (HRF.out.below HBT.out)
  have HBWT := Bx.mk (bstep HBF.out HBT.out)
  have HO0 : Bx (wt.ownsRow wt.heap.size 47 97 (.slice none 0 0) 0 ((hQ KY T 0).flatMap hcC)) := ⟨World.ownsRow_nil _ _ _ _⟩
  clear HLG HTF HRF HBF HBT HT
  go_wp2_with fail
  go_loopw [9, 10] (fun v i wr => ∃ n : Nat, n ≤ m + 1 ∧ i = .int .i64 n ∧ Bx (wr.ownsRow wt.heap.size 47 97 v n ((hQ KY T n).flatMap hcC)) ∧ Bx (Below wt.heap.size wt wr)) (fun _ i _ => m + 1 - (intOf i).toNat)
  case atStart => exact ⟨0, Nat.zero_le _, rfl, HO0, ⟨Below.refl _ _⟩⟩
  case round =>
    clear HO0
    obtain ⟨n, hn, rfl, HO, HB⟩ := hrel
    obtain ⟨vO, hvO⟩ : ∃ x, x = u9 := ⟨_, rfl⟩
    subst hvO
    by_cases hnm : n ≤ m
    · have g1 : (n : Int) ≤ (m : Int) := by omega
      --<
      have HH := Bx.mk (hN_head KY T n (by rw [HTL.out]; exact hnm))
      have HHD := Bx.mk (hN_dg KY T n)
      have HMO := Bx.mk (hQ_more KY T n)
      go_wp2_with fail
      refine (head21_any own g KY T (n : Int) _ (HLT.out.below HB.out) (HTT.out.below HB.out)).mono ?_
      rintro x w2 ⟨rfl, hb2⟩
      have HB2 := Bx.mk (bstep HB.out hb2)
      have HO2 := Bx.mk (owns_below HO.out hb2)
      rw [HH.out]
      have HMO2 : Bx ((hQ KY T (n + 1)).flatMap hcC = (hQ KY T n).flatMap hcC ++ hdC (hN KY T n)) := ⟨by rw [HMO.out, List.flatMap_append]; simp [hcC]⟩
      clear hb2 HH HO HB HMO
      generalize hN KY T n = H at HHD HMO2 ⊢
      obtain ⟨hv, hbv, hth⟩ := hd_var w2 HHD.out
      have HTH := Bx.mk hth
      have HIH := Bx.mk (hdA_info HHD.out)
      have HOH : Bx ((hdA H).all (·.oneCell') = true) := ⟨hdA_one⟩
      have hzv := hd0_run
      have HV11 := Bx.mk hv
      have HBV := Bx.mk hbv
      clear hv hbv hth
      go_upto_region 12 with (refine wpList_store_mid rfl 47 (.tmp 11) (.tmp 38) rfl w2.heap.size 0 (hdA H) rfl rfl ?hta HIH.out HOH.out ?_; (case hta => exact HTH.out))
      clear hzv HTH HIH HOH
      obtain ⟨g11, HGa⟩ : ∃ x, Bx (x = w2.heap.size) := ⟨_, ⟨rfl⟩⟩
      rw [← HGa.out] at HV11 ⊢
      have HBV' : Bx (Below w2.heap.size w2 ((w2.alloc (.cells (hdA hd0) 47)).setCells g11 0 (hdA H).toList)) := ⟨by rw [HGa.out]; exact HBV.out⟩
      clear HBV HGa
      generalize (w2.alloc (.cells (hdA hd0) 47)).setCells g11 0 (hdA H).toList = w3 at HV11 HBV' ⊢
      have HB3 := Bx.mk (bstep HB2.out HBV'.out)
      have HO3 := Bx.mk (owns_below HO2.out HBV'.out)
      clear HB2 HO2 HBV'
      obtain ⟨i0, hi, hz0, hz1, hz2⟩ := hd_parts1
      have hOA := HO3.out.alloc (.cells (hdA H) 47)
      have hbA : Below wt.heap.size wt (w3.alloc (.cells (hdA H) 47)) := HB3.out.alloc HB3.out.size _
      have hsz := hbA.size
      have HVB : Bx (∀ j, vO.ownBlock = some j → wt.heap.size ≤ j) := ⟨fun j hj => (HO3.out.lt j hj).1⟩
      have HNW := Bx.mk (World.news_of_block (heap_alloc_new w3 (.cells (hdA H) 47)))
      have HNL : Bx ((hdA H).toList.length = 1 * 97) := ⟨by rw [Array.length_toList, hdA_size HHD.out]⟩
      have HN1 : Bx (∀ u ∈ (hdA H).toList, u.oneCell' = true) := ⟨hdC_one⟩
      have HBA := Bx.mk hbA
      clear hbA
      go_wp2_with (first
        | (refine wpList_load_hd rfl (.tmp 11) rfl rfl HV11.out ?_)
        | (refine wpList_build_h1 rfl (.tmp 41) rfl H HHD.out rfl ?_)
        | (at_builtin; refine wpList_append_own _ rfl _ _ 67 rfl wt.heap.size 47 i0 (.agg (hdA hd0)) 97 104 Tryd.underlying67 hi hz0 hz1 hz2 (hdA_size hd0_dg) (by decide) _ n _ rfl hOA ⟨w3.heap.size, 0, none⟩ 1 1 (hdA H).toList rfl HNL.out HNW.out HN1.out ?c1 ?c2 hsz ?_; (case c1 => unfold maxLen; omega); (case c2 => omega); intro v9 w9 ho9 hg9 _))
      have HO9 : Bx (w9.ownsRow wt.heap.size 47 97 v9 (n + 1) ((hQ KY T (n + 1)).flatMap hcC)) := ⟨by rw [HMO2.out]; exact ho9⟩
      have HB9 : Bx (Below wt.heap.size wt w9) := ⟨HBA.out.grown hg9 HBA.out.size (fun j hj => HVB.out j hj)⟩
      clear ho9 hg9 hOA hsz hi hz0 hz1 hz2
      go_wp2_with fail
      go_roundw
      case rel => exact ⟨n + 1, by omega, by go_num, HO9, HB9⟩
      case measure => simp [intOf]; omega
      -->
    · have g1 : ¬ (n : Int) ≤ (m : Int) := by omega
      obtain rfl : n = m + 1 := by omega
      obtain ⟨wo, hwo⟩ : ∃ wo, wo = wr := ⟨_, rfl⟩
      subst hwo
      obtain ⟨ha, hc, hvo, hhs⟩ := Ls.of_owns hcC_len HO.out (hQ_len KY T (m + 1))
      subst hvo
      have HHS := Bx.mk hhs
      have HFH : Bx (∀ p, ha = some p → p.block ≠ g) := ⟨fun p e => by
        have h1 := (HO.out.lt p.block (by rw [e]; rfl)).1
        have h2 := HLT.out.glt
        omega⟩
      have HRo := Bx.mk (HRT.out.below HB.out)
      have HLo := Bx.mk (HLT.out.below HB.out)
      have HWo := Bx.mk (HWT.out.below HB.out)
      have HBo := Bx.mk (bstep (bstep HB0.out HBWT.out) HB.out)
      clear hhs HO HRT HLT HWT HBWT HTT HB
      go_wp2_with (refine wpList_load_en rfl (.tmp 5) rfl rfl HRo.out ?_)
      refine (cut20_any more ea2 el2 ec2 _ (HMI.out.iv.below HBo.out) HMI.out.dig).mono ?_
      rintro x w3 ⟨ca, cn, cc, rfl, hco, hb3⟩
      have HDC : Bx (EnD (cutE more)) := ⟨HMI.out.dig⟩
      have HIC := Bx.mk (iv_ofN hco)
      have HB3 := Bx.mk (bstep HBo.out hb3)
      have HL3 := Bx.mk (HLo.out.below hb3)
      have HW3 := Bx.mk (HWo.out.below hb3)
      have HH3 := Bx.mk (HHS.out.below hb3)
      clear hco hb3 HRo HLo HWo HBo HHS
      generalize cutE more = ce at HDC HIC ⊢
      go_wp2_with fail
      refine (add21_any own g KY T ce ca cn cc _ HL3.out HIC.out HDC.out).mono ?_
      rintro x wA ⟨rfl, own', hlA, hkA, _⟩
      have HAL := Bx.mk (addT_len T ce)
      have HTP : Bx ((addT T ce).1.take m = T) := ⟨by have := addT_pre T ce; rwa [HTL.out] at this⟩
      have HWA := Bx.mk (txs_kept_g HW3.out HL3.out hkA HFW.out)
      have HHA : Bx (Hds wA ha (m + 1) hc (hQ KY T (m + 1))) := ⟨HH3.out.keep (fun p e hlt => hkA.block _ hlt (HFH.out p e)) hkA.size⟩
      have HBA : Bx (Below w.heap.size w wA) := ⟨((Kept.of_below HB3.out).trans' hkA).low (fun j hj => by rw [hj]; exact Nat.le_trans HB0.out.size HGW.out) (Nat.le_refl _)⟩
      have HTA := Bx.mk (HW.out.below HBA.out)
      generalize (addT T ce).2 = er at HAL ⊢
      generalize (addT T ce).1 = T' at HAL HTP hlA
      have HLA := Bx.mk hlA
      have HTM : Bx (m ≤ T'.length) := ⟨by
        have h1 := congrArg List.length HTP.out
        rw [List.length_take, HTL.out] at h1
        omega⟩
      have hsz := size21_yes hlA
      clear hlA hkA HIC HDC HB3 HL3 HW3 HH3 HFW HFH HMI HW HB0 HG5
      have HLN : Bx ((er = 0 ∧ T'.length = m + 1) ∨ (er ≠ 0 ∧ T'.length = m)) := ⟨by
        rcases HAL.out with h | h
        · exact .inl ⟨h.1, by rw [h.2, HTL.out]⟩
        · exact .inr ⟨h.1, by rw [h.2, HTL.out]⟩⟩
      clear HAL
      go_upto_region 14 with fail
      go_cut [67] from 48 to 67 (fun s wx => s = .bool false ∧ wA = wx)
      case first =>
        --<
        rcases HLN.out with ⟨rfl, hL⟩ | ⟨her, hL⟩
        · rw [hL] at hsz
          have q2 : (((m + 1 : Nat) : Int) == (m : Int) + 1) = true := by simp
          go_wp2_with fail
          refine hsz.mono ?_
          rintro x wz ⟨rfl, hwz⟩
          subst hwz
          go_wp2_with fail
          go_meet
          case rel => exact ⟨rfl, rfl⟩
        · rw [hL] at hsz
          have q1 : (er == 0) = false := beq_false_of_ne her
          have q2 : ((m : Int) == (m : Int) + 1) = false := beq_false_of_ne (by omega)
          have q3 : (er != 0) = true := by simp [her]
          clear her
          go_wp2_with fail
          refine hsz.mono ?_
          rintro x wz ⟨rfl, hwz⟩
          subst hwz
          go_wp2_with fail
          refine hsz.mono ?_
          rintro x wz ⟨rfl, hwz⟩
          subst hwz
          go_wp2_with fail
          go_meet
          case rel => exact ⟨rfl, rfl⟩
        -->
      obtain ⟨rfl, hwc⟩ := hcut
      subst hwc
      clear hsz HLN
      go_wp2_with fail
      go_loopw [14] (fun i wr => ∃ n : Nat, n ≤ m + 1 ∧ i = .int .i64 n ∧ Bx (Below wA.heap.size wA wr)) (fun i _ => m + 1 - (intOf i).toNat)
      case atStart => exact ⟨0, Nat.zero_le _, rfl, ⟨Below.refl _ _⟩⟩
      case round =>
        obtain ⟨n, hn, rfl, HB⟩ := hrel
        by_cases hnm : n ≤ m
        · have g1 : (n : Int) ≤ (m : Int) := by omega
          have g3 : (n : Int) < ((m + 1 : Nat) : Int) := by omega
          have g4 : n < m + 1 := by omega
          have g6 : (n : Int) < (m : Int) + 1 := by omega
          have HH : Bx (headT KY T' (n : Int) = (hN KY T n, 0)) := ⟨by rw [hN_head KY T' n (by have := HTM.out; omega), hN_pre HTP.out hnm]⟩
          have HHD := Bx.mk (hN_dg KY T n)
          have hqn : n < (hQ KY T (m + 1)).length := by rw [hQ_len]; exact g4
          obtain ⟨b, off, hab, _, hr⟩ := HHA.out.hc n hqn
          have HRR : Bx (wA.rangeAt b (off + n * 97) (hdC (hN KY T n))) := ⟨by rw [← hQ_cells KY T (m + 1) n hqn]; exact hr⟩
          have HBL : Bx (b < wA.heap.size) := ⟨by
            obtain ⟨b2, off2, e2, hlt2, _⟩ := HHA.out.spot (Nat.succ_pos _)
            rw [hab] at e2; cases e2; exact hlt2⟩
          subst hab
          clear hr hqn
          go_wp2_with fail
          refine (head21_any own' g KY T' (n : Int) _ (HLA.out.below HB.out) (HTA.out.below HB.out)).mono ?_
          rintro x w4 ⟨rfl, hb4⟩
          rw [HH.out]
          have HB4 := Bx.mk (bstep HB.out hb4)
          clear hb4 HH HB
          generalize hN KY T n = H at HHD HRR ⊢
          obtain ⟨hv, hbv, hth⟩ := hd_var w4 HHD.out
          have HTH := Bx.mk hth
          have HIH := Bx.mk (hdA_info HHD.out)
          have HOH : Bx ((hdA H).all (·.oneCell') = true) := ⟨hdA_one⟩
          have hzv := hd0_run
          have HV15 := Bx.mk hv
          have HBW := Bx.mk hbv
          clear hv hbv hth
          go_upto_region 20 with (refine wpList_store_mid rfl 47 (.tmp 15) (.tmp 78) rfl w4.heap.size 0 (hdA H) rfl rfl ?htc HIH.out HOH.out ?_; (case htc => exact HTH.out))
          clear hzv HTH HIH HOH
          obtain ⟨g15, HGc⟩ : ∃ x, Bx (x = w4.heap.size) := ⟨_, ⟨rfl⟩⟩
          rw [← HGc.out] at HV15 ⊢
          have HBW' : Bx (Below w4.heap.size w4 ((w4.alloc (.cells (hdA hd0) 47)).setCells g15 0 (hdA H).toList)) := ⟨by rw [HGc.out]; exact HBW.out⟩
          clear HBW HGc
          generalize (w4.alloc (.cells (hdA hd0) 47)).setCells g15 0 (hdA H).toList = w5 at HV15 HBW' ⊢
          have HB5 := Bx.mk (bstep HB4.out HBW'.out)
          have hk : HdB w5.drew g15 H ∧ w5.drew.rangeAt b (off + n * 97) (hdC H) := ⟨HV15.out.keep rfl, range_below HRR.out HB5.out.drew HBL.out⟩
          have hhe : ∀ W : World, (Op.equalIn 10000 47 (.agg (hdC H).toArray) (.agg (hdC H).toArray)).run Tryd.prog W = .ok true W := fun W => hd_eq HHD.out W
          clear HB4 HV15 HBW' HRR
          refine wp_region_held_drew (S := fun W => HdB W g15 H ∧ W.rangeAt b (off + n * 97) (hdC H)) (by kernel_rfl) hk (fun _ => ?_)
          refine wpAnyH_take (i := 0) (oi := { dst := some 80, op := Op.move (Operand.tmp 16), type := 39, pos := "law.go:162", after := #[], guard := none }) (v := ?vlst201) rfl (by kernel_rfl) (by kernel_rfl) (by kernel_rfl) (fun _ _ _ h => h) (Or.inl ⟨by rfl, ?ylst201⟩) hk ?rlst201
          case ylst201 => (intro w hSw; (try dsimp only at hSw); go_simp; first | done | with_reducible rfl)
          simp only [Act.put, List.setIfInBounds_toArray, List.set_cons_zero, List.set_cons_succ]
          refine wpAnyH_take (i := 1) (oi := { dst := some 81, op := Op.binOp BinOp.neq 39 (Operand.tmp 80) (Operand.const (Value.int IntKind.i64 0)) 39, type := 4, pos := "law.go:162", after := #[{ on := 0, ground := Ground.data }], guard := none }) (v := ?vlst202) rfl (by kernel_rfl) (by kernel_rfl) (by kernel_rfl) (fun _ _ _ h => h) (Or.inl ⟨by rfl, ?ylst202⟩) hk ?rlst202
          case ylst202 => (intro w hSw; (try dsimp only at hSw); go_simp; first | done | with_reducible rfl)
          simp only [Act.put, List.setIfInBounds_toArray, List.set_cons_zero, List.set_cons_succ]
          refine wpAnyH_take (i := 2) (oi := { dst := some 82, op := Op.move (Operand.tmp 81), type := 4, pos := "law.go:162", after := #[{ on := 1, ground := Ground.data }], guard := none }) (v := ?vlst203) rfl (by kernel_rfl) (by kernel_rfl) (by kernel_rfl) (fun _ _ _ h => h) (Or.inl ⟨by rfl, ?ylst203⟩) hk ?rlst203
          case ylst203 => (intro w hSw; (try dsimp only at hSw); go_simp; first | done | with_reducible rfl)
          simp only [Act.put, List.setIfInBounds_toArray, List.set_cons_zero, List.set_cons_succ]
          refine wpAnyH_take (i := 3) (oi := { dst := some 83, op := Op.load 47 (Operand.tmp 15), type := 47, pos := "law.go:162", after := #[{ on := 2, ground := Ground.guard }], guard := some (2, false) }) (v := .agg (hdC H).toArray) rfl (by kernel_rfl) (by kernel_rfl) (by kernel_rfl) (fun _ _ _ h => h) (yieldsIf_load_mid (by rfl) 47 (.tmp 15) rfl g15 0 rfl (hdC H) _ (fun (W : World) (hW : HdB W g15 H ∧ W.rangeAt b (off + n * 97) (hdC H)) => hW.1.range) Tryd.underlying47 rfl (hdC_info HHD.out)) hk ?_
          simp only [Act.put, List.setIfInBounds_toArray, List.set_cons_zero, List.set_cons_succ]
          refine wpAnyH_take (i := 4) (oi := { dst := some 84, op := Op.move (Operand.tmp 9), type := 67, pos := "law.go:162", after := #[{ on := 2, ground := Ground.guard }], guard := some (2, false) }) (v := ?vlst204) rfl (by kernel_rfl) (by kernel_rfl) (by kernel_rfl) (fun _ _ _ h => h) (Or.inl ⟨by rfl, ?ylst204⟩) hk ?rlst204
          case ylst204 => (intro w hSw; (try dsimp only at hSw); go_simp; first | done | with_reducible rfl)
          simp only [Act.put, List.setIfInBounds_toArray, List.set_cons_zero, List.set_cons_succ]
          refine wpAnyH_take (i := 5) (oi := { dst := some 85, op := Op.move (Operand.tmp 14), type := 3, pos := "law.go:162", after := #[{ on := 2, ground := Ground.guard }], guard := some (2, false) }) (v := ?vlst205) rfl (by kernel_rfl) (by kernel_rfl) (by kernel_rfl) (fun _ _ _ h => h) (Or.inl ⟨by rfl, ?ylst205⟩) hk ?rlst205
          case ylst205 => (intro w hSw; (try dsimp only at hSw); go_simp; first | done | with_reducible rfl)
          simp only [Act.put, List.setIfInBounds_toArray, List.set_cons_zero, List.set_cons_succ]
          refine wpAnyH_take (i := 6) (oi := { dst := some 86, op := Op.indexAddr 67 (Operand.tmp 84) (Operand.tmp 85), type := 0, pos := "law.go:162", after := #[{ on := 4, ground := Ground.data }, { on := 5, ground := Ground.data }, { on := 2, ground := Ground.guard }], guard := some (2, false) }) (v := ?vlst206) rfl (by kernel_rfl) (by kernel_rfl) (by kernel_rfl) (fun _ _ _ h => h) (Or.inl ⟨by rfl, ?ylst206⟩) hk ?rlst206
          case ylst206 => (intro w hSw; (try dsimp only at hSw); go_simp; first | done | with_reducible rfl)
          simp only [Act.put, List.setIfInBounds_toArray, List.set_cons_zero, List.set_cons_succ]
          refine wpAnyH_take (i := 7) (oi := { dst := some 87, op := Op.load 47 (Operand.tmp 86), type := 47, pos := "law.go:162", after := #[{ on := 6, ground := Ground.data }, { on := 2, ground := Ground.guard }], guard := some (2, false) }) (v := .agg (hdC H).toArray) rfl (by kernel_rfl) (by kernel_rfl) (by kernel_rfl) (fun _ _ _ h => h) (yieldsIf_load_mid (by rfl) 47 (.tmp 86) rfl b (off + n * 97) rfl (hdC H) _ (fun (W : World) (hW : HdB W g15 H ∧ W.rangeAt b (off + n * 97) (hdC H)) => hW.2) Tryd.underlying47 rfl (hdC_info HHD.out)) hk ?_
          simp only [Act.put, List.setIfInBounds_toArray, List.set_cons_zero, List.set_cons_succ]
          refine wpAnyH_take (i := 8) (oi := { dst := some 88, op := Op.binOp BinOp.neq 47 (Operand.tmp 83) (Operand.tmp 87) 47, type := 4, pos := "law.go:162", after := #[{ on := 3, ground := Ground.data }, { on := 7, ground := Ground.data }, { on := 2, ground := Ground.guard }], guard := some (2, false) }) (v := ?vlst207) rfl (by kernel_rfl) (by kernel_rfl) (by kernel_rfl) (fun _ _ _ h => h) (Or.inl ⟨by rfl, ?ylst207⟩) hk ?rlst207
          case ylst207 => (intro w hSw; (try dsimp only at hSw); go_simp; first | done | with_reducible rfl)
          simp only [Act.put, List.setIfInBounds_toArray, List.set_cons_zero, List.set_cons_succ]
          refine wpAnyH_take (i := 9) (oi := { dst := some 89, op := Op.pick (Operand.tmp 82) (Operand.const (Value.bool true)) (Operand.tmp 88), type := 4, pos := "law.go:162", after := #[{ on := 2, ground := Ground.data }, { on := 8, ground := Ground.data }], guard := none }) (v := ?vlst208) rfl (by kernel_rfl) (by kernel_rfl) (by kernel_rfl) (fun _ _ _ h => h) (Or.inl ⟨by rfl, ?ylst208⟩) hk ?rlst208
          case ylst208 => (intro w hSw; (try dsimp only at hSw); go_simp; first | done | with_reducible rfl)
          simp only [Act.put, List.setIfInBounds_toArray, List.set_cons_zero, List.set_cons_succ]
          refine wpAnyH_done (by decide +kernel) ?_ _
          have HB6 : Bx (Below wA.heap.size wA w5.drew) := ⟨HB5.out.drew⟩
          clear hk hhe HB5
          go_wp2
          go_roundw
          case rel => exact ⟨n + 1, by omega, by go_num, HB6⟩
          case measure => simp [intOf]; omega
        · have g1 : ¬ (n : Int) ≤ (m : Int) := by omega
          --<
          have HLr := Bx.mk (HLA.out.below HB.out)
          have HWr := Bx.mk (HWA.out.below HB.out)
          have HBr := Bx.mk (bstep HBA.out HB.out)
          clear HB
          go_wp2_with fail
          refine (texts21_any own' g KY T' _ HLr.out).mono ?_
          rintro x w6 ⟨v6, rfl, hot⟩
          obtain ⟨ta, tc, rfl, htx⟩ := hot.txs
          have hcap : ta = none → tc = 0 := fun e => by
            subst e
            obtain ⟨xs, hxo, _⟩ := hot.own
            rcases hxo.2 with ⟨h1, _⟩ | ⟨g9, c9, _, h1, _⟩
            · simp only [Value.slice.injEq] at h1
              exact h1.2.2
            · simp at h1
          have HTX := Bx.mk (txs_take htx HTM.out)
          have hct := txs_cut ta T'.length tc m (Nat.le_trans HTM.out htx.le_cap) htx.le_cap hcap
          rw [HTP.out] at HTX
          have HW6 := Bx.mk (HWr.out.below hot.low)
          have HB6 := Bx.mk (bstep HBr.out hot.low)
          clear hot htx hcap HLr HWr HBr
          go_wp2_with fail
          refine (tsame_yes ta wa m tc wc T _ HTX.out HW6.out).mono ?_
          rintro x w7 ⟨rfl, q, hw7⟩
          have HB7 : Bx (Below w.heap.size w w7) := ⟨by rw [hw7]; exact below_drewN HB6.out q⟩
          clear hw7 hct HTX HW6 HB6
          go_wp2_with fail
          refine (lives21_any _).mono ?_
          rintro x w8 ⟨rfl, hb8⟩
          have HB8 := Bx.mk (bstep HB7.out hb8)
          clear hb8
          go_wp2_with fail
          go_ret
          exact ⟨rfl, HB8.out⟩
          -->

set_option maxRecDepth 100000 in
/-- what the walk gives, for every argument and every world that holds the table -/
theorem contract (H : Type) (enc : TypeId × Value → H) (W : World) (base : Nat) (args : Array Value) (ds gs : List (DataW H)) (before : List MemPlace)
    (hval0 : ∀ (j : Nat) t v, Tryd.f6.params[j]? = some t → args[j]? = some v → Value.okWide Tryd.prog W .any base t v)
    (hW : DataW.Whole enc Tryd.prog Tryd.f6.params.toList Rows.ledgerStaysSpec.vars false W args.toList ds gs before) (hL : laidMetH Tryd.prog Rows.ledgerStaysRow.laid W) :
    Calls Tryd.prog 6 args W fun e W' => ∃ v, e = .returned v ∧ Rows.ledgerStaysSpec.post enc Tryd.prog Tryd.f6 false true false false W args v W' := by
  have htab := tab_of_laid hL
  have hval : ∀ (j : Nat) t v, Tryd.f6.params[j]? = some t → args[j]? = some v → Value.okWide Tryd.prog W .any base t v := hval0
  have hW' := hW
  obtain ⟨p, q, hA0, hV, rfl, hfz, hnd⟩ := hW
  have hA : DataW.TrodAll enc Tryd.prog W 0 (fun _ => true) true Tryd.f6.params.toList args.toList ds p := hA0
  rw [Tryd.params6] at hA hval
  obtain ⟨v0, vs0, d0, ds0, p0, q0, hargs, rfl, rfl, h0, r0⟩ := trodAll_cons hA
  obtain ⟨v1, vs1, d1, ds1, p1, q1, rfl, rfl, rfl, h1, r1⟩ := trodAll_cons r0
  obtain ⟨v2, vs2, d2, ds2, p2, q2, rfl, rfl, rfl, h2, r2⟩ := trodAll_cons r1
  obtain ⟨rfl, rfl, rfl⟩ := trodAll_nil r2
  obtain rfl : args = #[v0, v1, v2] := by cases args; simp_all
  obtain ⟨rfl, rfl⟩ := trodVars_none hV
  obtain ⟨a0, len0, cap0, rfl⟩ := okWide_slice Tryd.underlying22 (hval 0 22 v0 rfl rfl)
  obtain ⟨a1, len1, cap1, rfl⟩ := okWide_slice Tryd.underlying23 (hval 1 23 v1 rfl rfl)
  have k0 := h0
  have lt0 : ∀ x ∈ p0, x.block < W.heap.size := by obtain ⟨m, hm⟩ := k0; exact DataW.trod_lt m _ _ _ hm
  have k1 := h1
  have lt1 : ∀ x ∈ p1, x.block < W.heap.size := by obtain ⟨m, hm⟩ := k1; exact DataW.trod_lt m _ _ _ hm
  have k2 := h2
  have lt2 : ∀ x ∈ p2, x.block < W.heap.size := by obtain ⟨m, hm⟩ := k2; exact DataW.trod_lt m _ _ _ hm
  obtain ⟨k, hk⟩ := open_byt h0
  obtain ⟨l, hl⟩ := open_ens h1
  obtain ⟨more, ea2, el2, ec2, rfl, hmore⟩ := open_ent (hval 2 35 v2 rfl rfl) h2
  clear hA0 hval0
  refine (walk a0 len0 cap0 k a1 len1 cap1 l more ea2 el2 ec2 W hk hl hmore htab).mono fun e W' ⟨he, bel⟩ => ?_
  subst he
  exact ⟨_, rfl, _, _, _, [], _, [], hW', trodAll_mk1 (shut_bool Tryd.underlying4 _), (trodAll_cons_mk (Below.trod laidOut (by kernel_rfl) (of_decide_eq_true (by kernel_rfl)) k0 bel lt0) (trodAll_cons_mk (Below.trod laidOut (by kernel_rfl) (of_decide_eq_true (by kernel_rfl)) k1 bel lt1) (trodAll_cons_mk (Below.trod laidOut (by kernel_rfl) (of_decide_eq_true (by kernel_rfl)) k2 bel lt2) trodAll_mk0))), rfl, bel.frame _, fun h => by cases h⟩

set_option maxRecDepth 100000 in
theorem laid_met (os : Os) : laidMet Tryd.prog Rows.ledgerStaysRow.laid (({ World.holding Tryd.prog os ⟨#[], #[], []⟩ with heap := (World.holding Tryd.prog os ⟨#[], #[], []⟩).heap.setIfInBounds 0 (.cells (uv keyL).toArray 138) } : World).forCall (fun _ _ => 0) ⟨#[], #[.slice none 0 0, .slice none 0 0, .agg (enA en0 none 0 0)], []⟩).memory :=
  laidMet_of_run' 8 (by kernel_rfl) (by kernel_rfl)
set_option maxRecDepth 100000 in
theorem reads (os : Os) {H : Type} (enc : TypeId × Value → H) : ∃ places, DataW.whole enc Tryd.prog (({ World.holding Tryd.prog os ⟨#[], #[], []⟩ with heap := (World.holding Tryd.prog os ⟨#[], #[], []⟩).heap.setIfInBounds 0 (.cells (uv keyL).toArray 138) } : World).forCall (fun _ _ => 0) ⟨#[], #[.slice none 0 0, .slice none 0 0, .agg (enA en0 none 0 0)], []⟩).memory Tryd.f6.params.toList Rows.ledgerStaysSpec.vars false (#[.slice none 0 0, .slice none 0 0, .agg (enA en0 none 0 0)] : Array Value).toList 8 = some ([.nil, .nil, .agg [.lit (.int .i64 0), .lit (.int .i64 0), .agg (List.replicate 32 (.lit (.int .u8 0))), .agg (List.replicate 32 (.lit (.int .u8 0))), .agg [.lit (.int .i64 0), .nil, .lit (.int .i64 0)]]], [], places) :=
  ⟨[], by kernel_rfl⟩
set_option maxRecDepth 100000 in
theorem lifted (os : Os) (started : os.Started) (H : Type) (enc : TypeId × Value → H) (F : Stop.Interp) :
    ReturnsInHanded {} Tryd.checked os 6 .any ((OpenSpec.ofChange Rows.ledgerStaysSpec).preRow enc Tryd.prog Tryd.f6 Rows.ledgerStaysRow.domain false Rows.ledgerStaysRow.laid) (((OpenSpec.ofChange Rows.ledgerStaysSpec).at F).post enc Tryd.prog Tryd.f6 false true false false) := by
  obtain ⟨places, hx⟩ := reads os enc
  refine returnsInHanded_of_row (C := Tryd.checked) (s := OpenSpec.ofChange Rows.ledgerStaysSpec) own started (by kernel_rfl) Tryd.func6
    (witness_row_at (enc := enc) (C := Tryd.checked) false ({ World.holding Tryd.prog os ⟨#[], #[], []⟩ with heap := (World.holding Tryd.prog os ⟨#[], #[], []⟩).heap.setIfInBounds 0 (.cells (uv keyL).toArray 138) } : World) #[.slice none 0 0, .slice none 0 0, .agg (enA en0 none 0 0)] rfl (by kernel_rfl) (by kernel_rfl) (by kernel_rfl)
      (OpenSpec.preRow_of_cond 8 hx (by kernel_rfl) (fun k hk => by cases hk) (by kernel_rfl) (laid_met os))) ?_
  intro W base args ds gs before hval hW _ _ _ hL _ _
  exact contract H enc W base args ds gs before hval hW hL
theorem said : Rows.LedgerStaysSaid :=
  OpenClaim.holds_of_cond 6 Tryd.f6 rfl rfl rfl rfl rfl rfl rfl ⟨rfl, rfl, rfl, rfl, rfl⟩ rfl rfl rfl rfl rfl (by kernel_rfl) Tryd.func6 (by kernel_rfl)
    (of_decide_eq_true (by kernel_rfl)) (by unfold Func.isWrapper; first | (rw [if_pos (by decide +kernel)]; kernel_rfl) | (rw [if_neg (by decide +kernel)]; exact ⟨rfl, rfl⟩))
    (fun os started H enc _ F => by rw [OpenClaim.pre_eq_preRow]; exact lifted os started H enc F)
theorem plain (f : FuncId) (fn : Func) (hf : Tryd.pinned.checked.prog.funcNamed "inquest/inquestlaw21.LedgerStays" = some f) (hfn : Tryd.pinned.checked.prog.funcs[f]? = some fn) :
    false = Tryd.pinned.checked.prog.looks [] ∧ ∀ (j : Nat) t, fn.params[j]? = some t → Tryd.pinned.checked.prog.wantsStandIn t = false := by
  obtain rfl : f = 6 := Option.some.inj ((show Tryd.prog.funcNamed "inquest/inquestlaw21.LedgerStays" = some 6 by kernel_rfl).symm.trans hf) |>.symm
  obtain rfl : fn = Tryd.f6 := (Option.some.inj (Tryd.func6.symm.trans hfn)).symm
  refine ⟨by kernel_rfl, fun j t ht => ?_⟩
  rw [Tryd.params6] at ht
  have hall : ([22, 23, 35].all fun u => !Tryd.prog.wantsStandIn u) = true := by kernel_rfl
  have hm : t ∈ [22, 23, 35] := by simpa using Array.mem_of_getElem? ht
  exact (show Tryd.prog.wantsStandIn t = false by simpa using List.all_eq_true.1 hall t hm)
/-- the tied card -/
theorem card : Rows.LedgerStaysCardSaid :=
  Claim7.holds_tied_plain_at .later [] _ _ _ _ said (fun _ h => by cases h) (by kernel_rfl) (fun _ h => by cases h) ledgerStays_row_tie rfl ⟨rfl, rfl⟩ (by kernel_rfl) rfl plain (by kernel_rfl)
end Go.Proofs.YtbednfacipphhaaDoor.ledgerStays
namespace Go.Proofs.YtbednfacipphhaaDoor
theorem ledgerStays_holds : Rows.LedgerStaysCardSaid := ledgerStays.card
#print axioms ledgerStays_holds
end Go.Proofs.YtbednfacipphhaaDoor
