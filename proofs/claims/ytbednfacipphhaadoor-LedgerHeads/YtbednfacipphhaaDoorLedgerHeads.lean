/- For every key and every head the law LedgerHeads returns true and what came in reads as it did (P21.1): what is signed of any head, and which heads are signed by a key; nothing else of a head changes by that. The package's table is as the program's text lays it (the card ties it). -/
import Derived.Test.YtbednfacipphhaaDoorDoor
import Derived.Test.YtbednfacipphhaaDoorAuai
import Derived.Test.YtbednfacipphhaaDoorAuaj
import Derived.Test.YtbednfacipphhaaDoorAuax
import Derived.Test.YtbednfacipphhaaDoorLdLives
import Derived.Test.YtbednfacipphhaaDoorAuaa
import Derived.Test.YtbednfacipphhaaDoorHsMem
import Derived.Test.YtbednfacipphhaaDoorHdEq
import Derived.Test.YtbednfacipphhaaDoorAuan
import Derived.WalkKit
import Derived.ShutString
import Derived.ChangeOld
import Derived.Below
namespace Go.Proofs.YtbednfacipphhaaDoor.ledgerHeads
open Go.ChangeShapes Go.WideShapes Go.ChangeAt Go.RowKit
open Go.ChangeMaps (open_string shut_string)
set_option linter.unusedVariables false

theorem laidOut : laidOutB Tryd.prog = true := by kernel_rfl

/-- what holds to the end: the head, the wanted one, the sum, the key, the text -/
structure LHX (g3 g7 g6 : Nat) (h : Hd) (KY M : List Int) (a : Option Addr) (n c : Nat) (a5 : Option Addr) (c5 : Nat) (TX : List Int) (w W : World) : Prop where
  low : Below w.heap.size w W
  h3 : HdB W g3 h
  h7 : HdB W g7 ⟨h.n, h.R, h.C, M⟩
  d6 : DgV W g6 M
  key : Bts W a n c KY
  txt : Bts W a5 72 c5 TX
  tab : Tab W
theorem LHX.step {g3 g7 g6 : Nat} {h : Hd} {KY M : List Int} {a : Option Addr} {n c : Nat} {a5 : Option Addr} {c5 : Nat} {TX : List Int} {w W W' : World} (k : LHX g3 g7 g6 h KY M a n c a5 c5 TX w W) (hb : Below W.heap.size W W') : LHX g3 g7 g6 h KY M a n c a5 c5 TX w W' :=
  ⟨bstep k.low hb, k.h3.below hb, k.h7.below hb, k.d6.below hb, k.key.below hb, k.txt.below hb, k.tab.below hb⟩

set_option maxRecDepth 100000 in
set_option maxHeartbeats 1000000 in
theorem walk (a0 : Option Addr) (len0 cap0 : Nat) (k : List Int) (h : Hd) (w : World) (hk : Bts w a0 len0 cap0 k) (hh : HdI h) (htab : Tab w) :
    Calls Tryd.prog 4 #[.slice a0 len0 cap0, .agg (hdA h)] w fun e w' => e = .returned (.bool true) ∧ Below w.heap.size w w' := by
  have HT := Bx.mk htab
  have HHD := Bx.mk hh.dig
  have hb0 : Below w.heap.size w (w.alloc (.cells (hdA h) 47)) := (Below.refl _ _).alloc (Nat.le_refl _) _
  have HR := Bx.mk (HdB.new w hh.dig)
  have HB := Bx.mk hb0
  have HK0 := Bx.mk (hk.below hb0)
  have hzd := dz_run
  have hzv := hd0_run
  obtain ⟨g3, HG⟩ : ∃ g3, Bx (g3 = w.heap.size) := ⟨_, ⟨rfl⟩⟩
  rw [← HG.out] at HR
  clear hb0 hh htab hk
  go_enter Tryd.func4, Tryd.ntmps4
  go_upto_region 1 with fail
  rw [← HG.out]
  generalize w.alloc (.cells (hdA h) 47) = w0 at HR HB HK0 ⊢
  go_wp2_with fail
  refine (cut_any a0 len0 cap0 100 k _ HK0.out (by decide)).mono ?_
  rintro x wz ⟨⟨n, rfl, hkey⟩, hwz⟩
  subst hwz
  have HKL : Bx (n ≤ 1000000) := ⟨by have := hkey.len_eq; rw [List.length_take] at this; omega⟩
  generalize k.take 100 = KY at hkey
  have HKEY := Bx.mk hkey
  have HT0 := Bx.mk (HT.out.below HB.out)
  clear hkey HK0
  go_wp2_with (refine wpList_load_hd rfl (.tmp 3) rfl rfl HR.out ?_)
  refine (refheadtext_any h _ HHD.out HT0.out).mono ?_
  rintro x w1 ⟨v1, rfl, ho1, hb1⟩
  obtain ⟨a5, c5, rfl, hm1⟩ := Bts.of_owns ho1 (headL_byt HHD.out.R HHD.out.C)
  have HTX1 := Bx.mk hm1
  have HR1 := Bx.mk (HR.out.below hb1)
  have HK1 := Bx.mk (HKEY.out.below hb1)
  have HB1 := Bx.mk (bstep HB.out hb1)
  clear ho1 hb1 hm1 HR HKEY HB HT0
  go_wp2_with fail
  refine (refmac_any a0 a5 n 72 cap0 c5 KY (headL h) _ HK1.out HTX1.out (by have := HKL.out; omega) (by decide)).mono ?_
  rintro x w2 ⟨rfl, hb2⟩
  have HMD : Bx (Dg (macL KY (headL h))) := ⟨⟨macL_len _ _, macL_byt _ _⟩⟩
  have HR2 := Bx.mk (HR1.out.below hb2)
  have HK2 := Bx.mk (HK1.out.below hb2)
  have HTX2 := Bx.mk (HTX1.out.below hb2)
  have HB2 := Bx.mk (bstep HB1.out hb2)
  have HSG : Bx (sgn KY h = ⟨h.n, h.R, h.C, macL KY (headL h)⟩) := ⟨rfl⟩
  have HSH : Bx (∀ W, Bts W a0 n cap0 KY → Tab W → Calls Tryd.prog 23 #[.slice a0 n cap0, .agg (hdA h)] W fun e w' => e = .returned (.agg (hdA ⟨h.n, h.R, h.C, macL KY (headL h)⟩)) ∧ Below W.heap.size W w') := ⟨fun W h1 h2 => sign_any h a0 n cap0 KY W h1 HHD.out h2 HKL.out⟩
  have HSD : Bx (∀ W, Bts W a0 n cap0 KY → Tab W → Calls Tryd.prog 24 #[.slice a0 n cap0, .agg (hdA h)] W fun e w' => e = .returned (.bool (decide (h.G = macL KY (headL h)))) ∧ Below W.heap.size W w') := ⟨fun W h1 h2 => signed_any h a0 n cap0 KY W h1 HHD.out h2 HKL.out⟩
  have HSW : Bx (∀ W, Bts W a0 n cap0 KY → Tab W → Calls Tryd.prog 24 #[.slice a0 n cap0, .agg (hdA ⟨h.n, h.R, h.C, macL KY (headL h)⟩)] W fun e w' => e = .returned (.bool true) ∧ Below W.heap.size W w') := ⟨fun W h1 h2 => by
    have := signed_any ⟨h.n, h.R, h.C, macL KY (headL h)⟩ a0 n cap0 KY W h1 ⟨HHD.out.R, HHD.out.C, HMD.out⟩ h2 HKL.out
    rw [show decide ((⟨h.n, h.R, h.C, macL KY (headL h)⟩ : Hd).G = macL KY (headL ⟨h.n, h.R, h.C, macL KY (headL h)⟩)) = true from decide_eq_true rfl] at this
    exact this⟩
  clear HSG
  generalize macL KY (headL h) = M at HMD HSH HSD HSW ⊢
  have hcmp := dig_cmp h.G M HHD.out.G.1 HMD.out.1
  have HWD : Bx (HdD ⟨h.n, h.R, h.C, M⟩) := ⟨⟨HHD.out.R, HHD.out.C, HMD.out⟩⟩
  -- the sum in a variable
  have hbA : Below w2.heap.size w2 (w2.alloc (.cells (bv dz).toArray 30)) := (Below.refl _ _).alloc (Nat.le_refl _) _
  have HVA := DgV.new w2 dz_dg
  have HTH : Bx ((w2.alloc (.cells (bv dz).toArray 30)).there w2.heap.size 0 (bv M).toArray.size) := ⟨HVA.there HMD.out⟩
  have HI : Bx ((Tryd.prog.info? 30).map (·.size) = some (bv M).toArray.size) := ⟨dgv_info HMD.out⟩
  have HO : Bx ((bv M).toArray.all (·.oneCell') = true) := ⟨dgv_one M⟩
  have HV6 := Bx.mk (HVA.put HMD.out)
  have hb6 : Below w2.heap.size w2 ((w2.alloc (.cells (bv dz).toArray 30)).setCells w2.heap.size 0 (bv M).toArray.toList) := below_setCells hbA _ (Nat.le_refl _) _ _
  have HR3 := Bx.mk (HR2.out.below hb6)
  have HK3 := Bx.mk (HK2.out.below hb6)
  have HTX3 := Bx.mk (HTX2.out.below hb6)
  have HB3 := Bx.mk (bstep HB2.out hb6)
  clear hbA hb6 HVA HR1 HK1 HTX1 HB1 HR2 HK2 HTX2 HB2 hb2
  go_upto_region 4 with (refine wpList_store_mid rfl 30 (.tmp 6) (.tmp 14) rfl w2.heap.size 0 (bv M).toArray rfl rfl ?ht HI.out HO.out ?_; (case ht => exact HTH.out))
  clear hzd
  obtain ⟨g6, HG6⟩ : ∃ g6, Bx (g6 = w2.heap.size) := ⟨_, ⟨rfl⟩⟩
  rw [← HG6.out] at HV6 HR3 HK3 HTX3 HB3 ⊢
  generalize (w2.alloc (.cells (bv dz).toArray 30)).setCells g6 0 (bv M).toArray.toList = w3 at HV6 HR3 HK3 HTX3 HB3 ⊢
  clear HTH HG6
  -- the wanted head
  obtain ⟨hv, hbv, hth⟩ := hd_var w3 HHD.out
  have HV7 := Bx.mk hv
  have HTH := Bx.mk hth
  have HIH := Bx.mk (hdA_info HHD.out)
  have HOH : Bx ((hdA h).all (·.oneCell') = true) := ⟨hdA_one⟩
  have HR4 := Bx.mk (HR3.out.below hbv)
  have HK4 := Bx.mk (HK3.out.below hbv)
  have HTX4 := Bx.mk (HTX3.out.below hbv)
  have HV64 := Bx.mk (HV6.out.below hbv)
  have HB4 := Bx.mk (bstep HB3.out hbv)
  have HLT : Bx (w.heap.size ≤ w3.heap.size ∧ g3 < w3.heap.size ∧ g6 < w3.heap.size) := ⟨HB3.out.size, HR3.out.lt, HV6.out.lt⟩
  have HKW3 := HK3
  have HTW3 := HTX3
  clear hv hbv hth HK3 HTX3 HB3
  go_upto_region 5 with (first
    | (refine wpList_load_hd rfl (.tmp 3) rfl rfl HR3.out ?_)
    | (refine wpList_store_mid rfl 47 (.tmp 7) (.tmp 15) rfl w3.heap.size 0 (hdA h) rfl rfl ?hu HIH.out HOH.out ?_; (case hu => exact HTH.out)))
  clear hzv
  obtain ⟨g7, HG7⟩ : ∃ g7, Bx (g7 = w3.heap.size) := ⟨_, ⟨rfl⟩⟩
  rw [← HG7.out] at HV7 HR4 HK4 HTX4 HV64 HB4 HLT ⊢
  have HFK : Bx (Bts w3 a0 n cap0 KY ∧ Bts w3 a5 72 c5 (headL h) ∧ g7 = w3.heap.size) := ⟨HKW3.out, HTW3.out, HG7.out⟩
  generalize (w3.alloc (.cells (hdA hd0) 47)).setCells g7 0 (hdA h).toList = w4 at HV7 HR4 HK4 HTX4 HV64 HB4 ⊢
  clear HTH HIH HOH HR3 HV6 HKW3 HTW3
  -- its sign
  have HTH : Bx (w4.there g7 65 (bv M).toArray.size) := ⟨by rw [dgv_size HMD.out]; exact HV7.out.thereAt 65 32 (by decide)⟩
  have HV5 := Bx.mk (HV7.out.setG HMD.out)
  have HKF : Bx (0 < n → ∀ p, a0 = some p → p.block ≠ g7) := ⟨fun hp p e => by have := HFK.out.1.lt hp e; have := HFK.out.2.2; omega⟩
  have HTF : Bx (0 < 72 → ∀ p, a5 = some p → p.block ≠ g7) := ⟨fun hp p e => by have := HFK.out.2.1.lt hp e; have := HFK.out.2.2; omega⟩
  have HL5 : Bx (LHX g3 g7 g6 h KY M a0 n cap0 a5 c5 (headL h) w (w4.setCells g7 65 (bv M).toArray.toList)) := ⟨⟨below_setCells HB4.out g7 HLT.out.1 _ _, HR4.out.keep (setCells_other (by have := HLT.out; omega) _ _), HV5.out, HV64.out.other (by have := HLT.out; omega) _ _, HK4.out.keep (fun hp p e => setCells_other (HKF.out hp p e) _ _) (by rw [setCells_size]; exact Nat.le_refl _), HTX4.out.keep (fun hp p e => setCells_other (HTF.out hp p e) _ _) (by rw [setCells_size]; exact Nat.le_refl _), HT.out.below (below_setCells HB4.out g7 HLT.out.1 _ _)⟩⟩
  clear HR4 HK4 HTX4 HB4 HKF HTF HFK HV5
  go_upto_region 6 with (first
    | (refine wpList_load_dgR rfl (.tmp 6) rfl rfl HV64.out.range HMD.out.1 ?_)
    | (refine wpList_store_mid rfl 30 (.tmp 17) (.tmp 16) rfl g7 65 (bv M).toArray rfl rfl ?hq HI.out HO.out ?_; (case hq => exact HTH.out)))
  generalize w4.setCells g7 65 (bv M).toArray.toList = w5 at HL5 ⊢
  clear HV7 HV64 HTH HI HO HLT
  have hk : LHX g3 g7 g6 h KY M a0 n cap0 a5 c5 (headL h) w w5.drew := HL5.out.step ((Below.refl _ _).drew)
  have hhe : ∀ W : World, (Op.equalIn 10000 47 (.agg (hdA ⟨h.n, h.R, h.C, M⟩)) (.agg (hdC ⟨h.n, h.R, h.C, M⟩).toArray)).run Tryd.prog W = .ok true W := fun W => hd_eq HWD.out W
  generalize hW : (⟨h.n, h.R, h.C, M⟩ : Hd) = WH at HSH HSW hhe HWD
  have HW := Bx.mk hW
  clear hW HL5
  generalize decide (h.G = M) = r at HSD hcmp
  refine wp_region_held_drew (S := fun W => LHX g3 g7 g6 h KY M a0 n cap0 a5 c5 (headL h) w W) (by kernel_rfl) hk (fun _ => ?_)
  generalize w5.drew = wd at hk ⊢
  refine wpAnyH_take (i := 0) (oi := { dst := some 18, op := Op.load 47 (Operand.tmp 3), type := 47, pos := "law.go:113", after := #[], guard := none }) (v := .agg (hdC h).toArray) rfl (by kernel_rfl) (by kernel_rfl) (by kernel_rfl) (fun _ _ _ h => h) (yieldsIf_load_mid (by rfl) 47 (.tmp 3) rfl g3 0 rfl (hdC h) _ (fun (W : World) (hW : LHX g3 g7 g6 h KY M a0 n cap0 a5 c5 (headL h) w W) => hW.h3.range) Tryd.underlying47 rfl (hdC_info HHD.out)) hk ?_
  simp only [Act.put, List.setIfInBounds_toArray, List.set_cons_zero, List.set_cons_succ]
  refine wpAnyH_take (i := 2) (oi := { dst := some 20, op := Op.move (Operand.tmp 5), type := 22, pos := "law.go:113", after := #[], guard := none }) (v := ?vlhe61) rfl (by kernel_rfl) (by kernel_rfl) (by kernel_rfl) (fun _ _ _ h => h) (Or.inl ⟨by rfl, ?ylhe61⟩) hk ?rlhe61
  case ylhe61 => (intro w hSw; (try dsimp only at hSw); go_simp; first | done | with_reducible rfl)
  simp only [Act.put, List.setIfInBounds_toArray, List.set_cons_zero, List.set_cons_succ]
  refine wpAnyH_ready (rs := [1]) (by decide +kernel) (by simp) ?_
  refine AllReadyH.cons (o := { dst := some 19, op := Op.call { callee := Callee.value (Operand.func 22), args := #[Operand.tmp 18], argTypes := #[47] }, type := 22, pos := "law.go:113", after := #[{ on := 0, ground := Ground.data }], guard := none }) rfl (fun K hK => ?_) AllReadyH.nil
  go_simp
  refine (headtext_any h _ HHD.out hk.tab).mono ?_
  rintro e w6 ⟨a6, c6, rfl, hT6, hb6⟩
  replace hk := hk.step hb6
  clear hb6
  refine hK.out _ _ hk (fun _ => ?_)
  clear hK K
  try simp only [Act.put, List.setIfInBounds_toArray, List.set_cons_zero, List.set_cons_succ]
  refine wpAnyH_ready (rs := [3]) (by decide +kernel) (by simp) ?_
  refine AllReadyH.cons (o := { dst := some 21, op := Op.call { callee := Callee.value (Operand.func 21), args := #[Operand.tmp 19, Operand.tmp 20], argTypes := #[22, 22] }, type := 4, pos := "law.go:113", after := #[{ on := 1, ground := Ground.data }, { on := 2, ground := Ground.data }, { on := 1, ground := Ground.chain }], guard := none }) rfl (fun K hK => ?_) AllReadyH.nil
  go_simp
  refine (same_yes a6 a5 72 72 c6 c5 (headL h) _ hT6 hk.txt).mono ?_
  rintro e w7 ⟨rfl, q7, hq7⟩
  have hb7 : Below w6.heap.size w6 w7 := by rw [hq7]; exact below_drewN (Below.refl _ _) q7
  clear hT6 hq7
  replace hk := hk.step hb7
  clear hb7
  refine hK.out _ _ hk (fun _ => ?_)
  clear hK K
  try simp only [Act.put, List.setIfInBounds_toArray, List.set_cons_zero, List.set_cons_succ]
  refine wpAnyH_take (i := 4) (oi := { dst := some 22, op := Op.move (Operand.tmp 21), type := 4, pos := "law.go:113", after := #[{ on := 3, ground := Ground.data }, { on := 3, ground := Ground.chain }], guard := none }) (v := ?vlhe62) rfl (by kernel_rfl) (by kernel_rfl) (by kernel_rfl) (fun _ _ _ h => h) (Or.inl ⟨by rfl, ?ylhe62⟩) hk ?rlhe62
  case ylhe62 => (intro w hSw; (try dsimp only at hSw); go_simp; first | done | with_reducible rfl)
  simp only [Act.put, List.setIfInBounds_toArray, List.set_cons_zero, List.set_cons_succ]
  refine wpAnyH_take (i := 5) (oi := { dst := some 23, op := Op.move (Operand.tmp 0), type := 22, pos := "law.go:113", after := #[{ on := 4, ground := Ground.guard }], guard := some (4, true) }) (v := ?vlhe63) rfl (by kernel_rfl) (by kernel_rfl) (by kernel_rfl) (fun _ _ _ h => h) (Or.inl ⟨by rfl, ?ylhe63⟩) hk ?rlhe63
  case ylhe63 => (intro w hSw; (try dsimp only at hSw); go_simp; first | done | with_reducible rfl)
  simp only [Act.put, List.setIfInBounds_toArray, List.set_cons_zero, List.set_cons_succ]
  refine wpAnyH_take (i := 6) (oi := { dst := some 24, op := Op.load 47 (Operand.tmp 3), type := 47, pos := "law.go:113", after := #[{ on := 4, ground := Ground.guard }], guard := some (4, true) }) (v := .agg (hdC h).toArray) rfl (by kernel_rfl) (by kernel_rfl) (by kernel_rfl) (fun _ _ _ h => h) (yieldsIf_load_mid (by rfl) 47 (.tmp 3) rfl g3 0 rfl (hdC h) _ (fun (W : World) (hW : LHX g3 g7 g6 h KY M a0 n cap0 a5 c5 (headL h) w W) => hW.h3.range) Tryd.underlying47 rfl (hdC_info HHD.out)) hk ?_
  simp only [Act.put, List.setIfInBounds_toArray, List.set_cons_zero, List.set_cons_succ]
  refine wpAnyH_take (i := 8) (oi := { dst := some 26, op := Op.load 47 (Operand.tmp 7), type := 47, pos := "law.go:113", after := #[{ on := 4, ground := Ground.guard }], guard := some (4, true) }) (v := .agg (hdC WH).toArray) rfl (by kernel_rfl) (by kernel_rfl) (by kernel_rfl) (fun _ _ _ h => h) (yieldsIf_load_mid (by rfl) 47 (.tmp 7) rfl g7 0 rfl (hdC WH) _ (fun (W : World) (hW : LHX g3 g7 g6 h KY M a0 n cap0 a5 c5 (headL h) w W) => (by rw [← HW.out]; exact hW.h7.range)) Tryd.underlying47 rfl (hdC_info HWD.out)) hk ?_
  simp only [Act.put, List.setIfInBounds_toArray, List.set_cons_zero, List.set_cons_succ]
  refine wpAnyH_ready (rs := [7]) (by decide +kernel) (by simp) ?_
  refine AllReadyH.cons (o := { dst := some 25, op := Op.call { callee := Callee.value (Operand.func 23), args := #[Operand.tmp 23, Operand.tmp 24], argTypes := #[22, 47] }, type := 47, pos := "law.go:113", after := #[{ on := 5, ground := Ground.data }, { on := 6, ground := Ground.data }, { on := 4, ground := Ground.chain }, { on := 4, ground := Ground.guard }], guard := some (4, true) }) rfl (fun K hK => ?_) AllReadyH.nil
  go_simp
  refine (HSH.out _ hk.key hk.tab).mono ?_
  rintro e w8 ⟨rfl, hb8⟩
  replace hk := hk.step hb8
  clear hb8
  refine hK.out _ _ hk (fun _ => ?_)
  clear hK K
  try simp only [Act.put, List.setIfInBounds_toArray, List.set_cons_zero, List.set_cons_succ]
  refine wpAnyH_take (i := 9) (oi := { dst := some 27, op := Op.binOp BinOp.eql 47 (Operand.tmp 25) (Operand.tmp 26) 47, type := 4, pos := "law.go:113", after := #[{ on := 7, ground := Ground.data }, { on := 8, ground := Ground.data }, { on := 4, ground := Ground.guard }], guard := some (4, true) }) (v := ?vlhe64) rfl (by kernel_rfl) (by kernel_rfl) (by kernel_rfl) (fun _ _ _ h => h) (Or.inl ⟨by rfl, ?ylhe64⟩) hk ?rlhe64
  case ylhe64 => (intro w hSw; (try dsimp only at hSw); go_simp; first | done | with_reducible rfl)
  simp only [Act.put, List.setIfInBounds_toArray, List.set_cons_zero, List.set_cons_succ]
  refine wpAnyH_take (i := 10) (oi := { dst := some 28, op := Op.pick (Operand.tmp 22) (Operand.tmp 27) (Operand.const (Value.bool false)), type := 4, pos := "law.go:113", after := #[{ on := 4, ground := Ground.data }, { on := 9, ground := Ground.data }], guard := none }) (v := ?vlhe65) rfl (by kernel_rfl) (by kernel_rfl) (by kernel_rfl) (fun _ _ _ h => h) (Or.inl ⟨by rfl, ?ylhe65⟩) hk ?rlhe65
  case ylhe65 => (intro w hSw; (try dsimp only at hSw); go_simp; first | done | with_reducible rfl)
  simp only [Act.put, List.setIfInBounds_toArray, List.set_cons_zero, List.set_cons_succ]
  refine wpAnyH_take (i := 11) (oi := { dst := some 29, op := Op.move (Operand.tmp 28), type := 4, pos := "law.go:113", after := #[{ on := 10, ground := Ground.data }, { on := 7, ground := Ground.chain }], guard := none }) (v := ?vlhe66) rfl (by kernel_rfl) (by kernel_rfl) (by kernel_rfl) (fun _ _ _ h => h) (Or.inl ⟨by rfl, ?ylhe66⟩) hk ?rlhe66
  case ylhe66 => (intro w hSw; (try dsimp only at hSw); go_simp; first | done | with_reducible rfl)
  simp only [Act.put, List.setIfInBounds_toArray, List.set_cons_zero, List.set_cons_succ]
  refine wpAnyH_take (i := 12) (oi := { dst := some 30, op := Op.move (Operand.tmp 0), type := 22, pos := "law.go:113", after := #[{ on := 11, ground := Ground.guard }], guard := some (11, true) }) (v := ?vlhe67) rfl (by kernel_rfl) (by kernel_rfl) (by kernel_rfl) (fun _ _ _ h => h) (Or.inl ⟨by rfl, ?ylhe67⟩) hk ?rlhe67
  case ylhe67 => (intro w hSw; (try dsimp only at hSw); go_simp; first | done | with_reducible rfl)
  simp only [Act.put, List.setIfInBounds_toArray, List.set_cons_zero, List.set_cons_succ]
  refine wpAnyH_take (i := 13) (oi := { dst := some 31, op := Op.load 47 (Operand.tmp 3), type := 47, pos := "law.go:113", after := #[{ on := 11, ground := Ground.guard }], guard := some (11, true) }) (v := .agg (hdC h).toArray) rfl (by kernel_rfl) (by kernel_rfl) (by kernel_rfl) (fun _ _ _ h => h) (yieldsIf_load_mid (by rfl) 47 (.tmp 3) rfl g3 0 rfl (hdC h) _ (fun (W : World) (hW : LHX g3 g7 g6 h KY M a0 n cap0 a5 c5 (headL h) w W) => hW.h3.range) Tryd.underlying47 rfl (hdC_info HHD.out)) hk ?_
  simp only [Act.put, List.setIfInBounds_toArray, List.set_cons_zero, List.set_cons_succ]
  refine wpAnyH_take (i := 15) (oi := { dst := some 33, op := Op.fieldAddr 47 (Operand.tmp 3) 3, type := 0, pos := "law.go:113", after := #[{ on := 11, ground := Ground.guard }], guard := some (11, true) }) (v := ?vlhe68) rfl (by kernel_rfl) (by kernel_rfl) (by kernel_rfl) (fun _ _ _ h => h) (Or.inl ⟨by rfl, ?ylhe68⟩) hk ?rlhe68
  case ylhe68 => (intro w hSw; (try dsimp only at hSw); go_simp; first | done | with_reducible rfl)
  simp only [Act.put, List.setIfInBounds_toArray, List.set_cons_zero, List.set_cons_succ]
  refine wpAnyH_take (i := 16) (oi := { dst := some 34, op := Op.load 30 (Operand.tmp 33), type := 30, pos := "law.go:113", after := #[{ on := 15, ground := Ground.data }, { on := 11, ground := Ground.guard }], guard := some (11, true) }) (v := .agg (bv h.G).toArray) rfl (by kernel_rfl) (by kernel_rfl) (by kernel_rfl) (fun _ _ _ h => h) (yieldsIf_load_mid (by rfl) 30 (.tmp 33) rfl g3 65 rfl (bv h.G) _ (fun (W : World) (hW : LHX g3 g7 g6 h KY M a0 n cap0 a5 c5 (headL h) w W) => hW.h3.rG) Tryd.underlying30 rfl (by rw [bv_length, HHD.out.G.1]; exact dgH_info)) hk ?_
  simp only [Act.put, List.setIfInBounds_toArray, List.set_cons_zero, List.set_cons_succ]
  refine wpAnyH_take (i := 17) (oi := { dst := some 35, op := Op.load 30 (Operand.tmp 6), type := 30, pos := "law.go:113", after := #[{ on := 11, ground := Ground.guard }], guard := some (11, true) }) (v := .agg (bv M).toArray) rfl (by kernel_rfl) (by kernel_rfl) (by kernel_rfl) (fun _ _ _ h => h) (yieldsIf_load_mid (by rfl) 30 (.tmp 6) rfl g6 0 rfl (bv M) _ (fun (W : World) (hW : LHX g3 g7 g6 h KY M a0 n cap0 a5 c5 (headL h) w W) => hW.d6.range) Tryd.underlying30 rfl (by rw [bv_length, HMD.out.1]; exact dgH_info)) hk ?_
  simp only [Act.put, List.setIfInBounds_toArray, List.set_cons_zero, List.set_cons_succ]
  refine wpAnyH_take (i := 18) (oi := { dst := some 36, op := Op.binOp BinOp.eql 30 (Operand.tmp 34) (Operand.tmp 35) 30, type := 4, pos := "law.go:113", after := #[{ on := 16, ground := Ground.data }, { on := 17, ground := Ground.data }, { on := 11, ground := Ground.guard }], guard := some (11, true) }) (v := ?vlhe69) rfl (by kernel_rfl) (by kernel_rfl) (by kernel_rfl) (fun _ _ _ h => h) (Or.inl ⟨by rfl, ?ylhe69⟩) hk ?rlhe69
  case ylhe69 => (intro w hSw; (try dsimp only at hSw); go_simp; first | done | with_reducible rfl)
  simp only [Act.put, List.setIfInBounds_toArray, List.set_cons_zero, List.set_cons_succ]
  refine wpAnyH_ready (rs := [14]) (by decide +kernel) (by simp) ?_
  refine AllReadyH.cons (o := { dst := some 32, op := Op.call { callee := Callee.value (Operand.func 24), args := #[Operand.tmp 30, Operand.tmp 31], argTypes := #[22, 47] }, type := 4, pos := "law.go:113", after := #[{ on := 12, ground := Ground.data }, { on := 13, ground := Ground.data }, { on := 11, ground := Ground.chain }, { on := 11, ground := Ground.guard }], guard := some (11, true) }) rfl (fun K hK => ?_) AllReadyH.nil
  go_simp
  refine (HSD.out _ hk.key hk.tab).mono ?_
  rintro e w9 ⟨rfl, hb9⟩
  replace hk := hk.step hb9
  clear hb9
  refine hK.out _ _ hk (fun _ => ?_)
  clear hK K
  try simp only [Act.put, List.setIfInBounds_toArray, List.set_cons_zero, List.set_cons_succ]
  refine wpAnyH_take (i := 19) (oi := { dst := some 37, op := Op.binOp BinOp.eql 4 (Operand.tmp 32) (Operand.tmp 36) 4, type := 4, pos := "law.go:113", after := #[{ on := 14, ground := Ground.data }, { on := 18, ground := Ground.data }, { on := 11, ground := Ground.guard }], guard := some (11, true) }) (v := ?vlhe610) rfl (by kernel_rfl) (by kernel_rfl) (by kernel_rfl) (fun _ _ _ h => h) (Or.inl ⟨by rfl, ?ylhe610⟩) hk ?rlhe610
  case ylhe610 => (intro w hSw; (try dsimp only at hSw); go_simp; first | done | with_reducible rfl)
  simp only [Act.put, List.setIfInBounds_toArray, List.set_cons_zero, List.set_cons_succ]
  refine wpAnyH_take (i := 20) (oi := { dst := some 38, op := Op.pick (Operand.tmp 29) (Operand.tmp 37) (Operand.const (Value.bool false)), type := 4, pos := "law.go:113", after := #[{ on := 11, ground := Ground.data }, { on := 19, ground := Ground.data }], guard := none }) (v := ?vlhe611) rfl (by kernel_rfl) (by kernel_rfl) (by kernel_rfl) (fun _ _ _ h => h) (Or.inl ⟨by rfl, ?ylhe611⟩) hk ?rlhe611
  case ylhe611 => (intro w hSw; (try dsimp only at hSw); go_simp; first | done | with_reducible rfl)
  simp only [Act.put, List.setIfInBounds_toArray, List.set_cons_zero, List.set_cons_succ]
  refine wpAnyH_take (i := 21) (oi := { dst := some 39, op := Op.move (Operand.tmp 38), type := 4, pos := "law.go:113", after := #[{ on := 20, ground := Ground.data }, { on := 14, ground := Ground.chain }], guard := none }) (v := ?vlhe612) rfl (by kernel_rfl) (by kernel_rfl) (by kernel_rfl) (fun _ _ _ h => h) (Or.inl ⟨by rfl, ?ylhe612⟩) hk ?rlhe612
  case ylhe612 => (intro w hSw; (try dsimp only at hSw); go_simp; first | done | with_reducible rfl)
  simp only [Act.put, List.setIfInBounds_toArray, List.set_cons_zero, List.set_cons_succ]
  refine wpAnyH_take (i := 22) (oi := { dst := some 40, op := Op.move (Operand.tmp 0), type := 22, pos := "law.go:113", after := #[{ on := 21, ground := Ground.guard }], guard := some (21, true) }) (v := ?vlhe613) rfl (by kernel_rfl) (by kernel_rfl) (by kernel_rfl) (fun _ _ _ h => h) (Or.inl ⟨by rfl, ?ylhe613⟩) hk ?rlhe613
  case ylhe613 => (intro w hSw; (try dsimp only at hSw); go_simp; first | done | with_reducible rfl)
  simp only [Act.put, List.setIfInBounds_toArray, List.set_cons_zero, List.set_cons_succ]
  refine wpAnyH_take (i := 23) (oi := { dst := some 41, op := Op.load 47 (Operand.tmp 7), type := 47, pos := "law.go:113", after := #[{ on := 21, ground := Ground.guard }], guard := some (21, true) }) (v := .agg (hdC WH).toArray) rfl (by kernel_rfl) (by kernel_rfl) (by kernel_rfl) (fun _ _ _ h => h) (yieldsIf_load_mid (by rfl) 47 (.tmp 7) rfl g7 0 rfl (hdC WH) _ (fun (W : World) (hW : LHX g3 g7 g6 h KY M a0 n cap0 a5 c5 (headL h) w W) => (by rw [← HW.out]; exact hW.h7.range)) Tryd.underlying47 rfl (hdC_info HWD.out)) hk ?_
  simp only [Act.put, List.setIfInBounds_toArray, List.set_cons_zero, List.set_cons_succ]
  refine wpAnyH_ready (rs := [24]) (by decide +kernel) (by simp) ?_
  refine AllReadyH.cons (o := { dst := some 42, op := Op.call { callee := Callee.value (Operand.func 24), args := #[Operand.tmp 40, Operand.tmp 41], argTypes := #[22, 47] }, type := 4, pos := "law.go:113", after := #[{ on := 22, ground := Ground.data }, { on := 23, ground := Ground.data }, { on := 21, ground := Ground.chain }, { on := 21, ground := Ground.guard }], guard := some (21, true) }) rfl (fun K hK => ?_) AllReadyH.nil
  go_simp
  refine (HSW.out _ hk.key hk.tab).mono ?_
  rintro e w10 ⟨rfl, hb10⟩
  replace hk := hk.step hb10
  clear hb10
  refine hK.out _ _ hk (fun _ => ?_)
  clear hK K
  try simp only [Act.put, List.setIfInBounds_toArray, List.set_cons_zero, List.set_cons_succ]
  refine wpAnyH_take (i := 25) (oi := { dst := some 43, op := Op.pick (Operand.tmp 39) (Operand.tmp 42) (Operand.const (Value.bool false)), type := 4, pos := "law.go:113", after := #[{ on := 21, ground := Ground.data }, { on := 24, ground := Ground.data }], guard := none }) (v := ?vlhe614) rfl (by kernel_rfl) (by kernel_rfl) (by kernel_rfl) (fun _ _ _ h => h) (Or.inl ⟨by rfl, ?ylhe614⟩) hk ?rlhe614
  case ylhe614 => (intro w hSw; (try dsimp only at hSw); go_simp; first | done | with_reducible rfl)
  simp only [Act.put, List.setIfInBounds_toArray, List.set_cons_zero, List.set_cons_succ]
  refine wpAnyH_take (i := 26) (oi := { dst := some 44, op := Op.move (Operand.tmp 43), type := 4, pos := "law.go:113", after := #[{ on := 25, ground := Ground.data }, { on := 24, ground := Ground.chain }], guard := none }) (v := ?vlhe615) rfl (by kernel_rfl) (by kernel_rfl) (by kernel_rfl) (fun _ _ _ h => h) (Or.inl ⟨by rfl, ?ylhe615⟩) hk ?rlhe615
  case ylhe615 => (intro w hSw; (try dsimp only at hSw); go_simp; first | done | with_reducible rfl)
  simp only [Act.put, List.setIfInBounds_toArray, List.set_cons_zero, List.set_cons_succ]
  refine wpAnyH_ready (rs := [27]) (by decide +kernel) (by simp) ?_
  refine AllReadyH.cons (o := { dst := some 45, op := Op.call { callee := Callee.value (Operand.func 18), args := #[], argTypes := #[] }, type := 4, pos := "law.go:113", after := #[{ on := 26, ground := Ground.chain }, { on := 26, ground := Ground.guard }], guard := some (26, true) }) rfl (fun K hK => ?_) AllReadyH.nil
  go_simp
  refine (lives21_any _).mono ?_
  rintro e w11 ⟨rfl, hb11⟩
  replace hk := hk.step hb11
  clear hb11
  refine hK.out _ _ hk (fun _ => ?_)
  clear hK K
  try simp only [Act.put, List.setIfInBounds_toArray, List.set_cons_zero, List.set_cons_succ]
  refine wpAnyH_take (i := 28) (oi := { dst := some 46, op := Op.pick (Operand.tmp 44) (Operand.tmp 45) (Operand.const (Value.bool false)), type := 4, pos := "law.go:113", after := #[{ on := 26, ground := Ground.data }, { on := 27, ground := Ground.data }], guard := none }) (v := ?vlhe616) rfl (by kernel_rfl) (by kernel_rfl) (by kernel_rfl) (fun _ _ _ h => h) (Or.inl ⟨by rfl, ?ylhe616⟩) hk ?rlhe616
  case ylhe616 => (intro w hSw; (try dsimp only at hSw); go_simp; first | done | with_reducible rfl)
  simp only [Act.put, List.setIfInBounds_toArray, List.set_cons_zero, List.set_cons_succ]
  refine wpAnyH_take (i := 29) (oi := { dst := some 4, op := Op.assign (Operand.tmp 46), type := 4, pos := "law.go:113", after := #[{ on := 28, ground := Ground.data }, { on := 27, ground := Ground.chain }, { on := 0, ground := Ground.phase }, { on := 1, ground := Ground.phase }, { on := 2, ground := Ground.phase }, { on := 3, ground := Ground.phase }, { on := 4, ground := Ground.phase }, { on := 5, ground := Ground.phase }, { on := 6, ground := Ground.phase }, { on := 7, ground := Ground.phase }, { on := 8, ground := Ground.phase }, { on := 9, ground := Ground.phase }, { on := 10, ground := Ground.phase }, { on := 11, ground := Ground.phase }, { on := 12, ground := Ground.phase }, { on := 13, ground := Ground.phase }, { on := 14, ground := Ground.phase }, { on := 15, ground := Ground.phase }, { on := 16, ground := Ground.phase }, { on := 17, ground := Ground.phase }, { on := 18, ground := Ground.phase }, { on := 19, ground := Ground.phase }, { on := 20, ground := Ground.phase }, { on := 21, ground := Ground.phase }, { on := 22, ground := Ground.phase }, { on := 23, ground := Ground.phase }, { on := 24, ground := Ground.phase }, { on := 25, ground := Ground.phase }, { on := 26, ground := Ground.phase }, { on := 27, ground := Ground.phase }, { on := 28, ground := Ground.phase }], guard := none }) (v := ?vlhe617) rfl (by kernel_rfl) (by kernel_rfl) (by kernel_rfl) (fun _ _ _ h => h) (Or.inl ⟨by rfl, ?ylhe617⟩) hk ?rlhe617
  case ylhe617 => (intro w hSw; (try dsimp only at hSw); go_simp; first | done | with_reducible rfl)
  simp only [Act.put, List.setIfInBounds_toArray, List.set_cons_zero, List.set_cons_succ]
  refine wpAnyH_done (by decide +kernel) ?_ _
  have hlow := hk.low
  clear hk hhe hcmp
  go_wp2
  go_ret
  exact ⟨rfl, hlow⟩

set_option maxRecDepth 100000 in
/-- what the walk gives, for every argument and every world that holds the table -/
theorem contract (H : Type) (enc : TypeId × Value → H) (W : World) (base : Nat) (args : Array Value) (ds gs : List (DataW H)) (before : List MemPlace)
    (hval0 : ∀ (j : Nat) t v, Tryd.f4.params[j]? = some t → args[j]? = some v → Value.okWide Tryd.prog W .any base t v)
    (hW : DataW.Whole enc Tryd.prog Tryd.f4.params.toList Rows.ledgerHeadsSpec.vars false W args.toList ds gs before) (hL : laidMetH Tryd.prog Rows.ledgerHeadsRow.laid W) :
    Calls Tryd.prog 4 args W fun e W' => ∃ v, e = .returned v ∧ Rows.ledgerHeadsSpec.post enc Tryd.prog Tryd.f4 false true false false W args v W' := by
  have htab := tab_of_laid hL
  have hval : ∀ (j : Nat) t v, Tryd.f4.params[j]? = some t → args[j]? = some v → Value.okWide Tryd.prog W .any base t v := hval0
  have hW' := hW
  obtain ⟨p, q, hA0, hV, rfl, hfz, hnd⟩ := hW
  have hA : DataW.TrodAll enc Tryd.prog W 0 (fun _ => true) true Tryd.f4.params.toList args.toList ds p := hA0
  rw [Tryd.params4] at hA hval
  obtain ⟨v0, vs0, d0, ds0, p0, q0, hargs, rfl, rfl, h0, r0⟩ := trodAll_cons hA
  obtain ⟨v1, vs1, d1, ds1, p1, q1, rfl, rfl, rfl, h1, r1⟩ := trodAll_cons r0
  obtain ⟨rfl, rfl, rfl⟩ := trodAll_nil r1
  obtain rfl : args = #[v0, v1] := by cases args; simp_all
  obtain ⟨rfl, rfl⟩ := trodVars_none hV
  obtain ⟨a0, len0, cap0, rfl⟩ := okWide_slice Tryd.underlying22 (hval 0 22 v0 rfl rfl)
  have k0 := h0
  have lt0 : ∀ x ∈ p0, x.block < W.heap.size := by obtain ⟨m, hm⟩ := k0; exact DataW.trod_lt m _ _ _ hm
  have k1 := h1
  have lt1 : ∀ x ∈ p1, x.block < W.heap.size := by obtain ⟨m, hm⟩ := k1; exact DataW.trod_lt m _ _ _ hm
  obtain ⟨k, hk⟩ := open_byt h0
  obtain ⟨h, rfl, hh⟩ := open_head (hval 1 47 v1 rfl rfl) h1
  clear hA0 hval0
  refine (walk a0 len0 cap0 k h W hk hh htab).mono fun e W' ⟨he, bel⟩ => ?_
  subst he
  exact ⟨_, rfl, _, _, _, [], _, [], hW', trodAll_mk1 (shut_bool Tryd.underlying4 _), (trodAll_cons_mk (Below.trod laidOut (by kernel_rfl) (of_decide_eq_true (by kernel_rfl)) k0 bel lt0) (trodAll_cons_mk (Below.trod laidOut (by kernel_rfl) (of_decide_eq_true (by kernel_rfl)) k1 bel lt1) trodAll_mk0)), rfl, bel.frame _, fun h => by cases h⟩

set_option maxRecDepth 100000 in
theorem laid_met (os : Os) : laidMet Tryd.prog Rows.ledgerHeadsRow.laid (({ World.holding Tryd.prog os ⟨#[], #[], []⟩ with heap := (World.holding Tryd.prog os ⟨#[], #[], []⟩).heap.setIfInBounds 0 (.cells (uv keyL).toArray 138) } : World).forCall (fun _ _ => 0) ⟨#[], #[.slice none 0 0, .agg (hdA hd0)], []⟩).memory :=
  laidMet_of_run' 8 (by kernel_rfl) (by kernel_rfl)
set_option maxRecDepth 100000 in
theorem reads (os : Os) {H : Type} (enc : TypeId × Value → H) : ∃ places, DataW.whole enc Tryd.prog (({ World.holding Tryd.prog os ⟨#[], #[], []⟩ with heap := (World.holding Tryd.prog os ⟨#[], #[], []⟩).heap.setIfInBounds 0 (.cells (uv keyL).toArray 138) } : World).forCall (fun _ _ => 0) ⟨#[], #[.slice none 0 0, .agg (hdA hd0)], []⟩).memory Tryd.f4.params.toList Rows.ledgerHeadsSpec.vars false (#[.slice none 0 0, .agg (hdA hd0)] : Array Value).toList 8 = some ([.nil, .agg [.lit (.int .i64 0), .agg (List.replicate 32 (.lit (.int .u8 0))), .agg (List.replicate 32 (.lit (.int .u8 0))), .agg (List.replicate 32 (.lit (.int .u8 0)))]], [], places) :=
  ⟨[], by kernel_rfl⟩
set_option maxRecDepth 100000 in
theorem lifted (os : Os) (started : os.Started) (H : Type) (enc : TypeId × Value → H) (F : Stop.Interp) :
    ReturnsInHanded {} Tryd.checked os 4 .any ((OpenSpec.ofChange Rows.ledgerHeadsSpec).preRow enc Tryd.prog Tryd.f4 Rows.ledgerHeadsRow.domain false Rows.ledgerHeadsRow.laid) (((OpenSpec.ofChange Rows.ledgerHeadsSpec).at F).post enc Tryd.prog Tryd.f4 false true false false) := by
  obtain ⟨places, hx⟩ := reads os enc
  refine returnsInHanded_of_row (C := Tryd.checked) (s := OpenSpec.ofChange Rows.ledgerHeadsSpec) own started (by kernel_rfl) Tryd.func4
    (witness_row_at (enc := enc) (C := Tryd.checked) false ({ World.holding Tryd.prog os ⟨#[], #[], []⟩ with heap := (World.holding Tryd.prog os ⟨#[], #[], []⟩).heap.setIfInBounds 0 (.cells (uv keyL).toArray 138) } : World) #[.slice none 0 0, .agg (hdA hd0)] rfl (by kernel_rfl) (by kernel_rfl) (by kernel_rfl)
      (OpenSpec.preRow_of_cond 8 hx (by kernel_rfl) (fun k hk => by cases hk) (by kernel_rfl) (laid_met os))) ?_
  intro W base args ds gs before hval hW _ _ _ hL _ _
  exact contract H enc W base args ds gs before hval hW hL
theorem said : Rows.LedgerHeadsSaid :=
  OpenClaim.holds_of_cond 4 Tryd.f4 rfl rfl rfl rfl rfl rfl rfl ⟨rfl, rfl, rfl, rfl, rfl⟩ rfl rfl rfl rfl rfl (by kernel_rfl) Tryd.func4 (by kernel_rfl)
    (of_decide_eq_true (by kernel_rfl)) (by unfold Func.isWrapper; first | (rw [if_pos (by decide +kernel)]; kernel_rfl) | (rw [if_neg (by decide +kernel)]; exact ⟨rfl, rfl⟩))
    (fun os started H enc _ F => by rw [OpenClaim.pre_eq_preRow]; exact lifted os started H enc F)
theorem plain (f : FuncId) (fn : Func) (hf : Tryd.pinned.checked.prog.funcNamed "inquest/inquestlaw21.LedgerHeads" = some f) (hfn : Tryd.pinned.checked.prog.funcs[f]? = some fn) :
    false = Tryd.pinned.checked.prog.looks [] ∧ ∀ (j : Nat) t, fn.params[j]? = some t → Tryd.pinned.checked.prog.wantsStandIn t = false := by
  obtain rfl : f = 4 := Option.some.inj ((show Tryd.prog.funcNamed "inquest/inquestlaw21.LedgerHeads" = some 4 by kernel_rfl).symm.trans hf) |>.symm
  obtain rfl : fn = Tryd.f4 := (Option.some.inj (Tryd.func4.symm.trans hfn)).symm
  refine ⟨by kernel_rfl, fun j t ht => ?_⟩
  rw [Tryd.params4] at ht
  have hall : ([22, 47].all fun u => !Tryd.prog.wantsStandIn u) = true := by kernel_rfl
  have hm : t ∈ [22, 47] := by simpa using Array.mem_of_getElem? ht
  exact (show Tryd.prog.wantsStandIn t = false by simpa using List.all_eq_true.1 hall t hm)
/-- the tied card -/
theorem card : Rows.LedgerHeadsCardSaid :=
  Claim7.holds_tied_plain_at .later [] _ _ _ _ said (fun _ h => by cases h) (by kernel_rfl) (fun _ h => by cases h) ledgerHeads_row_tie rfl ⟨rfl, rfl⟩ (by kernel_rfl) rfl plain (by kernel_rfl)
end Go.Proofs.YtbednfacipphhaaDoor.ledgerHeads
namespace Go.Proofs.YtbednfacipphhaaDoor
theorem ledgerHeads_holds : Rows.LedgerHeadsCardSaid := ledgerHeads.card
#print axioms ledgerHeads_holds
end Go.Proofs.YtbednfacipphhaaDoor
