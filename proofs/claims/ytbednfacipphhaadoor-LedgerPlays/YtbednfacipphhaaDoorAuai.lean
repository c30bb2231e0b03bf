/- Heads: their text, Sign, Signed. Heads: Sign, Signed. What is signed of a head: the document's own. -/
import Derived.Test.YtbednfacipphhaaDoorAuah
import Derived.Test.YtbednfacipphhaaDoorAuay
import Derived.Test.YtbednfacipphhaaDoorMacCheck
import Derived.Test.YtbednfacipphhaaDoorAuas
import Derived.Test.YtbednfacipphhaaDoorEnMem
import Derived.Deep.CutRange
import Derived.Test.YtbednfacipphhaaDoorAuav
namespace Go.Proofs.YtbednfacipphhaaDoor
open Go.RowKit
set_option linter.unusedVariables false

/-- a head in a variable, the tables, and what stays -/
structure HdX (g : Nat) (h : Hd) (w W : World) : Prop where
  low : Below w.heap.size w W
  hd : HdB W g h
  tab : Tab W
set_option maxRecDepth 100000 in
theorem HdX.step {g : Nat} {h : Hd} {w W W' : World} (k : HdX g h w W) (hb : Below W.heap.size W W') : HdX g h w W' := ⟨bstep k.low hb, k.hd.below hb, k.tab.below hb⟩
set_option maxRecDepth 100000 in
theorem HdX.new (w : World) {h : Hd} (hd : HdD h) (htab : Tab w) : HdX w.heap.size h w (w.alloc (.cells (hdA h) 47)) := by
  have hb : Below w.heap.size w (w.alloc (.cells (hdA h) 47)) := (Below.refl _ _).alloc (Nat.le_refl _) _
  exact ⟨hb, HdB.new w hd, htab.below hb⟩
set_option maxRecDepth 100000 in
theorem u64_mod (n : Int) : IntKind.u64.wrap n = n % 18446744073709551616 := by
  rfl
set_option maxHeartbeats 4000000 in
set_option maxRecDepth 100000 in
theorem headtext_any (h : Hd) (w : World) (hd : HdD h) (htab : Tab w) :
    Calls Tryd.prog 22 #[.agg (hdA h)] w fun e w' => ∃ a c, e = .returned (.slice a 72 c) ∧ Bts w' a 72 c (headL h) ∧ Below w.heap.size w w' := by
  have hx0 := HdX.new w hd htab
  obtain ⟨g0, HG⟩ : ∃ g0, Bx (g0 = w.heap.size) := ⟨_, ⟨rfl⟩⟩
  rw [← HG.out] at hx0
  obtain ⟨X, HX⟩ : ∃ X, Bx (X = h.n % 18446744073709551616) := ⟨_, ⟨rfl⟩⟩
  have HXB : Bx (0 ≤ X ∧ X ≤ 18446744073709551615) := ⟨by rw [HX.out]; omega⟩
  have hcv : IntKind.u64.wrap h.n = X := by rw [HX.out]; exact u64_mod _
  have HE : Bx (headL h = putL X 8 ++ (h.R ++ h.C)) := ⟨by rw [HX.out]; unfold headL; rw [List.append_assoc]⟩
  have hd1 := dg_at g0 1
  have hd2 := dg_at g0 33
  clear hd htab
  go_enter Tryd.func22, Tryd.ntmps22
  go_upto_region 1 with fail
  rw [← HG.out]
  generalize w.alloc (.cells (hdA h) 47) = w0 at hx0 ⊢
  have hk : HdX g0 h w w0.drew := ⟨below_drewN hx0.low 1, hx0.hd.keep rfl, hx0.tab.drewN 1⟩
  clear hx0
  refine wp_region_held_drew (S := fun W => HdX g0 h w W) (by kernel_rfl) hk (fun _ => ?_)
  generalize w0.drew = wd at hk ⊢
  refine wpAnyH_take (i := 0) (oi := { dst := some 3, op := Op.fieldAddr 47 (Operand.tmp 1) 0, type := 0, pos := "head.go:20", after := #[], guard := none }) (v := ?vhht11) rfl (by kernel_rfl) (by kernel_rfl) (by kernel_rfl) (fun _ _ _ h => h) (Or.inl ⟨by rfl, ?yhht11⟩) hk ?rhht11
  case yhht11 => (intro w hSw; (try dsimp only at hSw); go_simp; first | done | with_reducible rfl)
  simp only [Act.put, List.setIfInBounds_toArray, List.set_cons_zero, List.set_cons_succ]
  refine wpAnyH_take (i := 1) (oi := { dst := some 4, op := Op.load 3 (Operand.tmp 3), type := 3, pos := "head.go:20", after := #[{ on := 0, ground := Ground.data }], guard := none }) (v := ?vhht12) rfl (by kernel_rfl) (by kernel_rfl) (by kernel_rfl) (fun _ _ _ h => h) (Or.inl ⟨by rfl, ?yhht12⟩) hk ?rhht12
  case yhht12 => (intro w hSw; have hcw := hSw.hd.c0; clear hSw; go_simp; first | done | with_reducible rfl)
  simp only [Act.put, List.setIfInBounds_toArray, List.set_cons_zero, List.set_cons_succ]
  refine wpAnyH_take (i := 2) (oi := { dst := some 5, op := Op.convert 3 87 (Operand.tmp 4), type := 87, pos := "head.go:20", after := #[{ on := 1, ground := Ground.data }], guard := none }) (v := ?vhht13) rfl (by kernel_rfl) (by kernel_rfl) (by kernel_rfl) (fun _ _ _ h => h) (Or.inl ⟨by rfl, ?yhht13⟩) hk ?rhht13
  case yhht13 => (intro w hSw; (try dsimp only at hSw); go_simp; first | done | with_reducible rfl)
  simp only [Act.put, List.setIfInBounds_toArray, List.set_cons_zero, List.set_cons_succ]
  refine wpAnyH_take (i := 4) (oi := { dst := some 7, op := Op.fieldAddr 47 (Operand.tmp 1) 1, type := 0, pos := "head.go:20", after := #[], guard := none }) (v := ?vhht14) rfl (by kernel_rfl) (by kernel_rfl) (by kernel_rfl) (fun _ _ _ h => h) (Or.inl ⟨by rfl, ?yhht14⟩) hk ?rhht14
  case yhht14 => (intro w hSw; (try dsimp only at hSw); go_simp; first | done | with_reducible rfl)
  simp only [Act.put, List.setIfInBounds_toArray, List.set_cons_zero, List.set_cons_succ]
  refine wpAnyH_take (i := 5) (oi := { dst := some 8, op := Op.slice 30 (Operand.tmp 7) none none none, type := 22, pos := "head.go:20", after := #[{ on := 4, ground := Ground.data }], guard := none }) (v := ?vhht15) rfl (by kernel_rfl) (by kernel_rfl) (by kernel_rfl) (fun _ _ _ h => h) (Or.inl ⟨by rfl, ?yhht15⟩) hk ?rhht15
  case yhht15 => (intro w hSw; (try dsimp only at hSw); go_simp; first | done | with_reducible rfl)
  simp only [Act.put, List.setIfInBounds_toArray, List.set_cons_zero, List.set_cons_succ]
  refine wpAnyH_take (i := 6) (oi := { dst := some 9, op := Op.fieldAddr 47 (Operand.tmp 1) 2, type := 0, pos := "head.go:20", after := #[], guard := none }) (v := ?vhht16) rfl (by kernel_rfl) (by kernel_rfl) (by kernel_rfl) (fun _ _ _ h => h) (Or.inl ⟨by rfl, ?yhht16⟩) hk ?rhht16
  case yhht16 => (intro w hSw; (try dsimp only at hSw); go_simp; first | done | with_reducible rfl)
  simp only [Act.put, List.setIfInBounds_toArray, List.set_cons_zero, List.set_cons_succ]
  refine wpAnyH_take (i := 7) (oi := { dst := some 10, op := Op.slice 30 (Operand.tmp 9) none none none, type := 22, pos := "head.go:20", after := #[{ on := 6, ground := Ground.data }], guard := none }) (v := ?vhht17) rfl (by kernel_rfl) (by kernel_rfl) (by kernel_rfl) (fun _ _ _ h => h) (Or.inl ⟨by rfl, ?yhht17⟩) hk ?rhht17
  case yhht17 => (intro w hSw; (try dsimp only at hSw); go_simp; first | done | with_reducible rfl)
  simp only [Act.put, List.setIfInBounds_toArray, List.set_cons_zero, List.set_cons_succ]
  refine wpAnyH_ready (rs := [3]) (by decide +kernel) (by simp) ?_
  refine AllReadyH.cons (o := { dst := some 6, op := Op.call { callee := Callee.value (Operand.func 50), args := #[Operand.tmp 5, Operand.const (Value.int IntKind.i64 8)], argTypes := #[87, 3] }, type := 22, pos := "head.go:20", after := #[{ on := 2, ground := Ground.data }], guard := none }) rfl (fun K hK => ?_) AllReadyH.nil
  go_simp
  refine (put_some X 8 _ (by decide) (by decide) HXB.out.1 HXB.out.2).mono ?_
  rintro e wA ⟨vp, rfl, hop, hbA⟩
  replace hk := hk.step hbA
  obtain ⟨ap, cp, rfl, hone⟩ := Bts.of_owns hop (putL_byt _ _)
  clear hbA hop
  refine hK.out _ _ hk (fun _ => ?_)
  clear hK K
  try simp only [Act.put, List.setIfInBounds_toArray, List.set_cons_zero, List.set_cons_succ]
  refine wpAnyH_ready (rs := [8]) (by decide +kernel) (by simp) ?_
  refine AllReadyH.cons (o := { dst := some 11, op := Op.buildSlice 28 3 #[(0, Operand.tmp 6), (1, Operand.tmp 8), (2, Operand.tmp 10)], type := 28, pos := "head.go:20", after := #[{ on := 3, ground := Ground.data }, { on := 5, ground := Ground.data }, { on := 7, ground := Ground.data }], guard := none }) rfl (fun K hK => ?_) AllReadyH.nil
  go_simp
  have hrow2 : (wA.alloc (.cells #[.slice ap 8 cp, .slice (some ⟨g0, 1, none⟩) 32 32, .slice (some ⟨g0, 33, none⟩) 32 32] 22)).heap[wA.heap.size]? = some (.cells #[.slice ap 8 cp, .slice (some ⟨g0, 1, none⟩) 32 32, .slice (some ⟨g0, 33, none⟩) 32 32] 22 (0, 0)) := heap_alloc_new _ _
  have hbB : Below wA.heap.size wA (wA.alloc (.cells #[.slice ap 8 cp, .slice (some ⟨g0, 1, none⟩) 32 32, .slice (some ⟨g0, 33, none⟩) 32 32] 22)) := (Below.refl _ _).alloc (Nat.le_refl _) _
  replace hk := hk.step hbB
  replace hone := hone.below hbB
  have hBy := hk.hd.bR
  have hBz := hk.hd.bC
  generalize wA.alloc (.cells #[.slice ap 8 cp, .slice (some ⟨g0, 1, none⟩) 32 32, .slice (some ⟨g0, 33, none⟩) 32 32] 22) = wB at hrow2 hone hk hBy hBz ⊢
  clear hbB
  refine hK.out _ _ hk (fun _ => ?_)
  clear hK K
  try simp only [Act.put, List.setIfInBounds_toArray, List.set_cons_zero, List.set_cons_succ]
  refine wpAnyH_ready (rs := [9]) (by decide +kernel) (by simp) ?_
  refine AllReadyH.cons (o := { dst := some 12, op := Op.call { callee := Callee.value (Operand.func 49), args := #[Operand.tmp 11], argTypes := #[28] }, type := 22, pos := "head.go:20", after := #[{ on := 8, ground := Ground.data }, { on := 3, ground := Ground.chain }], guard := none }) rfl (fun K hK => ?_) AllReadyH.nil
  go_simp
  refine (concat3 wA.heap.size _ _ _ 8 32 32 _ 32 32 _ _ _ wB (cell_of_row _ _ 0 _ _ (0, 0) hrow2) (cell_of_row _ _ 1 _ _ (0, 0) hrow2) (cell_of_row _ _ 2 _ _ (0, 0) hrow2) (Array.getElem?_eq_some_iff.1 hrow2).1 hone hBy hBz (by decide)).mono ?_
  rintro e1 w6 ⟨a6, c6, rfl, hB6, hb6⟩
  replace hk := hk.step hb6
  clear hb6 hBy hBz hone hrow2
  refine hK.out _ _ hk (fun _ => ?_)
  clear hK K
  try simp only [Act.put, List.setIfInBounds_toArray, List.set_cons_zero, List.set_cons_succ]
  refine wpAnyH_take (i := 10) (oi := { dst := some 2, op := Op.assign (Operand.tmp 12), type := 22, pos := "head.go:20", after := #[{ on := 9, ground := Ground.data }, { on := 9, ground := Ground.chain }, { on := 0, ground := Ground.phase }, { on := 1, ground := Ground.phase }, { on := 2, ground := Ground.phase }, { on := 3, ground := Ground.phase }, { on := 4, ground := Ground.phase }, { on := 5, ground := Ground.phase }, { on := 6, ground := Ground.phase }, { on := 7, ground := Ground.phase }, { on := 8, ground := Ground.phase }, { on := 9, ground := Ground.phase }], guard := none }) (v := ?vhht18) rfl (by kernel_rfl) (by kernel_rfl) (by kernel_rfl) (fun _ _ _ h => h) (Or.inl ⟨by rfl, ?yhht18⟩) hk ?rhht18
  case yhht18 => (intro w hSw; (try dsimp only at hSw); go_simp; first | done | with_reducible rfl)
  simp only [Act.put, List.setIfInBounds_toArray, List.set_cons_zero, List.set_cons_succ]
  refine wpAnyH_done (by decide +kernel) ?_ _
  have hlow := hk.low
  clear hk hd1 hd2
  go_wp2
  go_ret
  exact ⟨a6, c6, rfl, hB6.list HE.out.symm, hlow⟩
end Go.Proofs.YtbednfacipphhaaDoor
namespace Go.Proofs.YtbednfacipphhaaDoor
open Go.RowKit
set_option linter.unusedVariables false

set_option maxRecDepth 100000 in
theorem sgn_digs {k : List Int} {h : Hd} (hd : HdD h) : HdD (sgn k h) := sgn_dg hd.R hd.C
set_option maxHeartbeats 4000000 in
set_option maxRecDepth 100000 in
theorem sign_any (h : Hd) (a : Option Addr) (len cap : Nat) (K : List Int) (w : World) (hk : Bts w a len cap K) (hd : HdD h) (htab : Tab w) (hs : len ≤ 1000000) :
    Calls Tryd.prog 23 #[.slice a len cap, .agg (hdA h)] w fun e w' => e = .returned (.agg (hdA (sgn K h))) ∧ Below w.heap.size w w' := by
  have hx0 := HdX.new w hd htab
  have hb1 : Below (w.alloc (.cells (hdA h) 47)).heap.size (w.alloc (.cells (hdA h) 47)) ((w.alloc (.cells (hdA h) 47)).alloc (.cells (hdA hd0) 47)) := (Below.refl _ _).alloc (Nat.le_refl _) _
  have HX := Bx.mk (hx0.step hb1)
  have HV : Bx (NV 47 97 w.heap.size (w.heap.size + 1) ((w.alloc (.cells (hdA h) 47)).alloc (.cells (hdA hd0) 47))) := ⟨by
    have := NV.new (T := 47) (sz := 97) (N0 := w.heap.size) (wr := w.alloc (.cells (hdA h) 47)) (cs := hdA hd0) (by simp) (hdA_size hd0_dg)
    simpa using this⟩
  have HKB := Bx.mk (hk.below HX.out.low)
  obtain ⟨g0, HG⟩ : ∃ g0, Bx (g0 = w.heap.size) := ⟨_, ⟨rfl⟩⟩
  obtain ⟨gr, HGR⟩ : ∃ gr, Bx (gr = w.heap.size + 1) := ⟨_, ⟨rfl⟩⟩
  have HLT : Bx (w.heap.size ≤ g0 ∧ w.heap.size ≤ gr ∧ gr ≠ g0) := ⟨by have := HG.out; have := HGR.out; omega⟩
  have hzv := hd0_run
  have HS : Bx (HdD (sgn K h)) := ⟨sgn_digs hd⟩
  have HMD : Bx (Dg (macL K (headL h))) := ⟨⟨macL_len _ _, macL_byt _ _⟩⟩
  have HE : Bx ((⟨h.n, h.R, h.C, macL K (headL h)⟩ : Hd) = sgn K h) := ⟨rfl⟩
  have HD := Bx.mk hd
  clear hx0 hb1 hk hd htab
  go_enter Tryd.func23, Tryd.ntmps23
  go_upto_region 1 with fail
  rw [← HGR.out, ← HG.out] at HV
  rw [← HG.out] at HX
  try rw [← HGR.out]
  try rw [← HG.out]
  have HX0 : Bx (HdX g0 h w ((w.alloc (.cells (hdA h) 47)).alloc (.cells (hdA hd0) 47))) := HX
  generalize (w.alloc (.cells (hdA h) 47)).alloc (.cells (hdA hd0) 47) = w0 at HX HX0 HV HKB ⊢
  clear hzv
  go_wp2_with (refine wpList_load_hd rfl (.tmp 3) rfl rfl HX.out.hd ?_)
  refine (headtext_any h _ HD.out HX.out.tab).mono ?_
  rintro e w1 ⟨at1, ct1, rfl, hT, hb1⟩
  have HX1 := Bx.mk (HX.out.step hb1)
  have HV1 := Bx.mk (HV.out.step hb1)
  have HK1 := Bx.mk (HKB.out.below hb1)
  have HT := Bx.mk hT
  clear hT hb1 HX HV HKB
  go_wp2_with fail
  refine (mac_any a at1 len 72 cap ct1 K (headL h) _ HK1.out HT.out HX1.out.tab (by omega) (by decide)).mono ?_
  rintro e w2 ⟨rfl, hb2⟩
  have HX2 := Bx.mk (HX1.out.step hb2)
  have HV2 := Bx.mk (HV1.out.step hb2)
  clear hb2 HX1 HV1 HK1 HT
  generalize macL K (headL h) = M at HMD HE ⊢
  have HTH : Bx (w2.there g0 65 (bv M).toArray.size) := ⟨by rw [List.size_toArray, bv_length, HMD.out.1]; exact HX2.out.hd.thereAt 65 32 (by decide)⟩
  have HI : Bx ((Tryd.prog.info? 30).map (·.size) = some (bv M).toArray.size) := ⟨by rw [List.size_toArray, bv_length, HMD.out.1]; exact dgH_info⟩
  have HO : Bx ((bv M).toArray.all (·.oneCell') = true) := ⟨all_oneCell_toArray (bv_one _)⟩
  have HB3 : Bx (HdB (w2.setCells g0 65 (bv M).toArray.toList) g0 (sgn K h)) := ⟨by rw [← HE.out]; exact HX2.out.hd.setG HMD.out⟩
  have HV3 : Bx (NV 47 97 g0 gr (w2.setCells g0 65 (bv M).toArray.toList)) := ⟨by
    obtain ⟨cs, e1, e2⟩ := HV2.out.row
    exact ⟨HV2.out.ge, cs, e1, (setCells_other HLT.out.2.2 _ _).trans e2⟩⟩
  have HL3 : Bx (Below w.heap.size w (w2.setCells g0 65 (bv M).toArray.toList)) := ⟨below_setCells HX2.out.low g0 HLT.out.1 _ _⟩
  generalize (bv M).toArray = D at HTH HI HO HB3 HV3 HL3 ⊢
  clear HX2 HV2 HX0
  go_upto_region 2 with (refine wpList_store_mid rfl 30 (.tmp 9) (.tmp 8) rfl g0 65 D rfl rfl ?ht HI.out HO.out ?_; (case ht => exact HTH.out))
  generalize w2.setCells g0 65 D.toList = w3 at HB3 HV3 HL3 ⊢
  have HTR : Bx (w3.there gr 0 (hdA (sgn K h)).size) := ⟨HV3.out.hd_there HS.out⟩
  have HIR := Bx.mk (hdA_info HS.out)
  have HOR : Bx ((hdA (sgn K h)).all (·.oneCell') = true) := ⟨hdA_one⟩
  have HST : Bx (HdB (w3.setCells gr 0 (hdA (sgn K h)).toList) gr (sgn K h)) := ⟨HV3.out.hd HS.out⟩
  have HL4 : Bx (Below w.heap.size w (w3.setCells gr 0 (hdA (sgn K h)).toList)) := ⟨below_setCells HL3.out gr HLT.out.2.1 _ _⟩
  clear HTH HI HO
  go_wp2_with (first
    | (refine wpList_load_hd rfl (.tmp 3) rfl rfl HB3.out ?_)
    | (refine wpList_store_mid rfl 47 (.tmp 4) (.tmp 10) rfl gr 0 (hdA (sgn K h)) rfl rfl ?hu HIR.out HOR.out ?_; (case hu => exact HTR.out)))
  exact bodyPost_ret (v := .agg (hdA (sgn K h))) (results_cell_row rfl _ _ gr 47 (hdA (sgn K h)) (0, 0) _ rfl HST.out.row Tryd.underlying47 rfl HIR.out) rfl ⟨rfl, HL4.out⟩
set_option maxHeartbeats 4000000 in
set_option maxRecDepth 100000 in
theorem signed_any (h : Hd) (a : Option Addr) (len cap : Nat) (KY : List Int) (w : World) (hk : Bts w a len cap KY) (hd : HdD h) (htab : Tab w) (hs : len ≤ 1000000) :
    Calls Tryd.prog 24 #[.slice a len cap, .agg (hdA h)] w fun e w' => e = .returned (.bool (decide (h.G = macL KY (headL h)))) ∧ Below w.heap.size w w' := by
  have hx0 := HdX.new w hd htab
  have HKB := Bx.mk (hk.below hx0.low)
  obtain ⟨g0, HG⟩ : ∃ g0, Bx (g0 = w.heap.size) := ⟨_, ⟨rfl⟩⟩
  rw [← HG.out] at hx0
  have HD := Bx.mk hd
  have hd3 := dg_at g0 65
  clear hk hd htab
  go_enter Tryd.func24, Tryd.ntmps24
  go_upto_region 1 with fail
  rw [← HG.out]
  generalize w.alloc (.cells (hdA h) 47) = w0 at hx0 HKB ⊢
  have hk : HdX g0 h w w0.drew ∧ Bts w0.drew a len cap KY := ⟨⟨below_drewN hx0.low 1, hx0.hd.keep rfl, hx0.tab.drewN 1⟩, HKB.out.drewN 1⟩
  clear hx0 HKB
  refine wp_region_held_drew (S := fun W => HdX g0 h w W ∧ Bts W a len cap KY) (by kernel_rfl) hk (fun _ => ?_)
  generalize w0.drew = wd at hk ⊢
  refine wpAnyH_take (i := 0) (oi := { dst := some 5, op := Op.move (Operand.tmp 0), type := 22, pos := "head.go:30", after := #[], guard := none }) (v := ?vhsg11) rfl (by kernel_rfl) (by kernel_rfl) (by kernel_rfl) (fun _ _ _ h => h) (Or.inl ⟨by rfl, ?yhsg11⟩) hk ?rhsg11
  case yhsg11 => (intro w hSw; (try dsimp only at hSw); go_simp; first | done | with_reducible rfl)
  simp only [Act.put, List.setIfInBounds_toArray, List.set_cons_zero, List.set_cons_succ]
  refine wpAnyH_take (i := 1) (oi := { dst := some 6, op := Op.load 47 (Operand.tmp 3), type := 47, pos := "head.go:30", after := #[], guard := none }) (v := .agg (hdC h).toArray) rfl (by kernel_rfl) (by kernel_rfl) (by kernel_rfl) (fun _ _ _ h => h) (yieldsIf_load_mid (by rfl) 47 (.tmp 3) rfl g0 0 rfl (hdC h) _ (fun (W : World) (hW : HdX g0 h w W ∧ Bts W a len cap KY) => hW.1.hd.range) Tryd.underlying47 rfl (hdC_info HD.out)) hk ?_
  simp only [Act.put, List.setIfInBounds_toArray, List.set_cons_zero, List.set_cons_succ]
  refine wpAnyH_take (i := 3) (oi := { dst := some 8, op := Op.fieldAddr 47 (Operand.tmp 3) 3, type := 0, pos := "head.go:30", after := #[], guard := none }) (v := ?vhsg12) rfl (by kernel_rfl) (by kernel_rfl) (by kernel_rfl) (fun _ _ _ h => h) (Or.inl ⟨by rfl, ?yhsg12⟩) hk ?rhsg12
  case yhsg12 => (intro w hSw; (try dsimp only at hSw); go_simp; first | done | with_reducible rfl)
  simp only [Act.put, List.setIfInBounds_toArray, List.set_cons_zero, List.set_cons_succ]
  refine wpAnyH_take (i := 4) (oi := { dst := some 9, op := Op.slice 30 (Operand.tmp 8) none none none, type := 22, pos := "head.go:30", after := #[{ on := 3, ground := Ground.data }], guard := none }) (v := ?vhsg13) rfl (by kernel_rfl) (by kernel_rfl) (by kernel_rfl) (fun _ _ _ h => h) (Or.inl ⟨by rfl, ?yhsg13⟩) hk ?rhsg13
  case yhsg13 => (intro w hSw; (try dsimp only at hSw); go_simp; first | done | with_reducible rfl)
  simp only [Act.put, List.setIfInBounds_toArray, List.set_cons_zero, List.set_cons_succ]
  refine wpAnyH_ready (rs := [2]) (by decide +kernel) (by simp) ?_
  refine AllReadyH.cons (o := { dst := some 7, op := Op.call { callee := Callee.value (Operand.func 22), args := #[Operand.tmp 6], argTypes := #[47] }, type := 22, pos := "head.go:30", after := #[{ on := 1, ground := Ground.data }], guard := none }) rfl (fun K hK => ?_) AllReadyH.nil
  go_simp
  refine (headtext_any h _ HD.out hk.1.tab).mono ?_
  rintro e w1 ⟨at1, ct1, rfl, hT, hb1⟩
  replace hk := And.intro (hk.1.step hb1) (hk.2.below hb1)
  clear hb1
  refine hK.out _ _ hk (fun _ => ?_)
  clear hK K
  try simp only [Act.put, List.setIfInBounds_toArray, List.set_cons_zero, List.set_cons_succ]
  refine wpAnyH_ready (rs := [5]) (by decide +kernel) (by simp) ?_
  refine AllReadyH.cons (o := { dst := some 10, op := Op.call { callee := Callee.value (Operand.func 52), args := #[Operand.tmp 5, Operand.tmp 7, Operand.tmp 9], argTypes := #[22, 22, 22] }, type := 4, pos := "head.go:30", after := #[{ on := 0, ground := Ground.data }, { on := 2, ground := Ground.data }, { on := 4, ground := Ground.data }, { on := 2, ground := Ground.chain }], guard := none }) rfl (fun K hK => ?_) AllReadyH.nil
  go_simp
  refine (check_any a at1 _ len 72 32 cap ct1 32 KY (headL h) h.G _ hk.2 hT hk.1.hd.bG hk.1.tab (by omega) (by decide)).mono ?_
  rintro e w2 ⟨rfl, hb2⟩
  replace hk := And.intro (hk.1.step hb2) (hk.2.below hb2)
  clear hb2 hT
  refine hK.out _ _ hk (fun _ => ?_)
  clear hK K
  try simp only [Act.put, List.setIfInBounds_toArray, List.set_cons_zero, List.set_cons_succ]
  refine wpAnyH_take (i := 6) (oi := { dst := some 4, op := Op.assign (Operand.tmp 10), type := 4, pos := "head.go:30", after := #[{ on := 5, ground := Ground.data }, { on := 5, ground := Ground.chain }, { on := 0, ground := Ground.phase }, { on := 1, ground := Ground.phase }, { on := 2, ground := Ground.phase }, { on := 3, ground := Ground.phase }, { on := 4, ground := Ground.phase }, { on := 5, ground := Ground.phase }], guard := none }) (v := ?vhsg14) rfl (by kernel_rfl) (by kernel_rfl) (by kernel_rfl) (fun _ _ _ h => h) (Or.inl ⟨by rfl, ?yhsg14⟩) hk ?rhsg14
  case yhsg14 => (intro w hSw; (try dsimp only at hSw); go_simp; first | done | with_reducible rfl)
  simp only [Act.put, List.setIfInBounds_toArray, List.set_cons_zero, List.set_cons_succ]
  refine wpAnyH_done (by decide +kernel) ?_ _
  have hlow := hk.1.low
  clear hk hd3
  go_wp2
  go_ret
  exact ⟨rfl, hlow⟩
end Go.Proofs.YtbednfacipphhaaDoor
namespace Go.Proofs.YtbednfacipphhaaDoor
open Go.RowKit
set_option linter.unusedVariables false

set_option maxHeartbeats 4000000 in
set_option maxRecDepth 100000 in
theorem refheadtext_any (h : Hd) (w : World) (hd : HdD h) (htab : Tab w) :
    Calls Tryd.prog 19 #[.agg (hdA h)] w fun e w' => ∃ v, e = .returned v ∧ w'.ownsRow w.heap.size 5 1 v 72 (bv (headL h)) ∧ Below w.heap.size w w' := by
  have hx0 := HdX.new w hd htab
  obtain ⟨g0, HG⟩ : ∃ g0, Bx (g0 = w.heap.size) := ⟨_, ⟨rfl⟩⟩
  rw [← HG.out] at hx0
  obtain ⟨X, HX⟩ : ∃ X, Bx (X = h.n % 18446744073709551616) := ⟨_, ⟨rfl⟩⟩
  have hx1 : 0 ≤ X := by rw [HX.out]; omega
  have hx2 : X ≤ 18446744073709551615 := by rw [HX.out]; omega
  have hcv : IntKind.u64.wrap h.n = X := by rw [HX.out]; exact u64_mod _
  have HE : Bx (headL h = putL X 8 ++ h.R ++ h.C) := ⟨by rw [HX.out]; rfl⟩
  have hd1 := dg_at g0 1
  have hd2 := dg_at g0 33
  clear hd htab
  go_enter Tryd.func19, Tryd.ntmps19
  go_upto_region 1 with fail
  rw [← HG.out]
  generalize w.alloc (.cells (hdA h) 47) = w0 at hx0 ⊢
  have HX0 := Bx.mk hx0
  have c0 := hx0.hd.c0
  clear hx0
  go_wp2_with fail
  refine (refput_some X 8 _ (by decide) (by decide) hx1 hx2).mono ?_
  rintro e w1 ⟨v1, rfl, ho1, hb1⟩
  have HX1 := Bx.mk (HX0.out.step hb1)
  have HO1 := Bx.mk ho1
  have HB1 := Bx.mk hb1
  have HL0 := Bx.mk HX0.out.low
  clear ho1 hb1 c0
  generalize putL X 8 = P at HO1 HE
  go_upto_region 3 with (at_builtin; refine wpList_append_bts rfl (.tmp 8) (.tmp 10) rfl w0.heap.size 8 _ P rfl HO1.out (some ⟨g0, 1, none⟩) 32 32 h.R rfl HX1.out.hd.bR (by omega) HB1.out.size ?_; intro v2 w2 ho2 hb2 hg2)
  have HO2 := Bx.mk ho2
  have HB2 : Bx (Below w0.heap.size w0 w2) := ⟨HB1.out.trans hb2⟩
  have HX2 := Bx.mk (HX0.out.step HB2.out)
  clear ho2 hb2 hg2 HO1 HB1 HX1
  go_wp2_with (at_builtin; refine wpList_append_bts rfl (.tmp 12) (.tmp 14) rfl w0.heap.size 40 _ (P ++ h.R) rfl HO2.out (some ⟨g0, 33, none⟩) 32 32 h.C rfl HX2.out.hd.bC (by omega) HB2.out.size ?_; intro v3 w3 ho3 hb3 hg3)
  have HO3 : Bx (w3.ownsRow w.heap.size 5 1 v3 72 (bv (headL h))) := ⟨by rw [HE.out]; exact owns_base ho3 HL0.out.size⟩
  have HB3 : Bx (Below w.heap.size w w3) := ⟨HL0.out.trans ((HB2.out.trans hb3).mono HL0.out.size)⟩
  clear ho3 hb3 hg3 HO2 HB2 HX2
  go_wp2_with fail
  go_ret
  exact ⟨v3, rfl, HO3.out, HB3.out⟩
end Go.Proofs.YtbednfacipphhaaDoor
