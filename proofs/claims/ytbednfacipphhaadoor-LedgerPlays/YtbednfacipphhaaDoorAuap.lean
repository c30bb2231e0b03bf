/- The chain along leaves. The chain along texts: the document's own. -/
import Derived.Test.YtbednfacipphhaaDoorAuau
import Derived.Test.YtbednfacipphhaaDoorAuah
import Derived.Test.YtbednfacipphhaaDoorAuay
import Derived.Deep.CutRange
import Derived.Test.YtbednfacipphhaaDoorAuaq
import Derived.Test.YtbednfacipphhaaDoorAubc
namespace Go.Proofs.YtbednfacipphhaaDoor
open Go.RowKit
set_option linter.unusedVariables false

/-- the chain along leaves -/
def chnD (L : List (List Int)) : List Int := L.foldl (fun d x => nodeL d x 256) dz
set_option maxRecDepth 100000 in
theorem chnD_nil : chnD [] = dz := rfl
set_option maxRecDepth 100000 in
theorem chnD_snoc (L : List (List Int)) (x : List Int) : chnD (L ++ [x]) = nodeL (chnD L) x 256 := by unfold chnD; rw [List.foldl_append]; rfl
set_option maxRecDepth 100000 in
theorem chnD_more (L : List (List Int)) (k : Nat) (h : k < L.length) : chnD (L.take (k + 1)) = nodeL (chnD (L.take k)) (L.getD k []) 256 := by rw [takeT L k h, chnD_snoc]
set_option maxRecDepth 100000 in
theorem chnD_dg (L : List (List Int)) : Dg (chnD L) := by
  rcases List.eq_nil_or_concat L with h | ⟨a, t, h⟩
  · rw [h]; exact dz_dg
  · rw [h, List.concat_eq_append, chnD_snoc]; exact nodeL_dg _ _ _
set_option maxRecDepth 100000 in
theorem chnD_leaves (T : List (List Int)) : chnD (leavesL T 256) = chnT T := by unfold chnD chnT leavesL; rw [List.foldl_map]
/-- a digest in a variable -/
structure DgV (w : World) (g : Nat) (l : List Int) : Prop where
  row : w.heap[g]? = some (.cells (bv l).toArray 30 (0, 0))
  dg : Dg l
section
variable {w w' : World} {g : Nat} {l m : List Int}
set_option maxRecDepth 100000 in
theorem DgV.lt (h : DgV w g l) : g < w.heap.size := (Array.getElem?_eq_some_iff.1 h.row).1
set_option maxRecDepth 100000 in
theorem DgV.below (h : DgV w g l) (hb : Below w.heap.size w w') : DgV w' g l := ⟨(hb.block g h.lt).trans h.row, h.dg⟩
set_option maxRecDepth 100000 in
theorem DgV.new (w : World) (hl : Dg l) : DgV (w.alloc (.cells (bv l).toArray 30)) w.heap.size l := ⟨heap_alloc_new _ _, hl⟩
set_option maxRecDepth 100000 in
theorem dgv_size (hl : Dg l) : (bv l).toArray.size = 32 := by rw [List.size_toArray, bv_length, hl.1]
set_option maxRecDepth 100000 in
theorem dgv_info (hl : Dg l) : (Tryd.prog.info? 30).map (·.size) = some (bv l).toArray.size := by rw [dgv_size hl]; exact dgH_info
set_option maxRecDepth 100000 in
theorem DgV.there (h : DgV w g l) (hm : Dg m) : w.there g 0 (bv m).toArray.size := by
  have := there_row h.row
  rw [dgv_size h.dg] at this
  rw [dgv_size hm]; exact this
set_option maxRecDepth 100000 in
theorem DgV.put (h : DgV w g l) (hm : Dg m) : DgV (w.setCells g 0 (bv m).toArray.toList) g m := ⟨heap_stored h.row (by rw [dgv_size hm, dgv_size h.dg]), hm⟩
set_option maxRecDepth 100000 in
theorem DgV.other (h : DgV w g l) {k : Nat} (hne : g ≠ k) (o : Nat) (vs : List Value) : DgV (w.setCells k o vs) g l := ⟨(setCells_other hne vs o).trans h.row, h.dg⟩
set_option maxRecDepth 100000 in
theorem DgV.range (h : DgV w g l) : w.rangeAt g 0 (bv l) := fun j v hj => by
  rw [Nat.zero_add, cell_of_row _ g j _ _ (0, 0) h.row, List.getElem?_toArray]; exact hj
end
set_option maxRecDepth 100000 in
theorem dgv_one (l : List Int) : (bv l).toArray.all (·.oneCell') = true := all_oneCell_toArray (bv_one _)
set_option maxRecDepth 100000 in
theorem dz_zero : (Tryd.prog.info? 30).map (fun i => i.zero) = some (some (.agg (bv dz).toArray)) := by kernel_rfl
set_option maxRecDepth 100000 in
theorem dz_run (w : World) : (zeroValue 30).run Tryd.prog w = .ok (.agg (bv dz).toArray) w := by
  obtain ⟨i, h1, h2⟩ := Option.map_eq_some_iff.1 dz_zero
  simp [zeroValue, typeInfo, h1, h2]
set_option maxRecDepth 100000 in
/-- a digest is read whole, wherever it lies, also under a guard -/
theorem wpList_load_dgR {ops : Array Oper} {rest : List Oper} {o : Oper} {a : Act} {w : World} {Q : Exit → Act → World → Prop} {b of : Nat} {l : List Int} (hw : Region.wanted o (yielded ops a.tmps) = true) (x : Operand) (ho : o.op = .load 30 x) (hx : a.eval x = .pointer (some ⟨b, of, none⟩))
    (hr : w.rangeAt b of (bv l)) (hl : l.length = 32) (h : wpList Tryd.prog ops Q rest (a.put o.dst (.agg (bv l).toArray)) w) : wpList Tryd.prog ops Q (o :: rest) a w :=
  wpList_step fun K hK => by
    rw [if_pos hw]
    exact wp_load_mid 30 x ho b of hx (bv l) _ hr Tryd.underlying30 rfl (by rw [bv_length, hl]; exact dgH_info) (hK _ _ h)
/-- what holds while a chain is made: its variable, the answer's -/
structure ChI (gr gc : Nat) (d : List Int) (w wr : World) : Prop where
  low : Below w.heap.size w wr
  var : DgV wr gc d
  res : ∃ l, DgV wr gr l
set_option maxRecDepth 100000 in
theorem ChI.step {gr gc : Nat} {d : List Int} {w wr w1 : World} (h : ChI gr gc d w wr) (hb : Below wr.heap.size wr w1) : ChI gr gc d w w1 := by
  obtain ⟨l, hl⟩ := h.res
  exact ⟨bstep h.low hb, h.var.below hb, l, hl.below hb⟩
set_option maxRecDepth 100000 in
theorem ChI.put {gr gc : Nat} {d m : List Int} {w wr : World} (h : ChI gr gc d w wr) (hm : Dg m) (hc : w.heap.size ≤ gc) (hne : gr ≠ gc) : ChI gr gc m w (wr.setCells gc 0 (bv m).toArray.toList) := by
  obtain ⟨l, hl⟩ := h.res
  exact ⟨below_setCells h.low gc hc _ _, h.var.put hm, l, hl.other hne _ _⟩
set_option maxRecDepth 100000 in
theorem chi_new (w : World) : ChI w.heap.size (w.heap.size + 1) dz w ((w.alloc (.cells (bv dz).toArray 30)).alloc (.cells (bv dz).toArray 30)) := by
  have hb1 : Below w.heap.size w (w.alloc (.cells (bv dz).toArray 30)) := (Below.refl _ _).alloc (Nat.le_refl _) _
  have hb2 : Below (w.alloc (.cells (bv dz).toArray 30)).heap.size (w.alloc (.cells (bv dz).toArray 30)) ((w.alloc (.cells (bv dz).toArray 30)).alloc (.cells (bv dz).toArray 30)) := (Below.refl _ _).alloc (Nat.le_refl _) _
  have h2 := DgV.new (w.alloc (.cells (bv dz).toArray 30)) dz_dg
  refine ⟨bstep hb1 hb2, by simpa using h2, dz, (DgV.new w dz_dg).below hb2⟩
set_option maxHeartbeats 4000000 in
set_option maxRecDepth 100000 in
theorem chain21_any (a : Option Addr) (len cap : Nat) (L : List (List Int)) (w : World) (hL : Dgs w a len cap L) (htab : Tab w) (hl : len ≤ 1000) :
    Calls Tryd.prog 81 #[.slice a len cap] w fun e w' => e = .returned (.agg (bv (chnD L)).toArray) ∧ Below w.heap.size w w' := by
  have HC0 := Bx.mk (chi_new w)
  have HL := Bx.mk hL
  have HLL : Bx (L.length = len) := ⟨hL.len_eq⟩
  have HT := Bx.mk htab
  have hzd := dz_run
  obtain ⟨gr, HGR⟩ : ∃ gr, Bx (gr = w.heap.size) := ⟨_, ⟨rfl⟩⟩
  obtain ⟨gc, HGC⟩ : ∃ gc, Bx (gc = w.heap.size + 1) := ⟨_, ⟨rfl⟩⟩
  have HLT : Bx (w.heap.size ≤ gr ∧ w.heap.size ≤ gc ∧ gr ≠ gc) := ⟨by have := HGC.out; have := HGR.out; omega⟩
  clear hL htab
  go_enter Tryd.func81, Tryd.ntmps81
  go_upto_region 2 with fail
  rw [← HGC.out, ← HGR.out] at HC0
  rw [← HGC.out, ← HGR.out]
  generalize (w.alloc (.cells (bv dz).toArray 30)).alloc (.cells (bv dz).toArray 30) = w0 at HC0 ⊢
  go_wp2_with fail
  go_loopw [8] (fun i wr => ∃ k : Nat, k ≤ len ∧ i = .int .i64 k ∧ Bx (ChI gr gc (chnD (L.take k)) w wr)) (fun i _ => len - (intOf i).toNat)
  case atStart => exact ⟨0, Nat.zero_le _, rfl, HC0⟩
  case round =>
    clear HC0
    obtain ⟨k, hk, rfl, HC⟩ := hrel
    by_cases hlt : k < len
    · have g1 : (k : Int) < (len : Int) := by omega
      have hLw := HL.out.below HC.out.low
      have hxd : Dg (L.getD k []) := hLw.dig.getD k (by rw [HLL.out]; exact hlt)
      obtain ⟨b, off, rfl, hblt, hc⟩ := hLw.spot (by omega)
      have hr := hc k hlt
      have hrk : wr.rangeAt b (off + k * 32) (bv (L.getD k [])) := by rw [Nat.mul_comm]; exact hr
      have HMO : Bx (chnD (L.take (k + 1)) = nodeL (chnD (L.take k)) (L.getD k []) 256) := ⟨chnD_more L k (by rw [HLL.out]; exact hlt)⟩
      generalize L.getD k [] = x at hxd hr hrk HMO
      have HXD := Bx.mk hxd
      have hbA : Below wr.heap.size wr (wr.alloc (.cells (bv dz).toArray 30)) := (Below.refl _ _).alloc (Nat.le_refl _) _
      have HVA := Bx.mk (DgV.new wr dz_dg)
      have HCA := Bx.mk (HC.out.step hbA)
      have HTH : Bx ((wr.alloc (.cells (bv dz).toArray 30)).there wr.heap.size 0 (bv x).toArray.size) := ⟨HVA.out.there hxd⟩
      have HI : Bx ((Tryd.prog.info? 30).map (·.size) = some (bv x).toArray.size) := ⟨dgv_info hxd⟩
      have HO : Bx ((bv x).toArray.all (·.oneCell') = true) := ⟨dgv_one x⟩
      have HV5 : Bx (DgV ((wr.alloc (.cells (bv dz).toArray 30)).setCells wr.heap.size 0 (bv x).toArray.toList) wr.heap.size x) := ⟨HVA.out.put hxd⟩
      have hb5 : Below wr.heap.size wr ((wr.alloc (.cells (bv dz).toArray 30)).setCells wr.heap.size 0 (bv x).toArray.toList) := below_setCells hbA _ (Nat.le_refl _) _ _
      have HC5 := Bx.mk (HC.out.step hb5)
      clear hbA hb5 HVA HCA hr hc hLw hxd
      go_upto_region 5 with (first
        | (refine wpList_load_dgR rfl (.tmp 10) rfl rfl hrk HXD.out.1 ?_)
        | (refine wpList_store_mid rfl 30 (.tmp 5) (.tmp 11) rfl wr.heap.size 0 (bv x).toArray rfl rfl ?ht HI.out HO.out ?_; (case ht => exact HTH.out)))
      obtain ⟨g5, HG5⟩ : ∃ g5, Bx (g5 = wr.heap.size) := ⟨_, ⟨rfl⟩⟩
      rw [← HG5.out] at HV5 HC5 ⊢
      generalize (wr.alloc (.cells (bv dz).toArray 30)).setCells g5 0 (bv x).toArray.toList = w5 at HV5 HC5 ⊢
      clear HTH HI HO hrk
      go_wp2_with (first
        | (refine wpList_load_dgR rfl (.tmp 3) rfl rfl HC5.out.var.range HC5.out.var.dg.1 ?_)
        | (refine wpList_load_dgR rfl (.tmp 5) rfl rfl HV5.out.range HXD.out.1 ?_))
      refine (node_any (chnD (L.take k)) x 256 _ HC5.out.var.dg HXD.out (HT.out.below HC5.out.low)).mono ?_
      rintro e w6 ⟨rfl, hb6⟩
      have HC6 := Bx.mk (HC5.out.step hb6)
      have HND : Bx (Dg (chnD (L.take (k + 1)))) := ⟨chnD_dg _⟩
      rw [← HMO.out]
      have HC7 : Bx (ChI gr gc (chnD (L.take (k + 1))) w (w6.setCells gc 0 (bv (chnD (L.take (k + 1)))).toArray.toList)) := ⟨HC6.out.put HND.out HLT.out.2.1 HLT.out.2.2⟩
      have HTH : Bx (w6.there gc 0 (bv (chnD (L.take (k + 1)))).toArray.size) := ⟨HC6.out.var.there HND.out⟩
      have HI : Bx ((Tryd.prog.info? 30).map (·.size) = some (bv (chnD (L.take (k + 1)))).toArray.size) := ⟨dgv_info HND.out⟩
      have HO : Bx ((bv (chnD (L.take (k + 1)))).toArray.all (·.oneCell') = true) := ⟨dgv_one _⟩
      clear hb6 HC5 HC6 HV5 HMO HC
      generalize (bv (chnD (L.take (k + 1)))).toArray = D at HC7 HTH HI HO ⊢
      go_wp2_with (refine wpList_store_mid rfl 30 (.tmp 3) (.tmp 14) rfl gc 0 D rfl rfl ?ht HI.out HO.out ?_; (case ht => exact HTH.out))
      go_roundw
      case rel => exact ⟨k + 1, by omega, by go_num, HC7⟩
      case measure => simp [intOf]; omega
    · have g1 : ¬ (k : Int) < (len : Int) := by omega
      obtain rfl : k = len := by omega
      have HE : Bx (L.take k = L) := ⟨List.take_of_length_le (by rw [HLL.out]; exact Nat.le_refl _)⟩
      rw [HE.out] at HC
      obtain ⟨l0, hl0⟩ := HC.out.res
      have HND : Bx (Dg (chnD L)) := ⟨chnD_dg _⟩
      have HTH : Bx (wr.there gr 0 (bv (chnD L)).toArray.size) := ⟨hl0.there HND.out⟩
      have HI : Bx ((Tryd.prog.info? 30).map (·.size) = some (bv (chnD L)).toArray.size) := ⟨dgv_info HND.out⟩
      have HO : Bx ((bv (chnD L)).toArray.all (·.oneCell') = true) := ⟨dgv_one _⟩
      have HST : Bx (DgV (wr.setCells gr 0 (bv (chnD L)).toArray.toList) gr (chnD L)) := ⟨hl0.put HND.out⟩
      have HBS : Bx (Below w.heap.size w (wr.setCells gr 0 (bv (chnD L)).toArray.toList)) := ⟨below_setCells HC.out.low gr HLT.out.1 _ _⟩
      clear hl0 hlt hk
      go_wp2_with (first
        | (refine wpList_load_dgR rfl (.tmp 3) rfl rfl HC.out.var.range HC.out.var.dg.1 ?_)
        | (refine wpList_store_mid rfl 30 (.tmp 2) (.tmp 16) rfl gr 0 (bv (chnD L)).toArray rfl rfl ?hu HI.out HO.out ?_; (case hu => exact HTH.out)))
      exact bodyPost_ret (v := .agg (bv (chnD L)).toArray) (results_cell_row rfl _ _ gr 30 (bv (chnD L)).toArray (0, 0) _ rfl HST.out.row Tryd.underlying30 rfl HI.out) rfl ⟨rfl, HBS.out⟩
end Go.Proofs.YtbednfacipphhaaDoor
namespace Go.Proofs.YtbednfacipphhaaDoor
open Go.RowKit
set_option linter.unusedVariables false

set_option maxHeartbeats 4000000 in
set_option maxRecDepth 100000 in
theorem refchain21_any (a : Option Addr) (len cap : Nat) (T : List (List Int)) (w : World) (hT : Txs w a len cap T) (hf : ∀ t ∈ T, t.length ≤ 1000000) :
    Calls Tryd.prog 62 #[.slice a len cap] w fun e w' => e = .returned (.agg (bv (chnT T)).toArray) ∧ Below w.heap.size w w' := by
  have HC0 := Bx.mk (chi_new w)
  have HL := Bx.mk hT
  have HLL : Bx (T.length = len) := ⟨hT.len_eq⟩
  have hcm := Nat.le_trans hT.le_cap hT.cap_le
  unfold maxLen at hcm
  have hzd := dz_run
  obtain ⟨gr, HGR⟩ : ∃ gr, Bx (gr = w.heap.size) := ⟨_, ⟨rfl⟩⟩
  obtain ⟨gc, HGC⟩ : ∃ gc, Bx (gc = w.heap.size + 1) := ⟨_, ⟨rfl⟩⟩
  have HLT : Bx (w.heap.size ≤ gr ∧ w.heap.size ≤ gc ∧ gr ≠ gc) := ⟨by have := HGC.out; have := HGR.out; omega⟩
  clear hT
  go_enter Tryd.func62, Tryd.ntmps62
  go_upto_region 2 with fail
  rw [← HGC.out, ← HGR.out] at HC0
  rw [← HGC.out, ← HGR.out]
  generalize (w.alloc (.cells (bv dz).toArray 30)).alloc (.cells (bv dz).toArray 30) = w0 at HC0 ⊢
  clear hzd
  go_wp2_with fail
  go_loopw [4] (fun i wr => ∃ k : Nat, k ≤ len ∧ i = .int .i64 k ∧ Bx (ChI gr gc (chnT (T.take k)) w wr)) (fun i _ => len - (intOf i).toNat)
  case atStart => exact ⟨0, Nat.zero_le _, rfl, HC0⟩
  case round =>
    clear HC0
    obtain ⟨k, hk0, rfl, HC⟩ := hrel
    by_cases hlt : k < len
    · have g1 : (k : Int) < (len : Int) := by omega
      have hLw := HL.out.below HC.out.low
      obtain ⟨b, off, rfl, hblt0, _⟩ := HL.out.spot (by omega)
      obtain ⟨b', off', e, hblt, hc⟩ := hLw.spot (by omega)
      cases e
      obtain ⟨ai, li, ci, hcell, hbt⟩ := hc k hlt
      have HF : Bx (li ≤ 1000000) := ⟨by
        rw [← hbt.len_eq]
        refine hf _ ?_
        rw [List.getD_eq_getElem?_getD, List.getElem?_eq_getElem (by rw [HLL.out]; exact hlt)]; exact List.getElem_mem _⟩
      have HMO : Bx (chnT (T.take (k + 1)) = nodeL (chnT (T.take k)) (leafL (T.getD k []) 256) 256) := ⟨chnT_more T k (by rw [HLL.out]; exact hlt)⟩
      have HDD := Bx.mk (chnT_dg (T.take k))
      have HDN := Bx.mk (chnT_dg (T.take (k + 1)))
      obtain ⟨dn, HDE⟩ : ∃ dn, Bx (chnT (T.take (k + 1)) = dn) := ⟨_, ⟨rfl⟩⟩
      rw [HDE.out] at HMO HDN
      generalize T.getD k [] = t at hbt HMO
      generalize chnT (T.take k) = d at HC HMO HDD
      have HBG : Bx (b ≠ gc) := ⟨by have := HLT.out; omega⟩
      have HBL : Bx (b < wr.heap.size) := ⟨hblt⟩
      have hk : wr.drew.cell? ⟨b, off + k, none⟩ = some (.slice ai li ci) := hcell
      have hx : ChI gr gc d w wr.drew ∧ Bts wr.drew ai li ci t ∧ b < wr.drew.heap.size := ⟨HC.out.step ((Below.refl _ _).drew), hbt.drewN 1, hblt⟩
      clear HC hcell hbt hLw hc hblt hblt0
      go_upto_region 5 with fail
      refine wp_region_held_drew (S := fun W => W.cell? ⟨b, off + k, none⟩ = some (.slice ai li ci)) (by kernel_rfl) hk (fun _ => ?_)
      generalize wr.drew = wd at hk hx ⊢
      refine wpAnyH_take (i := 1) (oi := { dst := some 12, op := Op.move (Operand.tmp 0), type := 28, pos := "ref.go:31", after := #[], guard := none }) (v := ?vrch51) rfl (by kernel_rfl) (by kernel_rfl) (by kernel_rfl) (fun _ _ _ h => h) (Or.inl ⟨by rfl, ?yrch51⟩) hk ?rrch51
      case yrch51 => (intro w hSw; (try dsimp only at hSw); go_simp; first | done | with_reducible rfl)
      simp only [Act.put, List.setIfInBounds_toArray, List.set_cons_zero, List.set_cons_succ]
      refine wpAnyH_take (i := 2) (oi := { dst := some 13, op := Op.move (Operand.tmp 4), type := 3, pos := "ref.go:31", after := #[], guard := none }) (v := ?vrch52) rfl (by kernel_rfl) (by kernel_rfl) (by kernel_rfl) (fun _ _ _ h => h) (Or.inl ⟨by rfl, ?yrch52⟩) hk ?rrch52
      case yrch52 => (intro w hSw; (try dsimp only at hSw); go_simp; first | done | with_reducible rfl)
      simp only [Act.put, List.setIfInBounds_toArray, List.set_cons_zero, List.set_cons_succ]
      refine wpAnyH_take (i := 3) (oi := { dst := some 14, op := Op.indexAddr 28 (Operand.tmp 12) (Operand.tmp 13), type := 0, pos := "ref.go:31", after := #[{ on := 1, ground := Ground.data }, { on := 2, ground := Ground.data }], guard := none }) (v := ?vrch53) rfl (by kernel_rfl) (by kernel_rfl) (by kernel_rfl) (fun _ _ _ h => h) (Or.inl ⟨by rfl, ?yrch53⟩) hk ?rrch53
      case yrch53 => (intro w hSw; (try dsimp only at hSw); go_simp; first | done | with_reducible rfl)
      simp only [Act.put, List.setIfInBounds_toArray, List.set_cons_zero, List.set_cons_succ]
      refine wpAnyH_take (i := 4) (oi := { dst := some 15, op := Op.load 22 (Operand.tmp 14), type := 22, pos := "ref.go:31", after := #[{ on := 3, ground := Ground.data }], guard := none }) (v := ?vrch54) rfl (by kernel_rfl) (by kernel_rfl) (by kernel_rfl) (fun _ _ _ h => h) (Or.inl ⟨by rfl, ?yrch54⟩) hk ?rrch54
      case yrch54 => (intro w hSw; have hcw := hSw; clear hSw; go_simp; first | done | with_reducible rfl)
      simp only [Act.put, List.setIfInBounds_toArray, List.set_cons_zero, List.set_cons_succ]
      refine wpAnyH_ready (rs := [0, 5]) (by decide +kernel) (by simp) ?_
      refine (AllReadyH.cons (o := { dst := some 11, op := Op.load 30 (Operand.tmp 3), type := 30, pos := "ref.go:31", after := #[], guard := none }) rfl (fun K hK => ?_) (AllReadyH.cons (o := { dst := some 16, op := Op.call { callee := Callee.value (Operand.func 63), args := #[Operand.tmp 15, Operand.const (Value.int IntKind.i64 256)], argTypes := #[22, 3] }, type := 30, pos := "ref.go:31", after := #[{ on := 4, ground := Ground.data }], guard := none }) rfl (fun K hK => ?_) AllReadyH.nil))
      · rw [if_pos (by rfl)]
        refine wp_load_mid 30 (.tmp 3) rfl gc 0 rfl (bv d) _ hx.1.var.range Tryd.underlying30 rfl (by rw [bv_length, HDD.out.1]; exact dgH_info) ?_
        simp only [Act.put, List.setIfInBounds_toArray, List.set_cons_zero, List.set_cons_succ]
        refine hK.out _ _ hk (fun _ => ?_)
        clear hK K
        try simp only [Act.put, List.setIfInBounds_toArray, List.set_cons_zero, List.set_cons_succ]
        refine wpAnyH_ready (rs := [5]) (by decide +kernel) (by simp) ?_
        refine AllReadyH.cons (o := { dst := some 16, op := Op.call { callee := Callee.value (Operand.func 63), args := #[Operand.tmp 15, Operand.const (Value.int IntKind.i64 256)], argTypes := #[22, 3] }, type := 30, pos := "ref.go:31", after := #[{ on := 4, ground := Ground.data }], guard := none }) rfl (fun K hK => ?_) AllReadyH.nil
        go_simp
        refine (refleaf_any ai li ci t 256 _ hx.2.1 HF.out).mono ?_
        rintro e wd1 ⟨rfl, hb1⟩
        replace hk := (hb1.cell hx.2.2).trans hk
        replace hx := And.intro (hx.1.step hb1) (And.intro (hx.2.1.below hb1) (Nat.lt_of_lt_of_le hx.2.2 hb1.size))
        clear hb1
        refine hK.out _ _ hk (fun _ => ?_)
        clear hK K
        try simp only [Act.put, List.setIfInBounds_toArray, List.set_cons_zero, List.set_cons_succ]
        refine wpAnyH_ready (rs := [6]) (by decide +kernel) (by simp) ?_
        refine AllReadyH.cons (o := { dst := some 17, op := Op.call { callee := Callee.value (Operand.func 90), args := #[Operand.tmp 11, Operand.tmp 16, Operand.const (Value.int IntKind.i64 256)], argTypes := #[30, 30, 3] }, type := 30, pos := "ref.go:31", after := #[{ on := 0, ground := Ground.data }, { on := 5, ground := Ground.data }, { on := 5, ground := Ground.chain }], guard := none }) rfl (fun K hK => ?_) AllReadyH.nil
        go_simp
        refine (refnode_any d (leafL t 256) 256 _ HDD.out (leafL_dg _ _)).mono ?_
        rintro e wd2 ⟨rfl, hb2⟩
        rw [← HMO.out]
        replace hk := (hb2.cell hx.2.2).trans hk
        replace hx := And.intro (hx.1.step hb2) (And.intro (hx.2.1.below hb2) (Nat.lt_of_lt_of_le hx.2.2 hb2.size))
        clear hb2
        have HTH : Bx (wd2.there gc 0 (bv dn).toArray.size) := ⟨hx.1.var.there HDN.out⟩
        have HI : Bx ((Tryd.prog.info? 30).map (·.size) = some (bv dn).toArray.size) := ⟨dgv_info HDN.out⟩
        have HO : Bx ((bv dn).toArray.all (·.oneCell') = true) := ⟨dgv_one _⟩
        have HC7 : Bx (ChI gr gc dn w (wd2.setCells gc 0 (bv dn).toArray.toList)) := ⟨hx.1.put HDN.out HLT.out.2.1 HLT.out.2.2⟩
        refine hK.out _ _ hk (fun _ => ?_)
        clear hK K
        try simp only [Act.put, List.setIfInBounds_toArray, List.set_cons_zero, List.set_cons_succ]
        refine wpAnyH_ready (rs := [7]) (by decide +kernel) (by simp) ?_
        refine AllReadyH.cons (o := { dst := none, op := Op.store 30 (Operand.tmp 3) (Operand.tmp 17), type := 0, pos := "ref.go:31", after := #[{ on := 6, ground := Ground.data }, { on := 6, ground := Ground.chain }, { on := 0, ground := Ground.phase }, { on := 1, ground := Ground.phase }, { on := 2, ground := Ground.phase }, { on := 3, ground := Ground.phase }, { on := 4, ground := Ground.phase }, { on := 5, ground := Ground.phase }, { on := 6, ground := Ground.phase }], guard := none }) rfl (fun K hK => ?_) AllReadyH.nil
        rw [if_pos (by rfl)]
        refine wp_store_mid 30 (.tmp 3) (.tmp 17) rfl gc 0 (bv dn).toArray rfl rfl ?htrch56 HI.out HO.out ?_
        case htrch56 => exact HTH.out
        replace hk : (wd2.setCells gc 0 (bv dn).toArray.toList).cell? ⟨b, off + k, none⟩ = some (.slice ai li ci) := (World.cell?_of_block (setCells_other HBG.out _ _)).trans hk
        simp only [Act.put]
        refine hK.out _ _ hk (fun _ => ?_)
        clear hK K
        try simp only [Act.put, List.setIfInBounds_toArray, List.set_cons_zero, List.set_cons_succ]
        refine wpAnyH_done (by decide +kernel) ?_ _
        clear hk hx HTH HI HO
        go_wp2
        go_roundw
        case rel => exact ⟨k + 1, by omega, by go_num, by rw [HDE.out]; exact HC7⟩
        case measure => simp [intOf]; omega
      · go_simp
        refine (refleaf_any ai li ci t 256 _ hx.2.1 HF.out).mono ?_
        rintro e wd1 ⟨rfl, hb1⟩
        replace hk := (hb1.cell hx.2.2).trans hk
        replace hx := And.intro (hx.1.step hb1) (And.intro (hx.2.1.below hb1) (Nat.lt_of_lt_of_le hx.2.2 hb1.size))
        clear hb1
        refine hK.out _ _ hk (fun _ => ?_)
        clear hK K
        try simp only [Act.put, List.setIfInBounds_toArray, List.set_cons_zero, List.set_cons_succ]
        refine wpAnyH_ready (rs := [0]) (by decide +kernel) (by simp) ?_
        refine AllReadyH.cons (o := { dst := some 11, op := Op.load 30 (Operand.tmp 3), type := 30, pos := "ref.go:31", after := #[], guard := none }) rfl (fun K hK => ?_) AllReadyH.nil
        rw [if_pos (by rfl)]
        refine wp_load_mid 30 (.tmp 3) rfl gc 0 rfl (bv d) _ hx.1.var.range Tryd.underlying30 rfl (by rw [bv_length, HDD.out.1]; exact dgH_info) ?_
        simp only [Act.put, List.setIfInBounds_toArray, List.set_cons_zero, List.set_cons_succ]
        refine hK.out _ _ hk (fun _ => ?_)
        clear hK K
        try simp only [Act.put, List.setIfInBounds_toArray, List.set_cons_zero, List.set_cons_succ]
        refine wpAnyH_ready (rs := [6]) (by decide +kernel) (by simp) ?_
        refine AllReadyH.cons (o := { dst := some 17, op := Op.call { callee := Callee.value (Operand.func 90), args := #[Operand.tmp 11, Operand.tmp 16, Operand.const (Value.int IntKind.i64 256)], argTypes := #[30, 30, 3] }, type := 30, pos := "ref.go:31", after := #[{ on := 0, ground := Ground.data }, { on := 5, ground := Ground.data }, { on := 5, ground := Ground.chain }], guard := none }) rfl (fun K hK => ?_) AllReadyH.nil
        go_simp
        refine (refnode_any d (leafL t 256) 256 _ HDD.out (leafL_dg _ _)).mono ?_
        rintro e wd2 ⟨rfl, hb2⟩
        rw [← HMO.out]
        replace hk := (hb2.cell hx.2.2).trans hk
        replace hx := And.intro (hx.1.step hb2) (And.intro (hx.2.1.below hb2) (Nat.lt_of_lt_of_le hx.2.2 hb2.size))
        clear hb2
        have HTH : Bx (wd2.there gc 0 (bv dn).toArray.size) := ⟨hx.1.var.there HDN.out⟩
        have HI : Bx ((Tryd.prog.info? 30).map (·.size) = some (bv dn).toArray.size) := ⟨dgv_info HDN.out⟩
        have HO : Bx ((bv dn).toArray.all (·.oneCell') = true) := ⟨dgv_one _⟩
        have HC7 : Bx (ChI gr gc dn w (wd2.setCells gc 0 (bv dn).toArray.toList)) := ⟨hx.1.put HDN.out HLT.out.2.1 HLT.out.2.2⟩
        refine hK.out _ _ hk (fun _ => ?_)
        clear hK K
        try simp only [Act.put, List.setIfInBounds_toArray, List.set_cons_zero, List.set_cons_succ]
        refine wpAnyH_ready (rs := [7]) (by decide +kernel) (by simp) ?_
        refine AllReadyH.cons (o := { dst := none, op := Op.store 30 (Operand.tmp 3) (Operand.tmp 17), type := 0, pos := "ref.go:31", after := #[{ on := 6, ground := Ground.data }, { on := 6, ground := Ground.chain }, { on := 0, ground := Ground.phase }, { on := 1, ground := Ground.phase }, { on := 2, ground := Ground.phase }, { on := 3, ground := Ground.phase }, { on := 4, ground := Ground.phase }, { on := 5, ground := Ground.phase }, { on := 6, ground := Ground.phase }], guard := none }) rfl (fun K hK => ?_) AllReadyH.nil
        rw [if_pos (by rfl)]
        refine wp_store_mid 30 (.tmp 3) (.tmp 17) rfl gc 0 (bv dn).toArray rfl rfl ?htrch58 HI.out HO.out ?_
        case htrch58 => exact HTH.out
        replace hk : (wd2.setCells gc 0 (bv dn).toArray.toList).cell? ⟨b, off + k, none⟩ = some (.slice ai li ci) := (World.cell?_of_block (setCells_other HBG.out _ _)).trans hk
        simp only [Act.put]
        refine hK.out _ _ hk (fun _ => ?_)
        clear hK K
        try simp only [Act.put, List.setIfInBounds_toArray, List.set_cons_zero, List.set_cons_succ]
        refine wpAnyH_done (by decide +kernel) ?_ _
        clear hk hx HTH HI HO
        go_wp2
        go_roundw
        case rel => exact ⟨k + 1, by omega, by go_num, by rw [HDE.out]; exact HC7⟩
        case measure => simp [intOf]; omega
    · have g1 : ¬ (k : Int) < (len : Int) := by omega
      obtain rfl : k = len := by omega
      have HE : Bx (T.take k = T) := ⟨List.take_of_length_le (by rw [HLL.out]; exact Nat.le_refl _)⟩
      rw [HE.out] at HC
      obtain ⟨l0, hl0⟩ := HC.out.res
      have HND : Bx (Dg (chnT T)) := ⟨chnT_dg _⟩
      have HTH : Bx (wr.there gr 0 (bv (chnT T)).toArray.size) := ⟨hl0.there HND.out⟩
      have HI : Bx ((Tryd.prog.info? 30).map (·.size) = some (bv (chnT T)).toArray.size) := ⟨dgv_info HND.out⟩
      have HO : Bx ((bv (chnT T)).toArray.all (·.oneCell') = true) := ⟨dgv_one _⟩
      have HST : Bx (DgV (wr.setCells gr 0 (bv (chnT T)).toArray.toList) gr (chnT T)) := ⟨hl0.put HND.out⟩
      have HBS : Bx (Below w.heap.size w (wr.setCells gr 0 (bv (chnT T)).toArray.toList)) := ⟨below_setCells HC.out.low gr HLT.out.1 _ _⟩
      clear hl0 hlt hk0
      go_wp2_with (first
        | (refine wpList_load_dgR rfl (.tmp 3) rfl rfl HC.out.var.range HC.out.var.dg.1 ?_)
        | (refine wpList_store_mid rfl 30 (.tmp 2) (.tmp 18) rfl gr 0 (bv (chnT T)).toArray rfl rfl ?hu HI.out HO.out ?_; (case hu => exact HTH.out)))
      exact bodyPost_ret (v := .agg (bv (chnT T)).toArray) (results_cell_row rfl _ _ gr 30 (bv (chnT T)).toArray (0, 0) _ rfl HST.out.row Tryd.underlying30 rfl HI.out) rfl ⟨rfl, HBS.out⟩
end Go.Proofs.YtbednfacipphhaaDoor
