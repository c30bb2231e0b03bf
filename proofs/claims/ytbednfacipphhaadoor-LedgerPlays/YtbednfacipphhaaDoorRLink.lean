/- What the last link of a chain is the sum of: the law's. -/
import Derived.Test.YtbednfacipphhaaDoorAuap
import Derived.Test.YtbednfacipphhaaDoorEnMem
import Derived.Test.YtbednfacipphhaaDoorAuav
namespace Go.Proofs.YtbednfacipphhaaDoor
open Go.RowKit
set_option linter.unusedVariables false

set_option maxRecDepth 100000 in
theorem txs_take {w : World} {a : Option Addr} {n c m : Nat} {T : List (List Int)} (h : Txs w a n c T) (hm : m ≤ n) : Txs w a m c (T.take m) :=
  ⟨by rw [List.length_take, h.len_eq]; omega, Nat.le_trans hm h.le_cap, h.cap_le, fun hp => by
    obtain ⟨b, off, e, hlt, hc⟩ := h.spot (by omega)
    refine ⟨b, off, e, hlt, fun i hi => ?_⟩
    rw [List.getD_eq_getElem?_getD, List.getElem?_take, if_pos hi, ← List.getD_eq_getElem?_getD]
    exact hc i (by omega)⟩
set_option maxRecDepth 100000 in
theorem ot_nocap {N : Nat} {a : Option Addr} {n c : Nat} {L : List (List Int)} {w wr : World} (h : OT N (.slice a n c) L w wr) : a = none → c = 0 := fun e => by
  subst e
  obtain ⟨xs, hxo, _⟩ := h.own
  rcases hxo.2 with ⟨h1, _⟩ | ⟨g9, c9, _, h1, _⟩
  · simp only [Value.slice.injEq] at h1
    exact h1.2.2
  · simp at h1
set_option maxRecDepth 100000 in
theorem txs_size (w : World) : (Go.sizeOf (Tryd.prog.elem 28)).run Tryd.prog w = .ok 1 w := by kernel_rfl
set_option maxRecDepth 100000 in
theorem txs_under : Tryd.prog.underlying 28 = some (.slice (Tryd.prog.elem 28)) := by kernel_rfl
set_option maxRecDepth 100000 in
/-- l[:k] -/
theorem txs_cut (a : Option Addr) (len cap k : Nat) (hk : k ≤ cap) (hl : len ≤ cap) (ha : a = none → cap = 0) (w : World) : (Instr.sliceAt 28 (.slice a len cap) none (some (.int .i64 (k : Int))) none).run Tryd.prog w = .ok (.slice a k cap) w := by
  cases a with
  | none =>
    obtain rfl : cap = 0 := ha rfl
    obtain rfl : k = 0 := by omega
    obtain rfl : len = 0 := by omega
    kernel_rfl
  | some ad =>
    rw [run_sliceAt_slice w _ _ _ _ _ txs_under, run_slice_h w _ _ len cap txs_under .i64 k (by omega) (by omega), txs_size]
    simp [sliced, Addr.add]
/-- the two sums of a link, in variables -/
structure LkX (g4 g5 : Nat) (p d : List Int) (w W : World) : Prop where
  low : Below w.heap.size w W
  v4 : DgV W g4 p
  v5 : DgV W g5 d
set_option maxRecDepth 100000 in
theorem dg_zsz : (Tryd.prog.info? 30).map (fun i => i.zero.map (·.cells.size)) = some (some 32) := by kernel_rfl
set_option maxHeartbeats 4000000 in
set_option maxRecDepth 100000 in
theorem link21_any (a : Option Addr) (n cap : Nat) (T : List (List Int)) (w : World) (hT : Txs w a (n + 1) cap T) (hf : ∀ t ∈ T, t.length ≤ 1000000) (hn : n ≤ 1000) :
    Calls Tryd.prog 35 #[.slice a (n + 1) cap] w fun e w' => ∃ v, e = .returned v ∧ w'.ownsRow w.heap.size 5 1 v 65 (bv (linkL T)) ∧ Below w.heap.size w w' := by
  have HL := Bx.mk hT
  obtain ⟨b, off, rfl, hblt, hc⟩ := hT.spot (Nat.succ_pos _)
  obtain ⟨ai, li, ci, hcell, hbt⟩ := hc n (Nat.lt_succ_self _)
  have HTN := Bx.mk (txs_take hT (Nat.le_succ n))
  have hTl := hT.len_eq
  have HLK : Bx (linkL T = 1 :: (chnT (T.take n) ++ leafL (T.getD n []) 256)) := ⟨by unfold linkL; rw [hTl, Nat.add_sub_cancel]⟩
  have HF : Bx (li ≤ 1000000) := ⟨by
    rw [← hbt.len_eq]
    refine hf _ ?_
    rw [List.getD_eq_getElem?_getD, List.getElem?_eq_getElem (by omega)]; exact List.getElem_mem _⟩
  have HFT : Bx (∀ t ∈ T.take n, t.length ≤ 1000000) := ⟨fun t ht => hf t (List.mem_of_mem_take ht)⟩
  have HPD := Bx.mk (chnT_dg (T.take n))
  have HLD := Bx.mk (leafL_dg (T.getD n []) 256)
  have hct := txs_cut (some ⟨b, off, none⟩) (n + 1) cap n (by have := hT.le_cap; omega) hT.le_cap (fun h => by cases h)
  have HBT := Bx.mk hbt
  have hw1 : IntKind.i64.wrap ((n : Int) + 1 - 1) = (n : Int) := by rw [IntKind.wrap_i64]; omega
  have hw2 : ((n : Int) + 1 - 1) = (n : Int) := by omega
  generalize T.getD n [] = t at HLK HLD HBT hbt
  generalize T.take n = TN at HLK HFT HPD HTN
  have hzd := dz_run
  have HIP : Bx ((Tryd.prog.info? 30).map (·.size) = some (bv (chnT TN)).toArray.size) := ⟨dgv_info HPD.out⟩
  have HID : Bx ((Tryd.prog.info? 30).map (·.size) = some (bv (leafL t 256)).toArray.size) := ⟨dgv_info HLD.out⟩
  have HSP : Bx ((bv (chnT TN)).toArray.size = 32) := ⟨dgv_size HPD.out⟩
  have HSD : Bx ((bv (leafL t 256)).toArray.size = 32) := ⟨dgv_size HLD.out⟩
  have g1 : (n : Int) < (n : Int) + 1 := by omega
  clear hT hc hbt hTl hzd
  go_enter Tryd.func35, Tryd.ntmps35
  go_upto_region 2 with fail
  go_cut [4, 5] from 10 to 18 (fun s4 s5 wx => ∃ g h, s4 = .pointer (some ⟨g, 0, none⟩) ∧ s5 = .pointer (some ⟨h, 0, none⟩) ∧ Bx (LkX g h (chnT TN) (leafL t 256) w wx))
  case first =>
    have hk : Below w.heap.size w w.drew := (Below.refl _ _).drew
    refine wp_region_held_drew (S := fun W => Below w.heap.size w W) (by kernel_rfl) hk (fun _ => ?_)
    generalize w.drew = wk at hk ⊢
    refine wpAnyH_take (i := 0) (oi := { dst := some 10, op := Op.move (Operand.tmp 0), type := 28, pos := "law.go:207", after := #[], guard := none }) (v := ?vlnk21) rfl (by kernel_rfl) (by kernel_rfl) (by kernel_rfl) (fun _ _ _ h => h) (Or.inl ⟨by rfl, ?ylnk21⟩) hk ?rlnk21
    case ylnk21 => (intro w hSw; (try dsimp only at hSw); go_simp; first | done | with_reducible rfl)
    simp only [Act.put, List.setIfInBounds_toArray, List.set_cons_zero, List.set_cons_succ]
    refine wpAnyH_take (i := 1) (oi := { dst := some 11, op := Op.move (Operand.tmp 3), type := 3, pos := "law.go:207", after := #[], guard := none }) (v := ?vlnk22) rfl (by kernel_rfl) (by kernel_rfl) (by kernel_rfl) (fun _ _ _ h => h) (Or.inl ⟨by rfl, ?ylnk22⟩) hk ?rlnk22
    case ylnk22 => (intro w hSw; (try dsimp only at hSw); go_simp; first | done | with_reducible rfl)
    simp only [Act.put, List.setIfInBounds_toArray, List.set_cons_zero, List.set_cons_succ]
    refine wpAnyH_take (i := 2) (oi := { dst := some 12, op := Op.slice 28 (Operand.tmp 10) none (some (Operand.tmp 11)) none, type := 28, pos := "law.go:207", after := #[{ on := 0, ground := Ground.data }, { on := 1, ground := Ground.data }], guard := none }) (v := ?vlnk23) rfl (by kernel_rfl) (by kernel_rfl) (by kernel_rfl) (fun _ _ _ h => h) (Or.inl ⟨by rfl, ?ylnk23⟩) hk ?rlnk23
    case ylnk23 => (intro w hSw; (try dsimp only at hSw); go_simp; first | done | with_reducible rfl)
    simp only [Act.put, List.setIfInBounds_toArray, List.set_cons_zero, List.set_cons_succ]
    refine wpAnyH_take (i := 4) (oi := { dst := some 14, op := Op.move (Operand.tmp 0), type := 28, pos := "law.go:207", after := #[], guard := none }) (v := ?vlnk24) rfl (by kernel_rfl) (by kernel_rfl) (by kernel_rfl) (fun _ _ _ h => h) (Or.inl ⟨by rfl, ?ylnk24⟩) hk ?rlnk24
    case ylnk24 => (intro w hSw; (try dsimp only at hSw); go_simp; first | done | with_reducible rfl)
    simp only [Act.put, List.setIfInBounds_toArray, List.set_cons_zero, List.set_cons_succ]
    refine wpAnyH_take (i := 5) (oi := { dst := some 15, op := Op.move (Operand.tmp 3), type := 3, pos := "law.go:207", after := #[], guard := none }) (v := ?vlnk25) rfl (by kernel_rfl) (by kernel_rfl) (by kernel_rfl) (fun _ _ _ h => h) (Or.inl ⟨by rfl, ?ylnk25⟩) hk ?rlnk25
    case ylnk25 => (intro w hSw; (try dsimp only at hSw); go_simp; first | done | with_reducible rfl)
    simp only [Act.put, List.setIfInBounds_toArray, List.set_cons_zero, List.set_cons_succ]
    refine wpAnyH_take (i := 6) (oi := { dst := some 16, op := Op.indexAddr 28 (Operand.tmp 14) (Operand.tmp 15), type := 0, pos := "law.go:207", after := #[{ on := 4, ground := Ground.data }, { on := 5, ground := Ground.data }], guard := none }) (v := ?vlnk26) rfl (by kernel_rfl) (by kernel_rfl) (by kernel_rfl) (fun _ _ _ h => h) (Or.inl ⟨by rfl, ?ylnk26⟩) hk ?rlnk26
    case ylnk26 => (intro w hSw; (try dsimp only at hSw); go_simp; first | done | with_reducible rfl)
    simp only [Act.put, List.setIfInBounds_toArray, List.set_cons_zero, List.set_cons_succ]
    refine wpAnyH_take (i := 7) (oi := { dst := some 17, op := Op.load 22 (Operand.tmp 16), type := 22, pos := "law.go:207", after := #[{ on := 6, ground := Ground.data }], guard := none }) (v := ?vlnk27) rfl (by kernel_rfl) (by kernel_rfl) (by kernel_rfl) (fun _ _ _ h => h) (Or.inl ⟨by rfl, ?ylnk27⟩) hk ?rlnk27
    case ylnk27 => (intro w hSw; have hcw := (hSw.cell (p := ⟨b, off + n, none⟩) hblt).trans hcell; clear hSw; go_simp; first | done | with_reducible rfl)
    simp only [Act.put, List.setIfInBounds_toArray, List.set_cons_zero, List.set_cons_succ]
    refine wpAnyH_ready (rs := [3, 9, 10]) (by decide +kernel) (by simp) ?_
    refine (AllReadyH.cons (o := { dst := some 13, op := Op.call { callee := Callee.value (Operand.func 62), args := #[Operand.tmp 12], argTypes := #[28] }, type := 30, pos := "law.go:207", after := #[{ on := 2, ground := Ground.data }], guard := none }) rfl (fun K hK => ?_) (AllReadyH.cons (o := { dst := some 4, op := Op.alloc 30, type := 0, pos := "law.go:207", after := #[], guard := none }) rfl (fun K hK => ?_) (AllReadyH.cons (o := { dst := some 5, op := Op.alloc 30, type := 0, pos := "law.go:207", after := #[], guard := none }) rfl (fun K hK => ?_) AllReadyH.nil)))
    · go_simp
      refine (refchain21_any (some ⟨b, off, none⟩) n cap TN _ (HTN.out.below hk) HFT.out).mono ?_
      rintro e1 wk ⟨rfl, hb1⟩
      replace hk := bstep hk hb1
      try replace hg := hg.step hb1
      try replace hh := hh.step hb1
      clear hb1
      refine hK.out _ _ hk (fun _ => ?_)
      clear hK K
      try simp only [Act.put, List.setIfInBounds_toArray, List.set_cons_zero, List.set_cons_succ]
      refine wpAnyH_ready (rs := [8, 9, 10]) (by decide +kernel) (by simp) ?_
      refine (AllReadyH.cons (o := { dst := some 18, op := Op.call { callee := Callee.value (Operand.func 63), args := #[Operand.tmp 17, Operand.const (Value.int IntKind.i64 256)], argTypes := #[22, 3] }, type := 30, pos := "law.go:207", after := #[{ on := 7, ground := Ground.data }, { on := 3, ground := Ground.chain }], guard := none }) rfl (fun K hK => ?_) (AllReadyH.cons (o := { dst := some 4, op := Op.alloc 30, type := 0, pos := "law.go:207", after := #[], guard := none }) rfl (fun K hK => ?_) (AllReadyH.cons (o := { dst := some 5, op := Op.alloc 30, type := 0, pos := "law.go:207", after := #[], guard := none }) rfl (fun K hK => ?_) AllReadyH.nil)))
      · go_simp
        refine (refleaf_any ai li ci t 256 _ (HBT.out.below hk) HF.out).mono ?_
        rintro e1 wk ⟨rfl, hb1⟩
        replace hk := bstep hk hb1
        try replace hg := hg.step hb1
        try replace hh := hh.step hb1
        clear hb1
        refine hK.out _ _ hk (fun _ => ?_)
        clear hK K
        try simp only [Act.put, List.setIfInBounds_toArray, List.set_cons_zero, List.set_cons_succ]
        refine wpAnyH_ready (rs := [9, 10]) (by decide +kernel) (by simp) ?_
        refine (AllReadyH.cons (o := { dst := some 4, op := Op.alloc 30, type := 0, pos := "law.go:207", after := #[], guard := none }) rfl (fun K hK => ?_) (AllReadyH.cons (o := { dst := some 5, op := Op.alloc 30, type := 0, pos := "law.go:207", after := #[], guard := none }) rfl (fun K hK => ?_) AllReadyH.nil))
        · rw [if_pos (by rfl)]
          refine wp_alloc_of 30 32 rfl dg_zsz ?_
          intro cs hcs
          have hg := NV.new (T := 30) (N0 := w.heap.size) (wr := wk) hk.size hcs
          have hbA : Below wk.heap.size wk (wk.alloc (.cells cs 30)) := (Below.refl _ _).alloc (Nat.le_refl _) _
          try have hgh := Nat.ne_of_gt hh.lt
          replace hk := bstep hk hbA
          try replace hh := hh.step hbA
          clear hbA hcs
          first | (generalize wk.heap.size = g at hg hgh ⊢) | (generalize wk.heap.size = g at hg ⊢)
          first | (generalize wk.alloc (.cells cs 30) = wk at hg hh hk ⊢) | (generalize wk.alloc (.cells cs 30) = wk at hg hk ⊢)
          simp only [Act.put, List.setIfInBounds_toArray, List.set_cons_zero, List.set_cons_succ]
          refine hK.out _ _ hk (fun _ => ?_)
          clear hK K
          try simp only [Act.put, List.setIfInBounds_toArray, List.set_cons_zero, List.set_cons_succ]
          refine wpAnyH_ready (rs := [10]) (by decide +kernel) (by simp) ?_
          refine AllReadyH.cons (o := { dst := some 5, op := Op.alloc 30, type := 0, pos := "law.go:207", after := #[], guard := none }) rfl (fun K hK => ?_) AllReadyH.nil
          rw [if_pos (by rfl)]
          refine wp_alloc_of 30 32 rfl dg_zsz ?_
          intro cs hcs
          have hh := NV.new (T := 30) (N0 := w.heap.size) (wr := wk) hk.size hcs
          have hbA : Below wk.heap.size wk (wk.alloc (.cells cs 30)) := (Below.refl _ _).alloc (Nat.le_refl _) _
          try have hgh := Nat.ne_of_lt hg.lt
          replace hk := bstep hk hbA
          try replace hg := hg.step hbA
          clear hbA hcs
          first | (generalize wk.heap.size = h at hh hgh ⊢) | (generalize wk.heap.size = h at hh ⊢)
          first | (generalize wk.alloc (.cells cs 30) = wk at hh hg hk ⊢) | (generalize wk.alloc (.cells cs 30) = wk at hh hk ⊢)
          simp only [Act.put, List.setIfInBounds_toArray, List.set_cons_zero, List.set_cons_succ]
          refine hK.out _ _ hk (fun _ => ?_)
          clear hK K
          try simp only [Act.put, List.setIfInBounds_toArray, List.set_cons_zero, List.set_cons_succ]
          refine wpAnyH_ready (rs := [11]) (by decide +kernel) (by simp) ?_
          refine AllReadyH.cons (o := { dst := none, op := Op.store 30 (Operand.tmp 4) (Operand.tmp 13), type := 0, pos := "law.go:207", after := #[{ on := 9, ground := Ground.data }, { on := 3, ground := Ground.data }, { on := 8, ground := Ground.chain }, { on := 0, ground := Ground.phase }, { on := 1, ground := Ground.phase }, { on := 2, ground := Ground.phase }, { on := 3, ground := Ground.phase }, { on := 4, ground := Ground.textOnly Departure.lateStores }, { on := 5, ground := Ground.textOnly Departure.lateStores }, { on := 6, ground := Ground.textOnly Departure.lateStoresUnsure }, { on := 7, ground := Ground.phase }, { on := 8, ground := Ground.phase }, { on := 9, ground := Ground.phase }, { on := 10, ground := Ground.phase }], guard := none }) rfl (fun K hK => ?_) AllReadyH.nil
          rw [if_pos (by rfl)]
          refine wp_store_mid 30 (.tmp 4) (.tmp 13) rfl g 0 (bv (chnT TN)).toArray rfl rfl ?htlnk210 HIP.out (dgv_one _) ?_
          case htlnk210 => exact hg.there HSP.out
          have hrg := hg.put (D := (bv (chnT TN)).toArray) HSP.out
          have hgge := hg.ge
          replace hk := below_setCells hk g hgge (bv (chnT TN)).toArray.toList 0
          replace hh := hh.but (Ne.symm hgh) (bv (chnT TN)).toArray.toList
          clear hg
          generalize wk.setCells g 0 (bv (chnT TN)).toArray.toList = wk at hk hrg hh ⊢
          simp only [Act.put]
          refine hK.out _ _ hk (fun _ => ?_)
          clear hK K
          try simp only [Act.put, List.setIfInBounds_toArray, List.set_cons_zero, List.set_cons_succ]
          refine wpAnyH_ready (rs := [12]) (by decide +kernel) (by simp) ?_
          refine AllReadyH.cons (o := { dst := none, op := Op.store 30 (Operand.tmp 5) (Operand.tmp 18), type := 0, pos := "law.go:207", after := #[{ on := 10, ground := Ground.data }, { on := 8, ground := Ground.data }, { on := 11, ground := Ground.chain }, { on := 0, ground := Ground.phase }, { on := 1, ground := Ground.phase }, { on := 2, ground := Ground.phase }, { on := 3, ground := Ground.phase }, { on := 4, ground := Ground.phase }, { on := 5, ground := Ground.phase }, { on := 6, ground := Ground.phase }, { on := 7, ground := Ground.phase }, { on := 8, ground := Ground.phase }, { on := 9, ground := Ground.phase }, { on := 10, ground := Ground.phase }, { on := 11, ground := Ground.phase }], guard := none }) rfl (fun K hK => ?_) AllReadyH.nil
          rw [if_pos (by rfl)]
          refine wp_store_mid 30 (.tmp 5) (.tmp 18) rfl h 0 (bv (leafL t 256)).toArray rfl rfl ?htlnk211 HID.out (dgv_one _) ?_
          case htlnk211 => exact hh.there HSD.out
          have hrh := hh.put (D := (bv (leafL t 256)).toArray) HSD.out
          have hhge := hh.ge
          replace hk := below_setCells hk h hhge (bv (leafL t 256)).toArray.toList 0
          replace hrg := nv_but hrg hgh (bv (leafL t 256)).toArray.toList
          clear hh
          generalize wk.setCells h 0 (bv (leafL t 256)).toArray.toList = wk at hk hrg hrh ⊢
          simp only [Act.put]
          refine hK.out _ _ hk (fun _ => ?_)
          clear hK K
          try simp only [Act.put, List.setIfInBounds_toArray, List.set_cons_zero, List.set_cons_succ]
          refine wpAnyH_done (by decide +kernel) ?_ _
          go_wp2_with fail
          go_meet
          case rel => exact ⟨g, h, rfl, rfl, ⟨⟨hk, ⟨hrg, HPD.out⟩, ⟨hrh, HLD.out⟩⟩⟩⟩
        · rw [if_pos (by rfl)]
          refine wp_alloc_of 30 32 rfl dg_zsz ?_
          intro cs hcs
          have hh := NV.new (T := 30) (N0 := w.heap.size) (wr := wk) hk.size hcs
          have hbA : Below wk.heap.size wk (wk.alloc (.cells cs 30)) := (Below.refl _ _).alloc (Nat.le_refl _) _
          try have hgh := Nat.ne_of_lt hg.lt
          replace hk := bstep hk hbA
          try replace hg := hg.step hbA
          clear hbA hcs
          first | (generalize wk.heap.size = h at hh hgh ⊢) | (generalize wk.heap.size = h at hh ⊢)
          first | (generalize wk.alloc (.cells cs 30) = wk at hh hg hk ⊢) | (generalize wk.alloc (.cells cs 30) = wk at hh hk ⊢)
          simp only [Act.put, List.setIfInBounds_toArray, List.set_cons_zero, List.set_cons_succ]
          refine hK.out _ _ hk (fun _ => ?_)
          clear hK K
          try simp only [Act.put, List.setIfInBounds_toArray, List.set_cons_zero, List.set_cons_succ]
          refine wpAnyH_ready (rs := [9]) (by decide +kernel) (by simp) ?_
          refine AllReadyH.cons (o := { dst := some 4, op := Op.alloc 30, type := 0, pos := "law.go:207", after := #[], guard := none }) rfl (fun K hK => ?_) AllReadyH.nil
          rw [if_pos (by rfl)]
          refine wp_alloc_of 30 32 rfl dg_zsz ?_
          intro cs hcs
          have hg := NV.new (T := 30) (N0 := w.heap.size) (wr := wk) hk.size hcs
          have hbA : Below wk.heap.size wk (wk.alloc (.cells cs 30)) := (Below.refl _ _).alloc (Nat.le_refl _) _
          try have hgh := Nat.ne_of_gt hh.lt
          replace hk := bstep hk hbA
          try replace hh := hh.step hbA
          clear hbA hcs
          first | (generalize wk.heap.size = g at hg hgh ⊢) | (generalize wk.heap.size = g at hg ⊢)
          first | (generalize wk.alloc (.cells cs 30) = wk at hg hh hk ⊢) | (generalize wk.alloc (.cells cs 30) = wk at hg hk ⊢)
          simp only [Act.put, List.setIfInBounds_toArray, List.set_cons_zero, List.set_cons_succ]
          refine hK.out _ _ hk (fun _ => ?_)
          clear hK K
          try simp only [Act.put, List.setIfInBounds_toArray, List.set_cons_zero, List.set_cons_succ]
          refine wpAnyH_ready (rs := [11]) (by decide +kernel) (by simp) ?_
          refine AllReadyH.cons (o := { dst := none, op := Op.store 30 (Operand.tmp 4) (Operand.tmp 13), type := 0, pos := "law.go:207", after := #[{ on := 9, ground := Ground.data }, { on := 3, ground := Ground.data }, { on := 8, ground := Ground.chain }, { on := 0, ground := Ground.phase }, { on := 1, ground := Ground.phase }, { on := 2, ground := Ground.phase }, { on := 3, ground := Ground.phase }, { on := 4, ground := Ground.textOnly Departure.lateStores }, { on := 5, ground := Ground.textOnly Departure.lateStores }, { on := 6, ground := Ground.textOnly Departure.lateStoresUnsure }, { on := 7, ground := Ground.phase }, { on := 8, ground := Ground.phase }, { on := 9, ground := Ground.phase }, { on := 10, ground := Ground.phase }], guard := none }) rfl (fun K hK => ?_) AllReadyH.nil
          rw [if_pos (by rfl)]
          refine wp_store_mid 30 (.tmp 4) (.tmp 13) rfl g 0 (bv (chnT TN)).toArray rfl rfl ?htlnk214 HIP.out (dgv_one _) ?_
          case htlnk214 => exact hg.there HSP.out
          have hrg := hg.put (D := (bv (chnT TN)).toArray) HSP.out
          have hgge := hg.ge
          replace hk := below_setCells hk g hgge (bv (chnT TN)).toArray.toList 0
          replace hh := hh.but (Ne.symm hgh) (bv (chnT TN)).toArray.toList
          clear hg
          generalize wk.setCells g 0 (bv (chnT TN)).toArray.toList = wk at hk hrg hh ⊢
          simp only [Act.put]
          refine hK.out _ _ hk (fun _ => ?_)
          clear hK K
          try simp only [Act.put, List.setIfInBounds_toArray, List.set_cons_zero, List.set_cons_succ]
          refine wpAnyH_ready (rs := [12]) (by decide +kernel) (by simp) ?_
          refine AllReadyH.cons (o := { dst := none, op := Op.store 30 (Operand.tmp 5) (Operand.tmp 18), type := 0, pos := "law.go:207", after := #[{ on := 10, ground := Ground.data }, { on := 8, ground := Ground.data }, { on := 11, ground := Ground.chain }, { on := 0, ground := Ground.phase }, { on := 1, ground := Ground.phase }, { on := 2, ground := Ground.phase }, { on := 3, ground := Ground.phase }, { on := 4, ground := Ground.phase }, { on := 5, ground := Ground.phase }, { on := 6, ground := Ground.phase }, { on := 7, ground := Ground.phase }, { on := 8, ground := Ground.phase }, { on := 9, ground := Ground.phase }, { on := 10, ground := Ground.phase }, { on := 11, ground := Ground.phase }], guard := none }) rfl (fun K hK => ?_) AllReadyH.nil
          rw [if_pos (by rfl)]
          refine wp_store_mid 30 (.tmp 5) (.tmp 18) rfl h 0 (bv (leafL t 256)).toArray rfl rfl ?htlnk215 HID.out (dgv_one _) ?_
          case htlnk215 => exact hh.there HSD.out
          have hrh := hh.put (D := (bv (leafL t 256)).toArray) HSD.out
          have hhge := hh.ge
          replace hk := below_setCells hk h hhge (bv (leafL t 256)).toArray.toList 0
          replace hrg := nv_but hrg hgh (bv (leafL t 256)).toArray.toList
          clear hh
          generalize wk.setCells h 0 (bv (leafL t 256)).toArray.toList = wk at hk hrg hrh ⊢
          simp only [Act.put]
          refine hK.out _ _ hk (fun _ => ?_)
          clear hK K
          try simp only [Act.put, List.setIfInBounds_toArray, List.set_cons_zero, List.set_cons_succ]
          refine wpAnyH_done (by decide +kernel) ?_ _
          go_wp2_with fail
          go_meet
          case rel => exact ⟨g, h, rfl, rfl, ⟨⟨hk, ⟨hrg, HPD.out⟩, ⟨hrh, HLD.out⟩⟩⟩⟩
      · rw [if_pos (by rfl)]
        refine wp_alloc_of 30 32 rfl dg_zsz ?_
        intro cs hcs
        have hg := NV.new (T := 30) (N0 := w.heap.size) (wr := wk) hk.size hcs
        have hbA : Below wk.heap.size wk (wk.alloc (.cells cs 30)) := (Below.refl _ _).alloc (Nat.le_refl _) _
        try have hgh := Nat.ne_of_gt hh.lt
        replace hk := bstep hk hbA
        try replace hh := hh.step hbA
        clear hbA hcs
        first | (generalize wk.heap.size = g at hg hgh ⊢) | (generalize wk.heap.size = g at hg ⊢)
        first | (generalize wk.alloc (.cells cs 30) = wk at hg hh hk ⊢) | (generalize wk.alloc (.cells cs 30) = wk at hg hk ⊢)
        simp only [Act.put, List.setIfInBounds_toArray, List.set_cons_zero, List.set_cons_succ]
        refine hK.out _ _ hk (fun _ => ?_)
        clear hK K
        try simp only [Act.put, List.setIfInBounds_toArray, List.set_cons_zero, List.set_cons_succ]
        refine wpAnyH_ready (rs := [8, 10]) (by decide +kernel) (by simp) ?_
        refine (AllReadyH.cons (o := { dst := some 18, op := Op.call { callee := Callee.value (Operand.func 63), args := #[Operand.tmp 17, Operand.const (Value.int IntKind.i64 256)], argTypes := #[22, 3] }, type := 30, pos := "law.go:207", after := #[{ on := 7, ground := Ground.data }, { on := 3, ground := Ground.chain }], guard := none }) rfl (fun K hK => ?_) (AllReadyH.cons (o := { dst := some 5, op := Op.alloc 30, type := 0, pos := "law.go:207", after := #[], guard := none }) rfl (fun K hK => ?_) AllReadyH.nil))
        · go_simp
          refine (refleaf_any ai li ci t 256 _ (HBT.out.below hk) HF.out).mono ?_
          rintro e1 wk ⟨rfl, hb1⟩
          replace hk := bstep hk hb1
          try replace hg := hg.step hb1
          try replace hh := hh.step hb1
          clear hb1
          refine hK.out _ _ hk (fun _ => ?_)
          clear hK K
          try simp only [Act.put, List.setIfInBounds_toArray, List.set_cons_zero, List.set_cons_succ]
          refine wpAnyH_ready (rs := [10]) (by decide +kernel) (by simp) ?_
          refine AllReadyH.cons (o := { dst := some 5, op := Op.alloc 30, type := 0, pos := "law.go:207", after := #[], guard := none }) rfl (fun K hK => ?_) AllReadyH.nil
          rw [if_pos (by rfl)]
          refine wp_alloc_of 30 32 rfl dg_zsz ?_
          intro cs hcs
          have hh := NV.new (T := 30) (N0 := w.heap.size) (wr := wk) hk.size hcs
          have hbA : Below wk.heap.size wk (wk.alloc (.cells cs 30)) := (Below.refl _ _).alloc (Nat.le_refl _) _
          try have hgh := Nat.ne_of_lt hg.lt
          replace hk := bstep hk hbA
          try replace hg := hg.step hbA
          clear hbA hcs
          first | (generalize wk.heap.size = h at hh hgh ⊢) | (generalize wk.heap.size = h at hh ⊢)
          first | (generalize wk.alloc (.cells cs 30) = wk at hh hg hk ⊢) | (generalize wk.alloc (.cells cs 30) = wk at hh hk ⊢)
          simp only [Act.put, List.setIfInBounds_toArray, List.set_cons_zero, List.set_cons_succ]
          refine hK.out _ _ hk (fun _ => ?_)
          clear hK K
          try simp only [Act.put, List.setIfInBounds_toArray, List.set_cons_zero, List.set_cons_succ]
          refine wpAnyH_ready (rs := [11]) (by decide +kernel) (by simp) ?_
          refine AllReadyH.cons (o := { dst := none, op := Op.store 30 (Operand.tmp 4) (Operand.tmp 13), type := 0, pos := "law.go:207", after := #[{ on := 9, ground := Ground.data }, { on := 3, ground := Ground.data }, { on := 8, ground := Ground.chain }, { on := 0, ground := Ground.phase }, { on := 1, ground := Ground.phase }, { on := 2, ground := Ground.phase }, { on := 3, ground := Ground.phase }, { on := 4, ground := Ground.textOnly Departure.lateStores }, { on := 5, ground := Ground.textOnly Departure.lateStores }, { on := 6, ground := Ground.textOnly Departure.lateStoresUnsure }, { on := 7, ground := Ground.phase }, { on := 8, ground := Ground.phase }, { on := 9, ground := Ground.phase }, { on := 10, ground := Ground.phase }], guard := none }) rfl (fun K hK => ?_) AllReadyH.nil
          rw [if_pos (by rfl)]
          refine wp_store_mid 30 (.tmp 4) (.tmp 13) rfl g 0 (bv (chnT TN)).toArray rfl rfl ?htlnk218 HIP.out (dgv_one _) ?_
          case htlnk218 => exact hg.there HSP.out
          have hrg := hg.put (D := (bv (chnT TN)).toArray) HSP.out
          have hgge := hg.ge
          replace hk := below_setCells hk g hgge (bv (chnT TN)).toArray.toList 0
          replace hh := hh.but (Ne.symm hgh) (bv (chnT TN)).toArray.toList
          clear hg
          generalize wk.setCells g 0 (bv (chnT TN)).toArray.toList = wk at hk hrg hh ⊢
          simp only [Act.put]
          refine hK.out _ _ hk (fun _ => ?_)
          clear hK K
          try simp only [Act.put, List.setIfInBounds_toArray, List.set_cons_zero, List.set_cons_succ]
          refine wpAnyH_ready (rs := [12]) (by decide +kernel) (by simp) ?_
          refine AllReadyH.cons (o := { dst := none, op := Op.store 30 (Operand.tmp 5) (Operand.tmp 18), type := 0, pos := "law.go:207", after := #[{ on := 10, ground := Ground.data }, { on := 8, ground := Ground.data }, { on := 11, ground := Ground.chain }, { on := 0, ground := Ground.phase }, { on := 1, ground := Ground.phase }, { on := 2, ground := Ground.phase }, { on := 3, ground := Ground.phase }, { on := 4, ground := Ground.phase }, { on := 5, ground := Ground.phase }, { on := 6, ground := Ground.phase }, { on := 7, ground := Ground.phase }, { on := 8, ground := Ground.phase }, { on := 9, ground := Ground.phase }, { on := 10, ground := Ground.phase }, { on := 11, ground := Ground.phase }], guard := none }) rfl (fun K hK => ?_) AllReadyH.nil
          rw [if_pos (by rfl)]
          refine wp_store_mid 30 (.tmp 5) (.tmp 18) rfl h 0 (bv (leafL t 256)).toArray rfl rfl ?htlnk219 HID.out (dgv_one _) ?_
          case htlnk219 => exact hh.there HSD.out
          have hrh := hh.put (D := (bv (leafL t 256)).toArray) HSD.out
          have hhge := hh.ge
          replace hk := below_setCells hk h hhge (bv (leafL t 256)).toArray.toList 0
          replace hrg := nv_but hrg hgh (bv (leafL t 256)).toArray.toList
          clear hh
          generalize wk.setCells h 0 (bv (leafL t 256)).toArray.toList = wk at hk hrg hrh ⊢
          simp only [Act.put]
          refine hK.out _ _ hk (fun _ => ?_)
          clear hK K
          try simp only [Act.put, List.setIfInBounds_toArray, List.set_cons_zero, List.set_cons_succ]
          refine wpAnyH_done (by decide +kernel) ?_ _
          go_wp2_with fail
          go_meet
          case rel => exact ⟨g, h, rfl, rfl, ⟨⟨hk, ⟨hrg, HPD.out⟩, ⟨hrh, HLD.out⟩⟩⟩⟩
        · rw [if_pos (by rfl)]
          refine wp_alloc_of 30 32 rfl dg_zsz ?_
          intro cs hcs
          have hh := NV.new (T := 30) (N0 := w.heap.size) (wr := wk) hk.size hcs
          have hbA : Below wk.heap.size wk (wk.alloc (.cells cs 30)) := (Below.refl _ _).alloc (Nat.le_refl _) _
          try have hgh := Nat.ne_of_lt hg.lt
          replace hk := bstep hk hbA
          try replace hg := hg.step hbA
          clear hbA hcs
          first | (generalize wk.heap.size = h at hh hgh ⊢) | (generalize wk.heap.size = h at hh ⊢)
          first | (generalize wk.alloc (.cells cs 30) = wk at hh hg hk ⊢) | (generalize wk.alloc (.cells cs 30) = wk at hh hk ⊢)
          simp only [Act.put, List.setIfInBounds_toArray, List.set_cons_zero, List.set_cons_succ]
          refine hK.out _ _ hk (fun _ => ?_)
          clear hK K
          try simp only [Act.put, List.setIfInBounds_toArray, List.set_cons_zero, List.set_cons_succ]
          refine wpAnyH_ready (rs := [8]) (by decide +kernel) (by simp) ?_
          refine AllReadyH.cons (o := { dst := some 18, op := Op.call { callee := Callee.value (Operand.func 63), args := #[Operand.tmp 17, Operand.const (Value.int IntKind.i64 256)], argTypes := #[22, 3] }, type := 30, pos := "law.go:207", after := #[{ on := 7, ground := Ground.data }, { on := 3, ground := Ground.chain }], guard := none }) rfl (fun K hK => ?_) AllReadyH.nil
          go_simp
          refine (refleaf_any ai li ci t 256 _ (HBT.out.below hk) HF.out).mono ?_
          rintro e1 wk ⟨rfl, hb1⟩
          replace hk := bstep hk hb1
          try replace hg := hg.step hb1
          try replace hh := hh.step hb1
          clear hb1
          refine hK.out _ _ hk (fun _ => ?_)
          clear hK K
          try simp only [Act.put, List.setIfInBounds_toArray, List.set_cons_zero, List.set_cons_succ]
          refine wpAnyH_ready (rs := [11]) (by decide +kernel) (by simp) ?_
          refine AllReadyH.cons (o := { dst := none, op := Op.store 30 (Operand.tmp 4) (Operand.tmp 13), type := 0, pos := "law.go:207", after := #[{ on := 9, ground := Ground.data }, { on := 3, ground := Ground.data }, { on := 8, ground := Ground.chain }, { on := 0, ground := Ground.phase }, { on := 1, ground := Ground.phase }, { on := 2, ground := Ground.phase }, { on := 3, ground := Ground.phase }, { on := 4, ground := Ground.textOnly Departure.lateStores }, { on := 5, ground := Ground.textOnly Departure.lateStores }, { on := 6, ground := Ground.textOnly Departure.lateStoresUnsure }, { on := 7, ground := Ground.phase }, { on := 8, ground := Ground.phase }, { on := 9, ground := Ground.phase }, { on := 10, ground := Ground.phase }], guard := none }) rfl (fun K hK => ?_) AllReadyH.nil
          rw [if_pos (by rfl)]
          refine wp_store_mid 30 (.tmp 4) (.tmp 13) rfl g 0 (bv (chnT TN)).toArray rfl rfl ?htlnk221 HIP.out (dgv_one _) ?_
          case htlnk221 => exact hg.there HSP.out
          have hrg := hg.put (D := (bv (chnT TN)).toArray) HSP.out
          have hgge := hg.ge
          replace hk := below_setCells hk g hgge (bv (chnT TN)).toArray.toList 0
          replace hh := hh.but (Ne.symm hgh) (bv (chnT TN)).toArray.toList
          clear hg
          generalize wk.setCells g 0 (bv (chnT TN)).toArray.toList = wk at hk hrg hh ⊢
          simp only [Act.put]
          refine hK.out _ _ hk (fun _ => ?_)
          clear hK K
          try simp only [Act.put, List.setIfInBounds_toArray, List.set_cons_zero, List.set_cons_succ]
          refine wpAnyH_ready (rs := [12]) (by decide +kernel) (by simp) ?_
          refine AllReadyH.cons (o := { dst := none, op := Op.store 30 (Operand.tmp 5) (Operand.tmp 18), type := 0, pos := "law.go:207", after := #[{ on := 10, ground := Ground.data }, { on := 8, ground := Ground.data }, { on := 11, ground := Ground.chain }, { on := 0, ground := Ground.phase }, { on := 1, ground := Ground.phase }, { on := 2, ground := Ground.phase }, { on := 3, ground := Ground.phase }, { on := 4, ground := Ground.phase }, { on := 5, ground := Ground.phase }, { on := 6, ground := Ground.phase }, { on := 7, ground := Ground.phase }, { on := 8, ground := Ground.phase }, { on := 9, ground := Ground.phase }, { on := 10, ground := Ground.phase }, { on := 11, ground := Ground.phase }], guard := none }) rfl (fun K hK => ?_) AllReadyH.nil
          rw [if_pos (by rfl)]
          refine wp_store_mid 30 (.tmp 5) (.tmp 18) rfl h 0 (bv (leafL t 256)).toArray rfl rfl ?htlnk222 HID.out (dgv_one _) ?_
          case htlnk222 => exact hh.there HSD.out
          have hrh := hh.put (D := (bv (leafL t 256)).toArray) HSD.out
          have hhge := hh.ge
          replace hk := below_setCells hk h hhge (bv (leafL t 256)).toArray.toList 0
          replace hrg := nv_but hrg hgh (bv (leafL t 256)).toArray.toList
          clear hh
          generalize wk.setCells h 0 (bv (leafL t 256)).toArray.toList = wk at hk hrg hrh ⊢
          simp only [Act.put]
          refine hK.out _ _ hk (fun _ => ?_)
          clear hK K
          try simp only [Act.put, List.setIfInBounds_toArray, List.set_cons_zero, List.set_cons_succ]
          refine wpAnyH_done (by decide +kernel) ?_ _
          go_wp2_with fail
          go_meet
          case rel => exact ⟨g, h, rfl, rfl, ⟨⟨hk, ⟨hrg, HPD.out⟩, ⟨hrh, HLD.out⟩⟩⟩⟩
      · rw [if_pos (by rfl)]
        refine wp_alloc_of 30 32 rfl dg_zsz ?_
        intro cs hcs
        have hh := NV.new (T := 30) (N0 := w.heap.size) (wr := wk) hk.size hcs
        have hbA : Below wk.heap.size wk (wk.alloc (.cells cs 30)) := (Below.refl _ _).alloc (Nat.le_refl _) _
        try have hgh := Nat.ne_of_lt hg.lt
        replace hk := bstep hk hbA
        try replace hg := hg.step hbA
        clear hbA hcs
        first | (generalize wk.heap.size = h at hh hgh ⊢) | (generalize wk.heap.size = h at hh ⊢)
        first | (generalize wk.alloc (.cells cs 30) = wk at hh hg hk ⊢) | (generalize wk.alloc (.cells cs 30) = wk at hh hk ⊢)
        simp only [Act.put, List.setIfInBounds_toArray, List.set_cons_zero, List.set_cons_succ]
        refine hK.out _ _ hk (fun _ => ?_)
        clear hK K
        try simp only [Act.put, List.setIfInBounds_toArray, List.set_cons_zero, List.set_cons_succ]
        refine wpAnyH_ready (rs := [8, 9]) (by decide +kernel) (by simp) ?_
        refine (AllReadyH.cons (o := { dst := some 18, op := Op.call { callee := Callee.value (Operand.func 63), args := #[Operand.tmp 17, Operand.const (Value.int IntKind.i64 256)], argTypes := #[22, 3] }, type := 30, pos := "law.go:207", after := #[{ on := 7, ground := Ground.data }, { on := 3, ground := Ground.chain }], guard := none }) rfl (fun K hK => ?_) (AllReadyH.cons (o := { dst := some 4, op := Op.alloc 30, type := 0, pos := "law.go:207", after := #[], guard := none }) rfl (fun K hK => ?_) AllReadyH.nil))
        · go_simp
          refine (refleaf_any ai li ci t 256 _ (HBT.out.below hk) HF.out).mono ?_
          rintro e1 wk ⟨rfl, hb1⟩
          replace hk := bstep hk hb1
          try replace hg := hg.step hb1
          try replace hh := hh.step hb1
          clear hb1
          refine hK.out _ _ hk (fun _ => ?_)
          clear hK K
          try simp only [Act.put, List.setIfInBounds_toArray, List.set_cons_zero, List.set_cons_succ]
          refine wpAnyH_ready (rs := [9]) (by decide +kernel) (by simp) ?_
          refine AllReadyH.cons (o := { dst := some 4, op := Op.alloc 30, type := 0, pos := "law.go:207", after := #[], guard := none }) rfl (fun K hK => ?_) AllReadyH.nil
          rw [if_pos (by rfl)]
          refine wp_alloc_of 30 32 rfl dg_zsz ?_
          intro cs hcs
          have hg := NV.new (T := 30) (N0 := w.heap.size) (wr := wk) hk.size hcs
          have hbA : Below wk.heap.size wk (wk.alloc (.cells cs 30)) := (Below.refl _ _).alloc (Nat.le_refl _) _
          try have hgh := Nat.ne_of_gt hh.lt
          replace hk := bstep hk hbA
          try replace hh := hh.step hbA
          clear hbA hcs
          first | (generalize wk.heap.size = g at hg hgh ⊢) | (generalize wk.heap.size = g at hg ⊢)
          first | (generalize wk.alloc (.cells cs 30) = wk at hg hh hk ⊢) | (generalize wk.alloc (.cells cs 30) = wk at hg hk ⊢)
          simp only [Act.put, List.setIfInBounds_toArray, List.set_cons_zero, List.set_cons_succ]
          refine hK.out _ _ hk (fun _ => ?_)
          clear hK K
          try simp only [Act.put, List.setIfInBounds_toArray, List.set_cons_zero, List.set_cons_succ]
          refine wpAnyH_ready (rs := [11]) (by decide +kernel) (by simp) ?_
          refine AllReadyH.cons (o := { dst := none, op := Op.store 30 (Operand.tmp 4) (Operand.tmp 13), type := 0, pos := "law.go:207", after := #[{ on := 9, ground := Ground.data }, { on := 3, ground := Ground.data }, { on := 8, ground := Ground.chain }, { on := 0, ground := Ground.phase }, { on := 1, ground := Ground.phase }, { on := 2, ground := Ground.phase }, { on := 3, ground := Ground.phase }, { on := 4, ground := Ground.textOnly Departure.lateStores }, { on := 5, ground := Ground.textOnly Departure.lateStores }, { on := 6, ground := Ground.textOnly Departure.lateStoresUnsure }, { on := 7, ground := Ground.phase }, { on := 8, ground := Ground.phase }, { on := 9, ground := Ground.phase }, { on := 10, ground := Ground.phase }], guard := none }) rfl (fun K hK => ?_) AllReadyH.nil
          rw [if_pos (by rfl)]
          refine wp_store_mid 30 (.tmp 4) (.tmp 13) rfl g 0 (bv (chnT TN)).toArray rfl rfl ?htlnk225 HIP.out (dgv_one _) ?_
          case htlnk225 => exact hg.there HSP.out
          have hrg := hg.put (D := (bv (chnT TN)).toArray) HSP.out
          have hgge := hg.ge
          replace hk := below_setCells hk g hgge (bv (chnT TN)).toArray.toList 0
          replace hh := hh.but (Ne.symm hgh) (bv (chnT TN)).toArray.toList
          clear hg
          generalize wk.setCells g 0 (bv (chnT TN)).toArray.toList = wk at hk hrg hh ⊢
          simp only [Act.put]
          refine hK.out _ _ hk (fun _ => ?_)
          clear hK K
          try simp only [Act.put, List.setIfInBounds_toArray, List.set_cons_zero, List.set_cons_succ]
          refine wpAnyH_ready (rs := [12]) (by decide +kernel) (by simp) ?_
          refine AllReadyH.cons (o := { dst := none, op := Op.store 30 (Operand.tmp 5) (Operand.tmp 18), type := 0, pos := "law.go:207", after := #[{ on := 10, ground := Ground.data }, { on := 8, ground := Ground.data }, { on := 11, ground := Ground.chain }, { on := 0, ground := Ground.phase }, { on := 1, ground := Ground.phase }, { on := 2, ground := Ground.phase }, { on := 3, ground := Ground.phase }, { on := 4, ground := Ground.phase }, { on := 5, ground := Ground.phase }, { on := 6, ground := Ground.phase }, { on := 7, ground := Ground.phase }, { on := 8, ground := Ground.phase }, { on := 9, ground := Ground.phase }, { on := 10, ground := Ground.phase }, { on := 11, ground := Ground.phase }], guard := none }) rfl (fun K hK => ?_) AllReadyH.nil
          rw [if_pos (by rfl)]
          refine wp_store_mid 30 (.tmp 5) (.tmp 18) rfl h 0 (bv (leafL t 256)).toArray rfl rfl ?htlnk226 HID.out (dgv_one _) ?_
          case htlnk226 => exact hh.there HSD.out
          have hrh := hh.put (D := (bv (leafL t 256)).toArray) HSD.out
          have hhge := hh.ge
          replace hk := below_setCells hk h hhge (bv (leafL t 256)).toArray.toList 0
          replace hrg := nv_but hrg hgh (bv (leafL t 256)).toArray.toList
          clear hh
          generalize wk.setCells h 0 (bv (leafL t 256)).toArray.toList = wk at hk hrg hrh ⊢
          simp only [Act.put]
          refine hK.out _ _ hk (fun _ => ?_)
          clear hK K
          try simp only [Act.put, List.setIfInBounds_toArray, List.set_cons_zero, List.set_cons_succ]
          refine wpAnyH_done (by decide +kernel) ?_ _
          go_wp2_with fail
          go_meet
          case rel => exact ⟨g, h, rfl, rfl, ⟨⟨hk, ⟨hrg, HPD.out⟩, ⟨hrh, HLD.out⟩⟩⟩⟩
        · rw [if_pos (by rfl)]
          refine wp_alloc_of 30 32 rfl dg_zsz ?_
          intro cs hcs
          have hg := NV.new (T := 30) (N0 := w.heap.size) (wr := wk) hk.size hcs
          have hbA : Below wk.heap.size wk (wk.alloc (.cells cs 30)) := (Below.refl _ _).alloc (Nat.le_refl _) _
          try have hgh := Nat.ne_of_gt hh.lt
          replace hk := bstep hk hbA
          try replace hh := hh.step hbA
          clear hbA hcs
          first | (generalize wk.heap.size = g at hg hgh ⊢) | (generalize wk.heap.size = g at hg ⊢)
          first | (generalize wk.alloc (.cells cs 30) = wk at hg hh hk ⊢) | (generalize wk.alloc (.cells cs 30) = wk at hg hk ⊢)
          simp only [Act.put, List.setIfInBounds_toArray, List.set_cons_zero, List.set_cons_succ]
          refine hK.out _ _ hk (fun _ => ?_)
          clear hK K
          try simp only [Act.put, List.setIfInBounds_toArray, List.set_cons_zero, List.set_cons_succ]
          refine wpAnyH_ready (rs := [8]) (by decide +kernel) (by simp) ?_
          refine AllReadyH.cons (o := { dst := some 18, op := Op.call { callee := Callee.value (Operand.func 63), args := #[Operand.tmp 17, Operand.const (Value.int IntKind.i64 256)], argTypes := #[22, 3] }, type := 30, pos := "law.go:207", after := #[{ on := 7, ground := Ground.data }, { on := 3, ground := Ground.chain }], guard := none }) rfl (fun K hK => ?_) AllReadyH.nil
          go_simp
          refine (refleaf_any ai li ci t 256 _ (HBT.out.below hk) HF.out).mono ?_
          rintro e1 wk ⟨rfl, hb1⟩
          replace hk := bstep hk hb1
          try replace hg := hg.step hb1
          try replace hh := hh.step hb1
          clear hb1
          refine hK.out _ _ hk (fun _ => ?_)
          clear hK K
          try simp only [Act.put, List.setIfInBounds_toArray, List.set_cons_zero, List.set_cons_succ]
          refine wpAnyH_ready (rs := [11]) (by decide +kernel) (by simp) ?_
          refine AllReadyH.cons (o := { dst := none, op := Op.store 30 (Operand.tmp 4) (Operand.tmp 13), type := 0, pos := "law.go:207", after := #[{ on := 9, ground := Ground.data }, { on := 3, ground := Ground.data }, { on := 8, ground := Ground.chain }, { on := 0, ground := Ground.phase }, { on := 1, ground := Ground.phase }, { on := 2, ground := Ground.phase }, { on := 3, ground := Ground.phase }, { on := 4, ground := Ground.textOnly Departure.lateStores }, { on := 5, ground := Ground.textOnly Departure.lateStores }, { on := 6, ground := Ground.textOnly Departure.lateStoresUnsure }, { on := 7, ground := Ground.phase }, { on := 8, ground := Ground.phase }, { on := 9, ground := Ground.phase }, { on := 10, ground := Ground.phase }], guard := none }) rfl (fun K hK => ?_) AllReadyH.nil
          rw [if_pos (by rfl)]
          refine wp_store_mid 30 (.tmp 4) (.tmp 13) rfl g 0 (bv (chnT TN)).toArray rfl rfl ?htlnk228 HIP.out (dgv_one _) ?_
          case htlnk228 => exact hg.there HSP.out
          have hrg := hg.put (D := (bv (chnT TN)).toArray) HSP.out
          have hgge := hg.ge
          replace hk := below_setCells hk g hgge (bv (chnT TN)).toArray.toList 0
          replace hh := hh.but (Ne.symm hgh) (bv (chnT TN)).toArray.toList
          clear hg
          generalize wk.setCells g 0 (bv (chnT TN)).toArray.toList = wk at hk hrg hh ⊢
          simp only [Act.put]
          refine hK.out _ _ hk (fun _ => ?_)
          clear hK K
          try simp only [Act.put, List.setIfInBounds_toArray, List.set_cons_zero, List.set_cons_succ]
          refine wpAnyH_ready (rs := [12]) (by decide +kernel) (by simp) ?_
          refine AllReadyH.cons (o := { dst := none, op := Op.store 30 (Operand.tmp 5) (Operand.tmp 18), type := 0, pos := "law.go:207", after := #[{ on := 10, ground := Ground.data }, { on := 8, ground := Ground.data }, { on := 11, ground := Ground.chain }, { on := 0, ground := Ground.phase }, { on := 1, ground := Ground.phase }, { on := 2, ground := Ground.phase }, { on := 3, ground := Ground.phase }, { on := 4, ground := Ground.phase }, { on := 5, ground := Ground.phase }, { on := 6, ground := Ground.phase }, { on := 7, ground := Ground.phase }, { on := 8, ground := Ground.phase }, { on := 9, ground := Ground.phase }, { on := 10, ground := Ground.phase }, { on := 11, ground := Ground.phase }], guard := none }) rfl (fun K hK => ?_) AllReadyH.nil
          rw [if_pos (by rfl)]
          refine wp_store_mid 30 (.tmp 5) (.tmp 18) rfl h 0 (bv (leafL t 256)).toArray rfl rfl ?htlnk229 HID.out (dgv_one _) ?_
          case htlnk229 => exact hh.there HSD.out
          have hrh := hh.put (D := (bv (leafL t 256)).toArray) HSD.out
          have hhge := hh.ge
          replace hk := below_setCells hk h hhge (bv (leafL t 256)).toArray.toList 0
          replace hrg := nv_but hrg hgh (bv (leafL t 256)).toArray.toList
          clear hh
          generalize wk.setCells h 0 (bv (leafL t 256)).toArray.toList = wk at hk hrg hrh ⊢
          simp only [Act.put]
          refine hK.out _ _ hk (fun _ => ?_)
          clear hK K
          try simp only [Act.put, List.setIfInBounds_toArray, List.set_cons_zero, List.set_cons_succ]
          refine wpAnyH_done (by decide +kernel) ?_ _
          go_wp2_with fail
          go_meet
          case rel => exact ⟨g, h, rfl, rfl, ⟨⟨hk, ⟨hrg, HPD.out⟩, ⟨hrh, HLD.out⟩⟩⟩⟩
    · rw [if_pos (by rfl)]
      refine wp_alloc_of 30 32 rfl dg_zsz ?_
      intro cs hcs
      have hg := NV.new (T := 30) (N0 := w.heap.size) (wr := wk) hk.size hcs
      have hbA : Below wk.heap.size wk (wk.alloc (.cells cs 30)) := (Below.refl _ _).alloc (Nat.le_refl _) _
      try have hgh := Nat.ne_of_gt hh.lt
      replace hk := bstep hk hbA
      try replace hh := hh.step hbA
      clear hbA hcs
      first | (generalize wk.heap.size = g at hg hgh ⊢) | (generalize wk.heap.size = g at hg ⊢)
      first | (generalize wk.alloc (.cells cs 30) = wk at hg hh hk ⊢) | (generalize wk.alloc (.cells cs 30) = wk at hg hk ⊢)
      simp only [Act.put, List.setIfInBounds_toArray, List.set_cons_zero, List.set_cons_succ]
      refine hK.out _ _ hk (fun _ => ?_)
      clear hK K
      try simp only [Act.put, List.setIfInBounds_toArray, List.set_cons_zero, List.set_cons_succ]
      refine wpAnyH_ready (rs := [3, 10]) (by decide +kernel) (by simp) ?_
      refine (AllReadyH.cons (o := { dst := some 13, op := Op.call { callee := Callee.value (Operand.func 62), args := #[Operand.tmp 12], argTypes := #[28] }, type := 30, pos := "law.go:207", after := #[{ on := 2, ground := Ground.data }], guard := none }) rfl (fun K hK => ?_) (AllReadyH.cons (o := { dst := some 5, op := Op.alloc 30, type := 0, pos := "law.go:207", after := #[], guard := none }) rfl (fun K hK => ?_) AllReadyH.nil))
      · go_simp
        refine (refchain21_any (some ⟨b, off, none⟩) n cap TN _ (HTN.out.below hk) HFT.out).mono ?_
        rintro e1 wk ⟨rfl, hb1⟩
        replace hk := bstep hk hb1
        try replace hg := hg.step hb1
        try replace hh := hh.step hb1
        clear hb1
        refine hK.out _ _ hk (fun _ => ?_)
        clear hK K
        try simp only [Act.put, List.setIfInBounds_toArray, List.set_cons_zero, List.set_cons_succ]
        refine wpAnyH_ready (rs := [8, 10]) (by decide +kernel) (by simp) ?_
        refine (AllReadyH.cons (o := { dst := some 18, op := Op.call { callee := Callee.value (Operand.func 63), args := #[Operand.tmp 17, Operand.const (Value.int IntKind.i64 256)], argTypes := #[22, 3] }, type := 30, pos := "law.go:207", after := #[{ on := 7, ground := Ground.data }, { on := 3, ground := Ground.chain }], guard := none }) rfl (fun K hK => ?_) (AllReadyH.cons (o := { dst := some 5, op := Op.alloc 30, type := 0, pos := "law.go:207", after := #[], guard := none }) rfl (fun K hK => ?_) AllReadyH.nil))
        · go_simp
          refine (refleaf_any ai li ci t 256 _ (HBT.out.below hk) HF.out).mono ?_
          rintro e1 wk ⟨rfl, hb1⟩
          replace hk := bstep hk hb1
          try replace hg := hg.step hb1
          try replace hh := hh.step hb1
          clear hb1
          refine hK.out _ _ hk (fun _ => ?_)
          clear hK K
          try simp only [Act.put, List.setIfInBounds_toArray, List.set_cons_zero, List.set_cons_succ]
          refine wpAnyH_ready (rs := [10]) (by decide +kernel) (by simp) ?_
          refine AllReadyH.cons (o := { dst := some 5, op := Op.alloc 30, type := 0, pos := "law.go:207", after := #[], guard := none }) rfl (fun K hK => ?_) AllReadyH.nil
          rw [if_pos (by rfl)]
          refine wp_alloc_of 30 32 rfl dg_zsz ?_
          intro cs hcs
          have hh := NV.new (T := 30) (N0 := w.heap.size) (wr := wk) hk.size hcs
          have hbA : Below wk.heap.size wk (wk.alloc (.cells cs 30)) := (Below.refl _ _).alloc (Nat.le_refl _) _
          try have hgh := Nat.ne_of_lt hg.lt
          replace hk := bstep hk hbA
          try replace hg := hg.step hbA
          clear hbA hcs
          first | (generalize wk.heap.size = h at hh hgh ⊢) | (generalize wk.heap.size = h at hh ⊢)
          first | (generalize wk.alloc (.cells cs 30) = wk at hh hg hk ⊢) | (generalize wk.alloc (.cells cs 30) = wk at hh hk ⊢)
          simp only [Act.put, List.setIfInBounds_toArray, List.set_cons_zero, List.set_cons_succ]
          refine hK.out _ _ hk (fun _ => ?_)
          clear hK K
          try simp only [Act.put, List.setIfInBounds_toArray, List.set_cons_zero, List.set_cons_succ]
          refine wpAnyH_ready (rs := [11]) (by decide +kernel) (by simp) ?_
          refine AllReadyH.cons (o := { dst := none, op := Op.store 30 (Operand.tmp 4) (Operand.tmp 13), type := 0, pos := "law.go:207", after := #[{ on := 9, ground := Ground.data }, { on := 3, ground := Ground.data }, { on := 8, ground := Ground.chain }, { on := 0, ground := Ground.phase }, { on := 1, ground := Ground.phase }, { on := 2, ground := Ground.phase }, { on := 3, ground := Ground.phase }, { on := 4, ground := Ground.textOnly Departure.lateStores }, { on := 5, ground := Ground.textOnly Departure.lateStores }, { on := 6, ground := Ground.textOnly Departure.lateStoresUnsure }, { on := 7, ground := Ground.phase }, { on := 8, ground := Ground.phase }, { on := 9, ground := Ground.phase }, { on := 10, ground := Ground.phase }], guard := none }) rfl (fun K hK => ?_) AllReadyH.nil
          rw [if_pos (by rfl)]
          refine wp_store_mid 30 (.tmp 4) (.tmp 13) rfl g 0 (bv (chnT TN)).toArray rfl rfl ?htlnk232 HIP.out (dgv_one _) ?_
          case htlnk232 => exact hg.there HSP.out
          have hrg := hg.put (D := (bv (chnT TN)).toArray) HSP.out
          have hgge := hg.ge
          replace hk := below_setCells hk g hgge (bv (chnT TN)).toArray.toList 0
          replace hh := hh.but (Ne.symm hgh) (bv (chnT TN)).toArray.toList
          clear hg
          generalize wk.setCells g 0 (bv (chnT TN)).toArray.toList = wk at hk hrg hh ⊢
          simp only [Act.put]
          refine hK.out _ _ hk (fun _ => ?_)
          clear hK K
          try simp only [Act.put, List.setIfInBounds_toArray, List.set_cons_zero, List.set_cons_succ]
          refine wpAnyH_ready (rs := [12]) (by decide +kernel) (by simp) ?_
          refine AllReadyH.cons (o := { dst := none, op := Op.store 30 (Operand.tmp 5) (Operand.tmp 18), type := 0, pos := "law.go:207", after := #[{ on := 10, ground := Ground.data }, { on := 8, ground := Ground.data }, { on := 11, ground := Ground.chain }, { on := 0, ground := Ground.phase }, { on := 1, ground := Ground.phase }, { on := 2, ground := Ground.phase }, { on := 3, ground := Ground.phase }, { on := 4, ground := Ground.phase }, { on := 5, ground := Ground.phase }, { on := 6, ground := Ground.phase }, { on := 7, ground := Ground.phase }, { on := 8, ground := Ground.phase }, { on := 9, ground := Ground.phase }, { on := 10, ground := Ground.phase }, { on := 11, ground := Ground.phase }], guard := none }) rfl (fun K hK => ?_) AllReadyH.nil
          rw [if_pos (by rfl)]
          refine wp_store_mid 30 (.tmp 5) (.tmp 18) rfl h 0 (bv (leafL t 256)).toArray rfl rfl ?htlnk233 HID.out (dgv_one _) ?_
          case htlnk233 => exact hh.there HSD.out
          have hrh := hh.put (D := (bv (leafL t 256)).toArray) HSD.out
          have hhge := hh.ge
          replace hk := below_setCells hk h hhge (bv (leafL t 256)).toArray.toList 0
          replace hrg := nv_but hrg hgh (bv (leafL t 256)).toArray.toList
          clear hh
          generalize wk.setCells h 0 (bv (leafL t 256)).toArray.toList = wk at hk hrg hrh ⊢
          simp only [Act.put]
          refine hK.out _ _ hk (fun _ => ?_)
          clear hK K
          try simp only [Act.put, List.setIfInBounds_toArray, List.set_cons_zero, List.set_cons_succ]
          refine wpAnyH_done (by decide +kernel) ?_ _
          go_wp2_with fail
          go_meet
          case rel => exact ⟨g, h, rfl, rfl, ⟨⟨hk, ⟨hrg, HPD.out⟩, ⟨hrh, HLD.out⟩⟩⟩⟩
        · rw [if_pos (by rfl)]
          refine wp_alloc_of 30 32 rfl dg_zsz ?_
          intro cs hcs
          have hh := NV.new (T := 30) (N0 := w.heap.size) (wr := wk) hk.size hcs
          have hbA : Below wk.heap.size wk (wk.alloc (.cells cs 30)) := (Below.refl _ _).alloc (Nat.le_refl _) _
          try have hgh := Nat.ne_of_lt hg.lt
          replace hk := bstep hk hbA
          try replace hg := hg.step hbA
          clear hbA hcs
          first | (generalize wk.heap.size = h at hh hgh ⊢) | (generalize wk.heap.size = h at hh ⊢)
          first | (generalize wk.alloc (.cells cs 30) = wk at hh hg hk ⊢) | (generalize wk.alloc (.cells cs 30) = wk at hh hk ⊢)
          simp only [Act.put, List.setIfInBounds_toArray, List.set_cons_zero, List.set_cons_succ]
          refine hK.out _ _ hk (fun _ => ?_)
          clear hK K
          try simp only [Act.put, List.setIfInBounds_toArray, List.set_cons_zero, List.set_cons_succ]
          refine wpAnyH_ready (rs := [8]) (by decide +kernel) (by simp) ?_
          refine AllReadyH.cons (o := { dst := some 18, op := Op.call { callee := Callee.value (Operand.func 63), args := #[Operand.tmp 17, Operand.const (Value.int IntKind.i64 256)], argTypes := #[22, 3] }, type := 30, pos := "law.go:207", after := #[{ on := 7, ground := Ground.data }, { on := 3, ground := Ground.chain }], guard := none }) rfl (fun K hK => ?_) AllReadyH.nil
          go_simp
          refine (refleaf_any ai li ci t 256 _ (HBT.out.below hk) HF.out).mono ?_
          rintro e1 wk ⟨rfl, hb1⟩
          replace hk := bstep hk hb1
          try replace hg := hg.step hb1
          try replace hh := hh.step hb1
          clear hb1
          refine hK.out _ _ hk (fun _ => ?_)
          clear hK K
          try simp only [Act.put, List.setIfInBounds_toArray, List.set_cons_zero, List.set_cons_succ]
          refine wpAnyH_ready (rs := [11]) (by decide +kernel) (by simp) ?_
          refine AllReadyH.cons (o := { dst := none, op := Op.store 30 (Operand.tmp 4) (Operand.tmp 13), type := 0, pos := "law.go:207", after := #[{ on := 9, ground := Ground.data }, { on := 3, ground := Ground.data }, { on := 8, ground := Ground.chain }, { on := 0, ground := Ground.phase }, { on := 1, ground := Ground.phase }, { on := 2, ground := Ground.phase }, { on := 3, ground := Ground.phase }, { on := 4, ground := Ground.textOnly Departure.lateStores }, { on := 5, ground := Ground.textOnly Departure.lateStores }, { on := 6, ground := Ground.textOnly Departure.lateStoresUnsure }, { on := 7, ground := Ground.phase }, { on := 8, ground := Ground.phase }, { on := 9, ground := Ground.phase }, { on := 10, ground := Ground.phase }], guard := none }) rfl (fun K hK => ?_) AllReadyH.nil
          rw [if_pos (by rfl)]
          refine wp_store_mid 30 (.tmp 4) (.tmp 13) rfl g 0 (bv (chnT TN)).toArray rfl rfl ?htlnk235 HIP.out (dgv_one _) ?_
          case htlnk235 => exact hg.there HSP.out
          have hrg := hg.put (D := (bv (chnT TN)).toArray) HSP.out
          have hgge := hg.ge
          replace hk := below_setCells hk g hgge (bv (chnT TN)).toArray.toList 0
          replace hh := hh.but (Ne.symm hgh) (bv (chnT TN)).toArray.toList
          clear hg
          generalize wk.setCells g 0 (bv (chnT TN)).toArray.toList = wk at hk hrg hh ⊢
          simp only [Act.put]
          refine hK.out _ _ hk (fun _ => ?_)
          clear hK K
          try simp only [Act.put, List.setIfInBounds_toArray, List.set_cons_zero, List.set_cons_succ]
          refine wpAnyH_ready (rs := [12]) (by decide +kernel) (by simp) ?_
          refine AllReadyH.cons (o := { dst := none, op := Op.store 30 (Operand.tmp 5) (Operand.tmp 18), type := 0, pos := "law.go:207", after := #[{ on := 10, ground := Ground.data }, { on := 8, ground := Ground.data }, { on := 11, ground := Ground.chain }, { on := 0, ground := Ground.phase }, { on := 1, ground := Ground.phase }, { on := 2, ground := Ground.phase }, { on := 3, ground := Ground.phase }, { on := 4, ground := Ground.phase }, { on := 5, ground := Ground.phase }, { on := 6, ground := Ground.phase }, { on := 7, ground := Ground.phase }, { on := 8, ground := Ground.phase }, { on := 9, ground := Ground.phase }, { on := 10, ground := Ground.phase }, { on := 11, ground := Ground.phase }], guard := none }) rfl (fun K hK => ?_) AllReadyH.nil
          rw [if_pos (by rfl)]
          refine wp_store_mid 30 (.tmp 5) (.tmp 18) rfl h 0 (bv (leafL t 256)).toArray rfl rfl ?htlnk236 HID.out (dgv_one _) ?_
          case htlnk236 => exact hh.there HSD.out
          have hrh := hh.put (D := (bv (leafL t 256)).toArray) HSD.out
          have hhge := hh.ge
          replace hk := below_setCells hk h hhge (bv (leafL t 256)).toArray.toList 0
          replace hrg := nv_but hrg hgh (bv (leafL t 256)).toArray.toList
          clear hh
          generalize wk.setCells h 0 (bv (leafL t 256)).toArray.toList = wk at hk hrg hrh ⊢
          simp only [Act.put]
          refine hK.out _ _ hk (fun _ => ?_)
          clear hK K
          try simp only [Act.put, List.setIfInBounds_toArray, List.set_cons_zero, List.set_cons_succ]
          refine wpAnyH_done (by decide +kernel) ?_ _
          go_wp2_with fail
          go_meet
          case rel => exact ⟨g, h, rfl, rfl, ⟨⟨hk, ⟨hrg, HPD.out⟩, ⟨hrh, HLD.out⟩⟩⟩⟩
      · rw [if_pos (by rfl)]
        refine wp_alloc_of 30 32 rfl dg_zsz ?_
        intro cs hcs
        have hh := NV.new (T := 30) (N0 := w.heap.size) (wr := wk) hk.size hcs
        have hbA : Below wk.heap.size wk (wk.alloc (.cells cs 30)) := (Below.refl _ _).alloc (Nat.le_refl _) _
        try have hgh := Nat.ne_of_lt hg.lt
        replace hk := bstep hk hbA
        try replace hg := hg.step hbA
        clear hbA hcs
        first | (generalize wk.heap.size = h at hh hgh ⊢) | (generalize wk.heap.size = h at hh ⊢)
        first | (generalize wk.alloc (.cells cs 30) = wk at hh hg hk ⊢) | (generalize wk.alloc (.cells cs 30) = wk at hh hk ⊢)
        simp only [Act.put, List.setIfInBounds_toArray, List.set_cons_zero, List.set_cons_succ]
        refine hK.out _ _ hk (fun _ => ?_)
        clear hK K
        try simp only [Act.put, List.setIfInBounds_toArray, List.set_cons_zero, List.set_cons_succ]
        refine wpAnyH_ready (rs := [3]) (by decide +kernel) (by simp) ?_
        refine AllReadyH.cons (o := { dst := some 13, op := Op.call { callee := Callee.value (Operand.func 62), args := #[Operand.tmp 12], argTypes := #[28] }, type := 30, pos := "law.go:207", after := #[{ on := 2, ground := Ground.data }], guard := none }) rfl (fun K hK => ?_) AllReadyH.nil
        go_simp
        refine (refchain21_any (some ⟨b, off, none⟩) n cap TN _ (HTN.out.below hk) HFT.out).mono ?_
        rintro e1 wk ⟨rfl, hb1⟩
        replace hk := bstep hk hb1
        try replace hg := hg.step hb1
        try replace hh := hh.step hb1
        clear hb1
        refine hK.out _ _ hk (fun _ => ?_)
        clear hK K
        try simp only [Act.put, List.setIfInBounds_toArray, List.set_cons_zero, List.set_cons_succ]
        refine wpAnyH_ready (rs := [8]) (by decide +kernel) (by simp) ?_
        refine AllReadyH.cons (o := { dst := some 18, op := Op.call { callee := Callee.value (Operand.func 63), args := #[Operand.tmp 17, Operand.const (Value.int IntKind.i64 256)], argTypes := #[22, 3] }, type := 30, pos := "law.go:207", after := #[{ on := 7, ground := Ground.data }, { on := 3, ground := Ground.chain }], guard := none }) rfl (fun K hK => ?_) AllReadyH.nil
        go_simp
        refine (refleaf_any ai li ci t 256 _ (HBT.out.below hk) HF.out).mono ?_
        rintro e1 wk ⟨rfl, hb1⟩
        replace hk := bstep hk hb1
        try replace hg := hg.step hb1
        try replace hh := hh.step hb1
        clear hb1
        refine hK.out _ _ hk (fun _ => ?_)
        clear hK K
        try simp only [Act.put, List.setIfInBounds_toArray, List.set_cons_zero, List.set_cons_succ]
        refine wpAnyH_ready (rs := [11]) (by decide +kernel) (by simp) ?_
        refine AllReadyH.cons (o := { dst := none, op := Op.store 30 (Operand.tmp 4) (Operand.tmp 13), type := 0, pos := "law.go:207", after := #[{ on := 9, ground := Ground.data }, { on := 3, ground := Ground.data }, { on := 8, ground := Ground.chain }, { on := 0, ground := Ground.phase }, { on := 1, ground := Ground.phase }, { on := 2, ground := Ground.phase }, { on := 3, ground := Ground.phase }, { on := 4, ground := Ground.textOnly Departure.lateStores }, { on := 5, ground := Ground.textOnly Departure.lateStores }, { on := 6, ground := Ground.textOnly Departure.lateStoresUnsure }, { on := 7, ground := Ground.phase }, { on := 8, ground := Ground.phase }, { on := 9, ground := Ground.phase }, { on := 10, ground := Ground.phase }], guard := none }) rfl (fun K hK => ?_) AllReadyH.nil
        rw [if_pos (by rfl)]
        refine wp_store_mid 30 (.tmp 4) (.tmp 13) rfl g 0 (bv (chnT TN)).toArray rfl rfl ?htlnk238 HIP.out (dgv_one _) ?_
        case htlnk238 => exact hg.there HSP.out
        have hrg := hg.put (D := (bv (chnT TN)).toArray) HSP.out
        have hgge := hg.ge
        replace hk := below_setCells hk g hgge (bv (chnT TN)).toArray.toList 0
        replace hh := hh.but (Ne.symm hgh) (bv (chnT TN)).toArray.toList
        clear hg
        generalize wk.setCells g 0 (bv (chnT TN)).toArray.toList = wk at hk hrg hh ⊢
        simp only [Act.put]
        refine hK.out _ _ hk (fun _ => ?_)
        clear hK K
        try simp only [Act.put, List.setIfInBounds_toArray, List.set_cons_zero, List.set_cons_succ]
        refine wpAnyH_ready (rs := [12]) (by decide +kernel) (by simp) ?_
        refine AllReadyH.cons (o := { dst := none, op := Op.store 30 (Operand.tmp 5) (Operand.tmp 18), type := 0, pos := "law.go:207", after := #[{ on := 10, ground := Ground.data }, { on := 8, ground := Ground.data }, { on := 11, ground := Ground.chain }, { on := 0, ground := Ground.phase }, { on := 1, ground := Ground.phase }, { on := 2, ground := Ground.phase }, { on := 3, ground := Ground.phase }, { on := 4, ground := Ground.phase }, { on := 5, ground := Ground.phase }, { on := 6, ground := Ground.phase }, { on := 7, ground := Ground.phase }, { on := 8, ground := Ground.phase }, { on := 9, ground := Ground.phase }, { on := 10, ground := Ground.phase }, { on := 11, ground := Ground.phase }], guard := none }) rfl (fun K hK => ?_) AllReadyH.nil
        rw [if_pos (by rfl)]
        refine wp_store_mid 30 (.tmp 5) (.tmp 18) rfl h 0 (bv (leafL t 256)).toArray rfl rfl ?htlnk239 HID.out (dgv_one _) ?_
        case htlnk239 => exact hh.there HSD.out
        have hrh := hh.put (D := (bv (leafL t 256)).toArray) HSD.out
        have hhge := hh.ge
        replace hk := below_setCells hk h hhge (bv (leafL t 256)).toArray.toList 0
        replace hrg := nv_but hrg hgh (bv (leafL t 256)).toArray.toList
        clear hh
        generalize wk.setCells h 0 (bv (leafL t 256)).toArray.toList = wk at hk hrg hrh ⊢
        simp only [Act.put]
        refine hK.out _ _ hk (fun _ => ?_)
        clear hK K
        try simp only [Act.put, List.setIfInBounds_toArray, List.set_cons_zero, List.set_cons_succ]
        refine wpAnyH_done (by decide +kernel) ?_ _
        go_wp2_with fail
        go_meet
        case rel => exact ⟨g, h, rfl, rfl, ⟨⟨hk, ⟨hrg, HPD.out⟩, ⟨hrh, HLD.out⟩⟩⟩⟩
    · rw [if_pos (by rfl)]
      refine wp_alloc_of 30 32 rfl dg_zsz ?_
      intro cs hcs
      have hh := NV.new (T := 30) (N0 := w.heap.size) (wr := wk) hk.size hcs
      have hbA : Below wk.heap.size wk (wk.alloc (.cells cs 30)) := (Below.refl _ _).alloc (Nat.le_refl _) _
      try have hgh := Nat.ne_of_lt hg.lt
      replace hk := bstep hk hbA
      try replace hg := hg.step hbA
      clear hbA hcs
      first | (generalize wk.heap.size = h at hh hgh ⊢) | (generalize wk.heap.size = h at hh ⊢)
      first | (generalize wk.alloc (.cells cs 30) = wk at hh hg hk ⊢) | (generalize wk.alloc (.cells cs 30) = wk at hh hk ⊢)
      simp only [Act.put, List.setIfInBounds_toArray, List.set_cons_zero, List.set_cons_succ]
      refine hK.out _ _ hk (fun _ => ?_)
      clear hK K
      try simp only [Act.put, List.setIfInBounds_toArray, List.set_cons_zero, List.set_cons_succ]
      refine wpAnyH_ready (rs := [3, 9]) (by decide +kernel) (by simp) ?_
      refine (AllReadyH.cons (o := { dst := some 13, op := Op.call { callee := Callee.value (Operand.func 62), args := #[Operand.tmp 12], argTypes := #[28] }, type := 30, pos := "law.go:207", after := #[{ on := 2, ground := Ground.data }], guard := none }) rfl (fun K hK => ?_) (AllReadyH.cons (o := { dst := some 4, op := Op.alloc 30, type := 0, pos := "law.go:207", after := #[], guard := none }) rfl (fun K hK => ?_) AllReadyH.nil))
      · go_simp
        refine (refchain21_any (some ⟨b, off, none⟩) n cap TN _ (HTN.out.below hk) HFT.out).mono ?_
        rintro e1 wk ⟨rfl, hb1⟩
        replace hk := bstep hk hb1
        try replace hg := hg.step hb1
        try replace hh := hh.step hb1
        clear hb1
        refine hK.out _ _ hk (fun _ => ?_)
        clear hK K
        try simp only [Act.put, List.setIfInBounds_toArray, List.set_cons_zero, List.set_cons_succ]
        refine wpAnyH_ready (rs := [8, 9]) (by decide +kernel) (by simp) ?_
        refine (AllReadyH.cons (o := { dst := some 18, op := Op.call { callee := Callee.value (Operand.func 63), args := #[Operand.tmp 17, Operand.const (Value.int IntKind.i64 256)], argTypes := #[22, 3] }, type := 30, pos := "law.go:207", after := #[{ on := 7, ground := Ground.data }, { on := 3, ground := Ground.chain }], guard := none }) rfl (fun K hK => ?_) (AllReadyH.cons (o := { dst := some 4, op := Op.alloc 30, type := 0, pos := "law.go:207", after := #[], guard := none }) rfl (fun K hK => ?_) AllReadyH.nil))
        · go_simp
          refine (refleaf_any ai li ci t 256 _ (HBT.out.below hk) HF.out).mono ?_
          rintro e1 wk ⟨rfl, hb1⟩
          replace hk := bstep hk hb1
          try replace hg := hg.step hb1
          try replace hh := hh.step hb1
          clear hb1
          refine hK.out _ _ hk (fun _ => ?_)
          clear hK K
          try simp only [Act.put, List.setIfInBounds_toArray, List.set_cons_zero, List.set_cons_succ]
          refine wpAnyH_ready (rs := [9]) (by decide +kernel) (by simp) ?_
          refine AllReadyH.cons (o := { dst := some 4, op := Op.alloc 30, type := 0, pos := "law.go:207", after := #[], guard := none }) rfl (fun K hK => ?_) AllReadyH.nil
          rw [if_pos (by rfl)]
          refine wp_alloc_of 30 32 rfl dg_zsz ?_
          intro cs hcs
          have hg := NV.new (T := 30) (N0 := w.heap.size) (wr := wk) hk.size hcs
          have hbA : Below wk.heap.size wk (wk.alloc (.cells cs 30)) := (Below.refl _ _).alloc (Nat.le_refl _) _
          try have hgh := Nat.ne_of_gt hh.lt
          replace hk := bstep hk hbA
          try replace hh := hh.step hbA
          clear hbA hcs
          first | (generalize wk.heap.size = g at hg hgh ⊢) | (generalize wk.heap.size = g at hg ⊢)
          first | (generalize wk.alloc (.cells cs 30) = wk at hg hh hk ⊢) | (generalize wk.alloc (.cells cs 30) = wk at hg hk ⊢)
          simp only [Act.put, List.setIfInBounds_toArray, List.set_cons_zero, List.set_cons_succ]
          refine hK.out _ _ hk (fun _ => ?_)
          clear hK K
          try simp only [Act.put, List.setIfInBounds_toArray, List.set_cons_zero, List.set_cons_succ]
          refine wpAnyH_ready (rs := [11]) (by decide +kernel) (by simp) ?_
          refine AllReadyH.cons (o := { dst := none, op := Op.store 30 (Operand.tmp 4) (Operand.tmp 13), type := 0, pos := "law.go:207", after := #[{ on := 9, ground := Ground.data }, { on := 3, ground := Ground.data }, { on := 8, ground := Ground.chain }, { on := 0, ground := Ground.phase }, { on := 1, ground := Ground.phase }, { on := 2, ground := Ground.phase }, { on := 3, ground := Ground.phase }, { on := 4, ground := Ground.textOnly Departure.lateStores }, { on := 5, ground := Ground.textOnly Departure.lateStores }, { on := 6, ground := Ground.textOnly Departure.lateStoresUnsure }, { on := 7, ground := Ground.phase }, { on := 8, ground := Ground.phase }, { on := 9, ground := Ground.phase }, { on := 10, ground := Ground.phase }], guard := none }) rfl (fun K hK => ?_) AllReadyH.nil
          rw [if_pos (by rfl)]
          refine wp_store_mid 30 (.tmp 4) (.tmp 13) rfl g 0 (bv (chnT TN)).toArray rfl rfl ?htlnk242 HIP.out (dgv_one _) ?_
          case htlnk242 => exact hg.there HSP.out
          have hrg := hg.put (D := (bv (chnT TN)).toArray) HSP.out
          have hgge := hg.ge
          replace hk := below_setCells hk g hgge (bv (chnT TN)).toArray.toList 0
          replace hh := hh.but (Ne.symm hgh) (bv (chnT TN)).toArray.toList
          clear hg
          generalize wk.setCells g 0 (bv (chnT TN)).toArray.toList = wk at hk hrg hh ⊢
          simp only [Act.put]
          refine hK.out _ _ hk (fun _ => ?_)
          clear hK K
          try simp only [Act.put, List.setIfInBounds_toArray, List.set_cons_zero, List.set_cons_succ]
          refine wpAnyH_ready (rs := [12]) (by decide +kernel) (by simp) ?_
          refine AllReadyH.cons (o := { dst := none, op := Op.store 30 (Operand.tmp 5) (Operand.tmp 18), type := 0, pos := "law.go:207", after := #[{ on := 10, ground := Ground.data }, { on := 8, ground := Ground.data }, { on := 11, ground := Ground.chain }, { on := 0, ground := Ground.phase }, { on := 1, ground := Ground.phase }, { on := 2, ground := Ground.phase }, { on := 3, ground := Ground.phase }, { on := 4, ground := Ground.phase }, { on := 5, ground := Ground.phase }, { on := 6, ground := Ground.phase }, { on := 7, ground := Ground.phase }, { on := 8, ground := Ground.phase }, { on := 9, ground := Ground.phase }, { on := 10, ground := Ground.phase }, { on := 11, ground := Ground.phase }], guard := none }) rfl (fun K hK => ?_) AllReadyH.nil
          rw [if_pos (by rfl)]
          refine wp_store_mid 30 (.tmp 5) (.tmp 18) rfl h 0 (bv (leafL t 256)).toArray rfl rfl ?htlnk243 HID.out (dgv_one _) ?_
          case htlnk243 => exact hh.there HSD.out
          have hrh := hh.put (D := (bv (leafL t 256)).toArray) HSD.out
          have hhge := hh.ge
          replace hk := below_setCells hk h hhge (bv (leafL t 256)).toArray.toList 0
          replace hrg := nv_but hrg hgh (bv (leafL t 256)).toArray.toList
          clear hh
          generalize wk.setCells h 0 (bv (leafL t 256)).toArray.toList = wk at hk hrg hrh ⊢
          simp only [Act.put]
          refine hK.out _ _ hk (fun _ => ?_)
          clear hK K
          try simp only [Act.put, List.setIfInBounds_toArray, List.set_cons_zero, List.set_cons_succ]
          refine wpAnyH_done (by decide +kernel) ?_ _
          go_wp2_with fail
          go_meet
          case rel => exact ⟨g, h, rfl, rfl, ⟨⟨hk, ⟨hrg, HPD.out⟩, ⟨hrh, HLD.out⟩⟩⟩⟩
        · rw [if_pos (by rfl)]
          refine wp_alloc_of 30 32 rfl dg_zsz ?_
          intro cs hcs
          have hg := NV.new (T := 30) (N0 := w.heap.size) (wr := wk) hk.size hcs
          have hbA : Below wk.heap.size wk (wk.alloc (.cells cs 30)) := (Below.refl _ _).alloc (Nat.le_refl _) _
          try have hgh := Nat.ne_of_gt hh.lt
          replace hk := bstep hk hbA
          try replace hh := hh.step hbA
          clear hbA hcs
          first | (generalize wk.heap.size = g at hg hgh ⊢) | (generalize wk.heap.size = g at hg ⊢)
          first | (generalize wk.alloc (.cells cs 30) = wk at hg hh hk ⊢) | (generalize wk.alloc (.cells cs 30) = wk at hg hk ⊢)
          simp only [Act.put, List.setIfInBounds_toArray, List.set_cons_zero, List.set_cons_succ]
          refine hK.out _ _ hk (fun _ => ?_)
          clear hK K
          try simp only [Act.put, List.setIfInBounds_toArray, List.set_cons_zero, List.set_cons_succ]
          refine wpAnyH_ready (rs := [8]) (by decide +kernel) (by simp) ?_
          refine AllReadyH.cons (o := { dst := some 18, op := Op.call { callee := Callee.value (Operand.func 63), args := #[Operand.tmp 17, Operand.const (Value.int IntKind.i64 256)], argTypes := #[22, 3] }, type := 30, pos := "law.go:207", after := #[{ on := 7, ground := Ground.data }, { on := 3, ground := Ground.chain }], guard := none }) rfl (fun K hK => ?_) AllReadyH.nil
          go_simp
          refine (refleaf_any ai li ci t 256 _ (HBT.out.below hk) HF.out).mono ?_
          rintro e1 wk ⟨rfl, hb1⟩
          replace hk := bstep hk hb1
          try replace hg := hg.step hb1
          try replace hh := hh.step hb1
          clear hb1
          refine hK.out _ _ hk (fun _ => ?_)
          clear hK K
          try simp only [Act.put, List.setIfInBounds_toArray, List.set_cons_zero, List.set_cons_succ]
          refine wpAnyH_ready (rs := [11]) (by decide +kernel) (by simp) ?_
          refine AllReadyH.cons (o := { dst := none, op := Op.store 30 (Operand.tmp 4) (Operand.tmp 13), type := 0, pos := "law.go:207", after := #[{ on := 9, ground := Ground.data }, { on := 3, ground := Ground.data }, { on := 8, ground := Ground.chain }, { on := 0, ground := Ground.phase }, { on := 1, ground := Ground.phase }, { on := 2, ground := Ground.phase }, { on := 3, ground := Ground.phase }, { on := 4, ground := Ground.textOnly Departure.lateStores }, { on := 5, ground := Ground.textOnly Departure.lateStores }, { on := 6, ground := Ground.textOnly Departure.lateStoresUnsure }, { on := 7, ground := Ground.phase }, { on := 8, ground := Ground.phase }, { on := 9, ground := Ground.phase }, { on := 10, ground := Ground.phase }], guard := none }) rfl (fun K hK => ?_) AllReadyH.nil
          rw [if_pos (by rfl)]
          refine wp_store_mid 30 (.tmp 4) (.tmp 13) rfl g 0 (bv (chnT TN)).toArray rfl rfl ?htlnk245 HIP.out (dgv_one _) ?_
          case htlnk245 => exact hg.there HSP.out
          have hrg := hg.put (D := (bv (chnT TN)).toArray) HSP.out
          have hgge := hg.ge
          replace hk := below_setCells hk g hgge (bv (chnT TN)).toArray.toList 0
          replace hh := hh.but (Ne.symm hgh) (bv (chnT TN)).toArray.toList
          clear hg
          generalize wk.setCells g 0 (bv (chnT TN)).toArray.toList = wk at hk hrg hh ⊢
          simp only [Act.put]
          refine hK.out _ _ hk (fun _ => ?_)
          clear hK K
          try simp only [Act.put, List.setIfInBounds_toArray, List.set_cons_zero, List.set_cons_succ]
          refine wpAnyH_ready (rs := [12]) (by decide +kernel) (by simp) ?_
          refine AllReadyH.cons (o := { dst := none, op := Op.store 30 (Operand.tmp 5) (Operand.tmp 18), type := 0, pos := "law.go:207", after := #[{ on := 10, ground := Ground.data }, { on := 8, ground := Ground.data }, { on := 11, ground := Ground.chain }, { on := 0, ground := Ground.phase }, { on := 1, ground := Ground.phase }, { on := 2, ground := Ground.phase }, { on := 3, ground := Ground.phase }, { on := 4, ground := Ground.phase }, { on := 5, ground := Ground.phase }, { on := 6, ground := Ground.phase }, { on := 7, ground := Ground.phase }, { on := 8, ground := Ground.phase }, { on := 9, ground := Ground.phase }, { on := 10, ground := Ground.phase }, { on := 11, ground := Ground.phase }], guard := none }) rfl (fun K hK => ?_) AllReadyH.nil
          rw [if_pos (by rfl)]
          refine wp_store_mid 30 (.tmp 5) (.tmp 18) rfl h 0 (bv (leafL t 256)).toArray rfl rfl ?htlnk246 HID.out (dgv_one _) ?_
          case htlnk246 => exact hh.there HSD.out
          have hrh := hh.put (D := (bv (leafL t 256)).toArray) HSD.out
          have hhge := hh.ge
          replace hk := below_setCells hk h hhge (bv (leafL t 256)).toArray.toList 0
          replace hrg := nv_but hrg hgh (bv (leafL t 256)).toArray.toList
          clear hh
          generalize wk.setCells h 0 (bv (leafL t 256)).toArray.toList = wk at hk hrg hrh ⊢
          simp only [Act.put]
          refine hK.out _ _ hk (fun _ => ?_)
          clear hK K
          try simp only [Act.put, List.setIfInBounds_toArray, List.set_cons_zero, List.set_cons_succ]
          refine wpAnyH_done (by decide +kernel) ?_ _
          go_wp2_with fail
          go_meet
          case rel => exact ⟨g, h, rfl, rfl, ⟨⟨hk, ⟨hrg, HPD.out⟩, ⟨hrh, HLD.out⟩⟩⟩⟩
      · rw [if_pos (by rfl)]
        refine wp_alloc_of 30 32 rfl dg_zsz ?_
        intro cs hcs
        have hg := NV.new (T := 30) (N0 := w.heap.size) (wr := wk) hk.size hcs
        have hbA : Below wk.heap.size wk (wk.alloc (.cells cs 30)) := (Below.refl _ _).alloc (Nat.le_refl _) _
        try have hgh := Nat.ne_of_gt hh.lt
        replace hk := bstep hk hbA
        try replace hh := hh.step hbA
        clear hbA hcs
        first | (generalize wk.heap.size = g at hg hgh ⊢) | (generalize wk.heap.size = g at hg ⊢)
        first | (generalize wk.alloc (.cells cs 30) = wk at hg hh hk ⊢) | (generalize wk.alloc (.cells cs 30) = wk at hg hk ⊢)
        simp only [Act.put, List.setIfInBounds_toArray, List.set_cons_zero, List.set_cons_succ]
        refine hK.out _ _ hk (fun _ => ?_)
        clear hK K
        try simp only [Act.put, List.setIfInBounds_toArray, List.set_cons_zero, List.set_cons_succ]
        refine wpAnyH_ready (rs := [3]) (by decide +kernel) (by simp) ?_
        refine AllReadyH.cons (o := { dst := some 13, op := Op.call { callee := Callee.value (Operand.func 62), args := #[Operand.tmp 12], argTypes := #[28] }, type := 30, pos := "law.go:207", after := #[{ on := 2, ground := Ground.data }], guard := none }) rfl (fun K hK => ?_) AllReadyH.nil
        go_simp
        refine (refchain21_any (some ⟨b, off, none⟩) n cap TN _ (HTN.out.below hk) HFT.out).mono ?_
        rintro e1 wk ⟨rfl, hb1⟩
        replace hk := bstep hk hb1
        try replace hg := hg.step hb1
        try replace hh := hh.step hb1
        clear hb1
        refine hK.out _ _ hk (fun _ => ?_)
        clear hK K
        try simp only [Act.put, List.setIfInBounds_toArray, List.set_cons_zero, List.set_cons_succ]
        refine wpAnyH_ready (rs := [8]) (by decide +kernel) (by simp) ?_
        refine AllReadyH.cons (o := { dst := some 18, op := Op.call { callee := Callee.value (Operand.func 63), args := #[Operand.tmp 17, Operand.const (Value.int IntKind.i64 256)], argTypes := #[22, 3] }, type := 30, pos := "law.go:207", after := #[{ on := 7, ground := Ground.data }, { on := 3, ground := Ground.chain }], guard := none }) rfl (fun K hK => ?_) AllReadyH.nil
        go_simp
        refine (refleaf_any ai li ci t 256 _ (HBT.out.below hk) HF.out).mono ?_
        rintro e1 wk ⟨rfl, hb1⟩
        replace hk := bstep hk hb1
        try replace hg := hg.step hb1
        try replace hh := hh.step hb1
        clear hb1
        refine hK.out _ _ hk (fun _ => ?_)
        clear hK K
        try simp only [Act.put, List.setIfInBounds_toArray, List.set_cons_zero, List.set_cons_succ]
        refine wpAnyH_ready (rs := [11]) (by decide +kernel) (by simp) ?_
        refine AllReadyH.cons (o := { dst := none, op := Op.store 30 (Operand.tmp 4) (Operand.tmp 13), type := 0, pos := "law.go:207", after := #[{ on := 9, ground := Ground.data }, { on := 3, ground := Ground.data }, { on := 8, ground := Ground.chain }, { on := 0, ground := Ground.phase }, { on := 1, ground := Ground.phase }, { on := 2, ground := Ground.phase }, { on := 3, ground := Ground.phase }, { on := 4, ground := Ground.textOnly Departure.lateStores }, { on := 5, ground := Ground.textOnly Departure.lateStores }, { on := 6, ground := Ground.textOnly Departure.lateStoresUnsure }, { on := 7, ground := Ground.phase }, { on := 8, ground := Ground.phase }, { on := 9, ground := Ground.phase }, { on := 10, ground := Ground.phase }], guard := none }) rfl (fun K hK => ?_) AllReadyH.nil
        rw [if_pos (by rfl)]
        refine wp_store_mid 30 (.tmp 4) (.tmp 13) rfl g 0 (bv (chnT TN)).toArray rfl rfl ?htlnk248 HIP.out (dgv_one _) ?_
        case htlnk248 => exact hg.there HSP.out
        have hrg := hg.put (D := (bv (chnT TN)).toArray) HSP.out
        have hgge := hg.ge
        replace hk := below_setCells hk g hgge (bv (chnT TN)).toArray.toList 0
        replace hh := hh.but (Ne.symm hgh) (bv (chnT TN)).toArray.toList
        clear hg
        generalize wk.setCells g 0 (bv (chnT TN)).toArray.toList = wk at hk hrg hh ⊢
        simp only [Act.put]
        refine hK.out _ _ hk (fun _ => ?_)
        clear hK K
        try simp only [Act.put, List.setIfInBounds_toArray, List.set_cons_zero, List.set_cons_succ]
        refine wpAnyH_ready (rs := [12]) (by decide +kernel) (by simp) ?_
        refine AllReadyH.cons (o := { dst := none, op := Op.store 30 (Operand.tmp 5) (Operand.tmp 18), type := 0, pos := "law.go:207", after := #[{ on := 10, ground := Ground.data }, { on := 8, ground := Ground.data }, { on := 11, ground := Ground.chain }, { on := 0, ground := Ground.phase }, { on := 1, ground := Ground.phase }, { on := 2, ground := Ground.phase }, { on := 3, ground := Ground.phase }, { on := 4, ground := Ground.phase }, { on := 5, ground := Ground.phase }, { on := 6, ground := Ground.phase }, { on := 7, ground := Ground.phase }, { on := 8, ground := Ground.phase }, { on := 9, ground := Ground.phase }, { on := 10, ground := Ground.phase }, { on := 11, ground := Ground.phase }], guard := none }) rfl (fun K hK => ?_) AllReadyH.nil
        rw [if_pos (by rfl)]
        refine wp_store_mid 30 (.tmp 5) (.tmp 18) rfl h 0 (bv (leafL t 256)).toArray rfl rfl ?htlnk249 HID.out (dgv_one _) ?_
        case htlnk249 => exact hh.there HSD.out
        have hrh := hh.put (D := (bv (leafL t 256)).toArray) HSD.out
        have hhge := hh.ge
        replace hk := below_setCells hk h hhge (bv (leafL t 256)).toArray.toList 0
        replace hrg := nv_but hrg hgh (bv (leafL t 256)).toArray.toList
        clear hh
        generalize wk.setCells h 0 (bv (leafL t 256)).toArray.toList = wk at hk hrg hrh ⊢
        simp only [Act.put]
        refine hK.out _ _ hk (fun _ => ?_)
        clear hK K
        try simp only [Act.put, List.setIfInBounds_toArray, List.set_cons_zero, List.set_cons_succ]
        refine wpAnyH_done (by decide +kernel) ?_ _
        go_wp2_with fail
        go_meet
        case rel => exact ⟨g, h, rfl, rfl, ⟨⟨hk, ⟨hrg, HPD.out⟩, ⟨hrh, HLD.out⟩⟩⟩⟩
  obtain ⟨g, h, rfl, rfl, HK⟩ := hcut
  clear hct hcell hw1 hw2 HBT HTN HF HFT HIP HID HSP HSD HL
  generalize chnT TN = p at HLK HPD HK
  generalize leafL t 256 = d at HLK HLD HK
  have hda := dig_all g
  have hdb := dig_all h
  have hbA : Below wc.heap.size wc (wc.alloc (.cells #[.int .u8 1] 5)) := (Below.refl _ _).alloc (Nat.le_refl _) _
  have HO0 : Bx ((wc.alloc (.cells #[.int .u8 1] 5)).ownsRow wc.heap.size 5 1 (.slice (some ⟨wc.heap.size, 0, none⟩) 1 1) 1 (bv [1])) := ⟨World.ownsRow_lit wc #[.int .u8 1] 1 (Nat.le_refl _) (by unfold maxLen; omega) rfl⟩
  have HBA := Bx.mk hbA
  have HP0 := Bx.mk (bts_cells (HK.out.v4.below hbA).row HPD.out.2 HPD.out.1 (by unfold maxLen; omega))
  clear hbA
  go_upto_region 4 with (at_builtin; refine wpList_append_bts rfl (.tmp 19) (.tmp 20) rfl wc.heap.size 1 _ [1] rfl HO0.out (some ⟨g, 0, none⟩) 32 32 p rfl HP0.out (by omega) HBA.out.size ?_; intro v2 w2 ho2 hb2 hg2)
  have HO2 := Bx.mk ho2
  have HB2 : Bx (Below wc.heap.size wc w2) := ⟨HBA.out.trans hb2⟩
  have HD2 := Bx.mk (bts_cells (HK.out.v5.below HB2.out).row HLD.out.2 HLD.out.1 (by unfold maxLen; omega))
  clear ho2 hb2 hg2 HO0 HBA HP0
  go_wp2_with (at_builtin; refine wpList_append_bts rfl (.tmp 22) (.tmp 23) rfl wc.heap.size 33 _ ([1] ++ p) rfl HO2.out (some ⟨h, 0, none⟩) 32 32 d rfl HD2.out (by omega) HB2.out.size ?_; intro v3 w3 ho3 hb3 hg3)
  have HO3 : Bx (w3.ownsRow w.heap.size 5 1 v3 65 (bv (linkL T))) := ⟨by rw [HLK.out]; exact owns_base ho3 HK.out.low.size⟩
  have HB3 : Bx (Below w.heap.size w w3) := ⟨HK.out.low.trans ((HB2.out.trans hb3).mono HK.out.low.size)⟩
  clear ho3 hb3 hg3 HO2 HB2 HD2
  go_wp2_with fail
  go_ret
  exact ⟨v3, rfl, HO3.out, HB3.out⟩
end Go.Proofs.YtbednfacipphhaaDoor
