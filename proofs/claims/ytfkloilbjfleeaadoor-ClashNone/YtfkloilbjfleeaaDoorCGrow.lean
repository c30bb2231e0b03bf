/- What clash's Growth answers. -/
import Derived.Test.YtfkloilbjfleeaaDoorCPath
import Derived.Test.YtfkloilbjfleeaaDoorGrowIn
import Derived.Test.YtfkloilbjfleeaaDoorGrowCheck
namespace Go.Proofs.YtfkloilbjfleeaaDoor
open Go.RowKit
set_option linter.unusedVariables false

set_option maxRecDepth 100000 in
theorem and_pow : ∀ m : Fin 1001, (bits BinOp.and IntKind.i64 ((m.val : Nat) : Int) (((m.val : Nat) : Int) - 1) == 0) = decide (m.val = 0 ∨ 2 ^ Nat.log2 m.val = m.val) := by decide +kernel
set_option maxRecDepth 100000 in
theorem whole_pow (n m : Nat) (h1 : 1 ≤ m) (hm : m < n) : decide (m = 0 ∨ 2 ^ Nat.log2 m = m) = gwh true (gstepsL n m) := by
  have h := gwh_pow n n m (Nat.le_refl _) h1 hm
  cases hg : gwh true (gstepsL n m) with
  | true =>
    obtain ⟨j, hj⟩ := h.1 hg
    exact decide_eq_true (.inr (by rw [hj, Nat.log2_two_pow]))
  | false =>
    refine decide_eq_false (fun h2 => ?_)
    rcases h2 with h2 | h2
    · omega
    · have := h.2 ⟨_, h2.symm⟩
      rw [hg] at this; cases this
set_option maxRecDepth 100000 in
theorem whole_any (m : Nat) (w : World) (hm : m ≤ 1000) :
    Calls Tryd.prog 46 #[.int .i64 m] w fun e w' => e = .returned (.bool (decide (m = 0 ∨ 2 ^ Nat.log2 m = m))) ∧ w = w' := by
  have h := and_pow ⟨m, by omega⟩
  have HB : Hid ((bits BinOp.and IntKind.i64 (m : Int) ((m : Int) - 1) == 0) = decide (m = 0 ∨ 2 ^ Nat.log2 m = m)) := h
  clear h
  go_enter Tryd.func46, Tryd.ntmps46
  go_wp2
  go_ret
  exact ⟨ret_bool HB.out, rfl⟩
/-- what stays: the answer's place, the old root, the first list's, the leaves -/
structure GS (R Vo Vf : Nat) (old fst : List Int) (la : Option Addr) (len lc : Nat) (L : List (List Int)) (w wr : World) : Prop where
  c0 : C0 R w wr
  vo : wr.heap[Vo]? = some (.cells (bv old).toArray 42 (0, 0))
  vf : wr.heap[Vf]? = some (.cells (bv fst).toArray 42 (0, 0))
  lv : Dgs wr la len lc L
set_option maxRecDepth 100000 in
theorem GS.step {R Vo Vf : Nat} {old fst : List Int} {la : Option Addr} {len lc : Nat} {L : List (List Int)} {w wr w1 : World} (h : GS R Vo Vf old fst la len lc L w wr) (hb : Below wr.heap.size wr w1) : GS R Vo Vf old fst la len lc L w w1 := ⟨h.c0.step hb, row_step h.vo hb, row_step h.vf hb, h.lv.below hb⟩
set_option maxRecDepth 100000 in
theorem GS.drewN {R Vo Vf : Nat} {old fst : List Int} {la : Option Addr} {len lc : Nat} {L : List (List Int)} {w wr : World} (h : GS R Vo Vf old fst la len lc L w wr) (n : Nat) : GS R Vo Vf old fst la len lc L w (wr.drewN n) := ⟨h.c0.drewN n, h.vo, h.vf, h.lv.drewN n⟩
set_option maxRecDepth 100000 in
/-- the old root and the answer's place, new -/
theorem gs_new (w : World) (old : List Int) : C0 (w.heap.size + 1) w ((w.alloc (.cells (bv old).toArray 42)).alloc (.cells #[.slice none 0 0, .slice none 0 0] 25)) ∧ ((w.alloc (.cells (bv old).toArray 42)).alloc (.cells #[.slice none 0 0, .slice none 0 0] 25)).heap[w.heap.size]? = some (.cells (bv old).toArray 42 (0, 0)) := by
  refine ⟨⟨((Below.refl _ _).alloc (Nat.le_refl _) _).alloc (by simp) _, Nat.le_succ _, by simp, #[.slice none 0 0, .slice none 0 0], rfl, ?_⟩, by rw [heap_alloc_old _ _ (by simp), heap_alloc_new]⟩
  rw [show w.heap.size + 1 = (w.alloc (.cells (bv old).toArray 42)).heap.size from by simp, heap_alloc_new]

set_option maxRecDepth 100000 in
set_option maxHeartbeats 2000000 in
theorem cgrow_any (a : Option Addr) (len cap : Nat) (T : List (List Int)) (mi : Int) (old : List Int) (ap : Option Addr) (lp cp : Nat) (P : List (List Int)) (x : Int) (w : World) (hT : Txs w a len cap T) (hf : ∀ t ∈ T, t.length ≤ 100000) (hl : len ≤ 1000)
    (hod : Dg old) (hP : Dgs w ap lp cp P) (hlp : lp ≤ 100000) (htab : Tab w) :
    Calls Tryd.prog 21 #[.slice a len cap, .int .i64 mi, .agg (bv old).toArray, .slice ap lp cp, .int .i64 x] w fun e w' => CAns (mustG T mi old P x) x e w' ∧ Below w.heap.size w w' := by
  obtain ⟨hC, hvo⟩ := gs_new w old
  have hTL := hT.len_eq
  have hcc := hT.le_cap
  have hcm := hT.cap_le
  unfold maxLen at hcm
  by_cases hin : 1 ≤ mi ∧ mi ≤ (len : Int)
  · obtain ⟨m, rfl⟩ : ∃ m : Nat, mi = (m : Int) := ⟨mi.toNat, by omega⟩
    have hm1 : 1 ≤ m := by omega
    have hml : m ≤ len := by omega
    have g1 : decide ((m : Int) < 1) = false := by simp; omega
    have g2 : decide ((m : Int) > (len : Int)) = false := by simp; omega
    have g2' : decide (len < m) = false := by simp; omega
    have HLV : Bx (∀ W, Below w.heap.size w W → Calls Tryd.prog 34 #[.slice a len cap, .int .i64 x] W fun e w' => ∃ a' c', e = .returned (.slice a' len c') ∧ Dgs w' a' len c' (leavesL T x) ∧ (∀ p, a' = some p → W.heap.size ≤ p.block) ∧ Below W.heap.size W w') := ⟨fun W hW => leaves_any _ len cap T x W (hT.below hW) (fun t ht => Nat.le_trans (hf t ht) (by decide)) (htab.below hW) hl⟩
    have HMU : Bx (mustG T (m : Int) old P x = (decide (old ≠ rootL ((leavesL T x).take m) x) && chkG old (m : Int) (rootL (leavesL T x) x) (len : Int) P x)) := ⟨by
      unfold mustG
      rw [hTL, decide_eq_true ⟨by omega, by omega⟩, Bool.true_and, show ((m : Int)).toNat = m from by omega]⟩
    have HGM : Bx (old ≠ rootL ((leavesL T x).take m) x → chkG old (m : Int) (rootL (leavesL T x) x) (len : Int) P x = true →
        m < len ∧ lp = need true (gstepsL len m) ∧ (growL (leavesL T x) m true x).length = lp ∧
        (gwh true (gstepsL len m) = true → ∃ A B, climbL x (gstepsL len m).reverse (growL (leavesL T x) m true x) P (rootL ((leavesL T x).take m) x) old = some (A, B)) ∧
        (gwh true (gstepsL len m) = false → ∃ A B, climbL x (gstepsL len m).reverse ((growL (leavesL T x) m true x).drop 1) (P.drop 1) ((growL (leavesL T x) m true x).getD 0 []) (P.getD 0 []) = some (A, B))) := ⟨fun h1 h2 => by
      obtain ⟨m1, m2, m3, m4, m5⟩ := grow_must T m old P x hm1 (by omega) hP.dig hod h1 (by rw [hTL]; exact h2)
      rw [hTL] at m1 m2 m3 m4 m5
      rw [hP.len_eq] at m2
      exact ⟨m1, m2, by rw [m3, m2], m4, m5⟩⟩
    have hLd := leavesL_dg T x
    have hRd := rootL_dg (leavesL T x) x hLd
    have hFd := rootL_dg ((leavesL T x).take m) x (hLd.take m)
    have HLN : Bx ((leavesL T x).length = len) := ⟨by rw [leavesL_len, hTL]⟩
    generalize leavesL T x = L at HLV HMU HGM hLd hRd hFd HLN
    have HC0 : Bx _ := ⟨hC⟩
    have HVO : Bx _ := ⟨hvo⟩
    clear hT hf hTL hC hvo
    go_enter Tryd.func21, Tryd.ntmps21
    go_wp2_with fail
    have hC := HC0.out
    have hvo := HVO.out
    clear HC0 HVO
    generalize (w.alloc (.cells (bv old).toArray 42)).alloc (.cells #[.slice none 0 0, .slice none 0 0] 25) = w0 at hC hvo ⊢
    refine (HLV.out _ hC.low).mono ?_
    rintro e w1 ⟨la, lc, rfl, hlv1, _, hb1⟩
    have hC1 := hC.step hb1
    have hvo1 := row_step hvo hb1
    clear hC hvo hb1 HLV
    obtain ⟨lb, lo, rfl, _, _⟩ := hlv1.spot (by omega)
    have hlcc := hlv1.le_cap
    have hcut := dgs_cut lb lo len lc m (by omega)
    go_wp2_with fail
    refine (root_any m _ m lc (L.take m) x _ (Nat.le_refl _) (hlv1.take m hml) (htab.below hC1.low) (by omega)).mono ?_
    rintro e w2 ⟨rfl, hb2⟩
    have hC2 := hC1.step hb2
    have hvo2 := row_step hvo1 hb2
    have hlv2 := hlv1.below hb2
    clear hC1 hvo1 hlv1 hb2 hcut
    generalize rootL (L.take m) x = fst at HMU HGM hFd ⊢
    obtain ⟨DS, hDS⟩ : ∃ DS, DS = (bv fst).toArray := ⟨_, rfl⟩
    obtain ⟨hdv, hth, hinf, hone⟩ := dig_var w2 fst hFd.1 DS hDS
    have HTHR : Bx _ := ⟨hth⟩
    have HDV : Bx _ := ⟨hdv⟩
    have HINF : Bx _ := ⟨hinf⟩
    have HONE : Bx _ := ⟨hone⟩
    rw [← hDS]
    clear hdv hth hinf hone hDS
    go_wp2_with (refine wpList_store_mid rfl 42 (.tmp 13) (.tmp 32) rfl w2.heap.size 0 DS rfl rfl ?ht HINF.out HONE.out ?_; (case ht => exact HTHR.out); have hdv := HDV.out; generalize (w2.alloc (.cells #[.int .u8 0, .int .u8 0, .int .u8 0, .int .u8 0, .int .u8 0, .int .u8 0, .int .u8 0, .int .u8 0, .int .u8 0, .int .u8 0, .int .u8 0, .int .u8 0, .int .u8 0, .int .u8 0, .int .u8 0, .int .u8 0, .int .u8 0, .int .u8 0, .int .u8 0, .int .u8 0, .int .u8 0, .int .u8 0, .int .u8 0, .int .u8 0, .int .u8 0, .int .u8 0, .int .u8 0, .int .u8 0, .int .u8 0, .int .u8 0, .int .u8 0, .int .u8 0] 42)).setCells w2.heap.size 0 DS.toList = w3 at hdv ⊢; clear HDV HTHR)
    have hGS : GS (w.heap.size + 1) w.heap.size w2.heap.size old fst (some ⟨lb, lo, none⟩) len lc L w w3 := ⟨hC2.step hdv.low, row_step hvo2 hdv.low, hdv.row, hlv2.below hdv.low⟩
    clear hdv hlv2 hC2 hvo2 HINF HONE
    generalize w2.heap.size = Vf at hGS ⊢
    obtain ⟨R, hR⟩ : ∃ R, R = w.heap.size + 1 := ⟨_, rfl⟩
    obtain ⟨Vo, hVo⟩ : ∃ Vo, Vo = w.heap.size := ⟨_, rfl⟩
    rw [← hR] at hGS ⊢
    rw [← hVo] at hGS ⊢
    clear hR hVo
    obtain ⟨la, hla⟩ : ∃ la, la = some (⟨lb, lo, none⟩ : Addr) := ⟨_, rfl⟩
    rw [← hla] at hGS ⊢
    clear hla
    have hdO : (Tryd.prog.info? 42).map (·.size) = some (bv old).length := by rw [bv_length, hod.1]; exact dig_info
    have hdF : (Tryd.prog.info? 42).map (·.size) = some (bv fst).length := by rw [bv_length, hFd.1]; exact dig_info
    have hcmp := dig_cmp old fst hod.1 hFd.1
    by_cases heq : old = fst
    · have HNO : Bx (mustG T (m : Int) old P x = false) := ⟨by rw [HMU.out, decide_eq_false (fun h => h heq)]; rfl⟩
      rw [decide_eq_true heq] at hcmp
      clear HMU HGM heq
      go_wp2_with fail
      have hk : GS R Vo Vf old fst la len lc L w w3.drew := hGS.drewN 1
      clear hGS
      refine wp_region_held_drew (S := fun W => GS R Vo Vf old fst la len lc L w W) (by kernel_rfl) hk (fun _ => ?_)
      generalize w3.drew = wk at hk ⊢
      refine wpAnyH_take (i := 0) (oi := { dst := some 33, op := Op.load 42 (Operand.tmp 7), type := 42, pos := "clash.go:47", after := #[], guard := none }) (v := .agg (bv old).toArray) rfl (by kernel_rfl) (by kernel_rfl) (by kernel_rfl) (fun _ _ _ h => h) (yieldsIf_load_mid (by rfl) 42 (.tmp 7) rfl Vo 0 rfl (bv old) _ (fun W h => range_row h.vo) Tryd.underlying42 rfl hdO) hk ?_
      simp only [Act.put, List.setIfInBounds_toArray, List.set_cons_zero, List.set_cons_succ]
      refine wpAnyH_take (i := 1) (oi := { dst := some 34, op := Op.load 42 (Operand.tmp 13), type := 42, pos := "clash.go:47", after := #[], guard := none }) (v := .agg (bv fst).toArray) rfl (by kernel_rfl) (by kernel_rfl) (by kernel_rfl) (fun _ _ _ h => h) (yieldsIf_load_mid (by rfl) 42 (.tmp 13) rfl Vf 0 rfl (bv fst) _ (fun W h => range_row h.vf) Tryd.underlying42 rfl hdF) hk ?_
      simp only [Act.put, List.setIfInBounds_toArray, List.set_cons_zero, List.set_cons_succ]
      refine wpAnyH_take (i := 2) (oi := { dst := some 35, op := Op.binOp BinOp.eql 42 (Operand.tmp 33) (Operand.tmp 34) 42, type := 4, pos := "clash.go:47", after := #[{ on := 0, ground := Ground.data }, { on := 1, ground := Ground.data }], guard := none }) (v := ?vcg5a1) rfl (by kernel_rfl) (by kernel_rfl) (by kernel_rfl) (fun _ _ _ h => h) (Or.inl ⟨by rfl, ?ycg5a1⟩) hk ?rcg5a1
      case ycg5a1 => (intro w hSw; (try dsimp only at hSw); go_simp; first | done | with_reducible rfl)
      simp only [Act.put, List.setIfInBounds_toArray, List.set_cons_zero, List.set_cons_succ]
      refine wpAnyH_take (i := 3) (oi := { dst := some 36, op := Op.move (Operand.tmp 35), type := 4, pos := "clash.go:47", after := #[{ on := 2, ground := Ground.data }], guard := none }) (v := ?vcg5a2) rfl (by kernel_rfl) (by kernel_rfl) (by kernel_rfl) (fun _ _ _ h => h) (Or.inl ⟨by rfl, ?ycg5a2⟩) hk ?rcg5a2
      case ycg5a2 => (intro w hSw; (try dsimp only at hSw); go_simp; first | done | with_reducible rfl)
      simp only [Act.put, List.setIfInBounds_toArray, List.set_cons_zero, List.set_cons_succ]
      refine wpAnyH_take (i := 4) (oi := { dst := some 37, op := Op.load 42 (Operand.tmp 7), type := 42, pos := "clash.go:47", after := #[{ on := 3, ground := Ground.guard }], guard := some (3, false) }) (v := undef) rfl (by kernel_rfl) (by kernel_rfl) (by kernel_rfl) (fun _ _ _ h => h) (Or.inr ⟨by rfl, rfl⟩) hk ?_
      simp only [Act.put, List.setIfInBounds_toArray, List.set_cons_zero, List.set_cons_succ]
      refine wpAnyH_take (i := 5) (oi := { dst := some 38, op := Op.move (Operand.tmp 1), type := 3, pos := "clash.go:47", after := #[{ on := 3, ground := Ground.guard }], guard := some (3, false) }) (v := undef) rfl (by kernel_rfl) (by kernel_rfl) (by kernel_rfl) (fun _ _ _ h => h) (Or.inr ⟨by rfl, rfl⟩) hk ?_
      simp only [Act.put, List.setIfInBounds_toArray, List.set_cons_zero, List.set_cons_succ]
      refine wpAnyH_take (i := 6) (oi := { dst := some 39, op := Op.move (Operand.tmp 12), type := 30, pos := "clash.go:47", after := #[{ on := 3, ground := Ground.guard }], guard := some (3, false) }) (v := undef) rfl (by kernel_rfl) (by kernel_rfl) (by kernel_rfl) (fun _ _ _ h => h) (Or.inr ⟨by rfl, rfl⟩) hk ?_
      simp only [Act.put, List.setIfInBounds_toArray, List.set_cons_zero, List.set_cons_succ]
      refine wpAnyH_take (i := 7) (oi := { dst := some 40, op := Op.move (Operand.tmp 4), type := 3, pos := "clash.go:47", after := #[{ on := 3, ground := Ground.guard }], guard := some (3, false) }) (v := undef) rfl (by kernel_rfl) (by kernel_rfl) (by kernel_rfl) (fun _ _ _ h => h) (Or.inr ⟨by rfl, rfl⟩) hk ?_
      simp only [Act.put, List.setIfInBounds_toArray, List.set_cons_zero, List.set_cons_succ]
      refine wpAnyH_take (i := 8) (oi := { dst := some 41, op := Op.call { callee := Callee.value (Operand.func 37), args := #[Operand.tmp 39, Operand.tmp 40], argTypes := #[30, 3] }, type := 42, pos := "clash.go:47", after := #[{ on := 6, ground := Ground.data }, { on := 7, ground := Ground.data }, { on := 3, ground := Ground.chain }, { on := 3, ground := Ground.guard }], guard := some (3, false) }) (v := undef) rfl (by kernel_rfl) (by kernel_rfl) (by kernel_rfl) (fun _ _ _ h => h) (Or.inr ⟨by rfl, rfl⟩) hk ?_
      simp only [Act.put, List.setIfInBounds_toArray, List.set_cons_zero, List.set_cons_succ]
      refine wpAnyH_take (i := 9) (oi := { dst := some 42, op := Op.move (Operand.tmp 12), type := 30, pos := "clash.go:47", after := #[{ on := 3, ground := Ground.guard }], guard := some (3, false) }) (v := undef) rfl (by kernel_rfl) (by kernel_rfl) (by kernel_rfl) (fun _ _ _ h => h) (Or.inr ⟨by rfl, rfl⟩) hk ?_
      simp only [Act.put, List.setIfInBounds_toArray, List.set_cons_zero, List.set_cons_succ]
      refine wpAnyH_take (i := 10) (oi := { dst := some 43, op := Op.call { callee := Callee.builtin Builtin.len, args := #[Operand.tmp 42], argTypes := #[30] }, type := 3, pos := "clash.go:47", after := #[{ on := 9, ground := Ground.data }, { on := 3, ground := Ground.guard }], guard := some (3, false) }) (v := undef) rfl (by kernel_rfl) (by kernel_rfl) (by kernel_rfl) (fun _ _ _ h => h) (Or.inr ⟨by rfl, rfl⟩) hk ?_
      simp only [Act.put, List.setIfInBounds_toArray, List.set_cons_zero, List.set_cons_succ]
      refine wpAnyH_take (i := 11) (oi := { dst := some 44, op := Op.move (Operand.tmp 3), type := 30, pos := "clash.go:47", after := #[{ on := 3, ground := Ground.guard }], guard := some (3, false) }) (v := undef) rfl (by kernel_rfl) (by kernel_rfl) (by kernel_rfl) (fun _ _ _ h => h) (Or.inr ⟨by rfl, rfl⟩) hk ?_
      simp only [Act.put, List.setIfInBounds_toArray, List.set_cons_zero, List.set_cons_succ]
      refine wpAnyH_take (i := 12) (oi := { dst := some 45, op := Op.move (Operand.tmp 4), type := 3, pos := "clash.go:47", after := #[{ on := 3, ground := Ground.guard }], guard := some (3, false) }) (v := undef) rfl (by kernel_rfl) (by kernel_rfl) (by kernel_rfl) (fun _ _ _ h => h) (Or.inr ⟨by rfl, rfl⟩) hk ?_
      simp only [Act.put, List.setIfInBounds_toArray, List.set_cons_zero, List.set_cons_succ]
      refine wpAnyH_take (i := 13) (oi := { dst := some 46, op := Op.call { callee := Callee.value (Operand.func 44), args := #[Operand.tmp 37, Operand.tmp 38, Operand.tmp 41, Operand.tmp 43, Operand.tmp 44, Operand.tmp 45], argTypes := #[42, 3, 42, 3, 30, 3] }, type := 4, pos := "clash.go:47", after := #[{ on := 4, ground := Ground.data }, { on := 5, ground := Ground.data }, { on := 8, ground := Ground.data }, { on := 10, ground := Ground.data }, { on := 11, ground := Ground.data }, { on := 12, ground := Ground.data }, { on := 8, ground := Ground.chain }, { on := 3, ground := Ground.guard }], guard := some (3, false) }) (v := undef) rfl (by kernel_rfl) (by kernel_rfl) (by kernel_rfl) (fun _ _ _ h => h) (Or.inr ⟨by rfl, rfl⟩) hk ?_
      simp only [Act.put, List.setIfInBounds_toArray, List.set_cons_zero, List.set_cons_succ]
      refine wpAnyH_take (i := 14) (oi := { dst := some 47, op := Op.unOp UnOp.not 4 (Operand.tmp 46), type := 4, pos := "clash.go:47", after := #[{ on := 13, ground := Ground.data }, { on := 3, ground := Ground.guard }], guard := some (3, false) }) (v := undef) rfl (by kernel_rfl) (by kernel_rfl) (by kernel_rfl) (fun _ _ _ h => h) (Or.inr ⟨by rfl, rfl⟩) hk ?_
      simp only [Act.put, List.setIfInBounds_toArray, List.set_cons_zero, List.set_cons_succ]
      refine wpAnyH_take (i := 15) (oi := { dst := some 48, op := Op.pick (Operand.tmp 36) (Operand.const (Value.bool true)) (Operand.tmp 47), type := 4, pos := "clash.go:47", after := #[{ on := 3, ground := Ground.data }, { on := 14, ground := Ground.data }], guard := none }) (v := ?vcg5a3) rfl (by kernel_rfl) (by kernel_rfl) (by kernel_rfl) (fun _ _ _ h => h) (Or.inl ⟨by rfl, ?ycg5a3⟩) hk ?rcg5a3
      case ycg5a3 => (intro w hSw; (try dsimp only at hSw); go_simp; first | done | with_reducible rfl)
      simp only [Act.put, List.setIfInBounds_toArray, List.set_cons_zero, List.set_cons_succ]
      refine wpAnyH_done (by decide +kernel) ?_ _
      have hC := hk.c0
      have hbd := cls_build
      clear hk hcmp hdO hdF
      obtain ⟨HTH, HST, HBS⟩ := c0_end hC #[.slice none 0 0, .slice none 0 0] rfl
      clear hC
      go_wp2_with (refine wpList_store_mid rfl 25 (.tmp 10) (.tmp 49) rfl R 0 #[.slice none 0 0, .slice none 0 0] rfl rfl ?ht cls_info (cls_one ..) ?_; (case ht => exact HTH.out))
      exact bodyPost_ret (v := .tuple #[.agg #[.slice none 0 0, .slice none 0 0], .bool false]) (results_ct25 rfl _ _ R #[.slice none 0 0, .slice none 0 0] _ rfl rfl HST.out cls_info) rfl ⟨cans_no HNO.out, HBS.out⟩
    · rw [decide_eq_false heq] at hcmp
      have HRT : Bx (∀ W, GS R Vo Vf old fst la len lc L w W → Calls Tryd.prog 37 #[.slice la len lc, .int .i64 x] W fun e w' => e = .returned (.agg (bv (rootL L x)).toArray) ∧ Below W.heap.size W w') := ⟨fun W h => root_any len la len lc L x W (Nat.le_refl _) h.lv (htab.below h.c0.low) (by omega)⟩
      have HCK : Bx (∀ W, GS R Vo Vf old fst la len lc L w W → Calls Tryd.prog 44 #[.agg (bv old).toArray, .int .i64 m, .agg (bv (rootL L x)).toArray, .int .i64 len, .slice ap lp cp, .int .i64 x] W fun e w' => e = .returned (.bool (chkG old (m : Int) (rootL L x) (len : Int) P x)) ∧ Below W.heap.size W w') := ⟨fun W h => checkgrowth_any old m (rootL L x) len ap lp cp P x W hod hRd (by omega) (hP.below h.c0.low) (htab.below h.c0.low)⟩
      have HMU2 : Bx (mustG T (m : Int) old P x = chkG old (m : Int) (rootL L x) (len : Int) P x) := ⟨by rw [HMU.out, decide_eq_true heq, Bool.true_and]⟩
      have HGM2 : Bx _ := ⟨HGM.out heq⟩
      clear HMU HGM
      generalize rootL L x = RT at HRT HCK HMU2 HGM2 hRd
      obtain ⟨cb, hcb⟩ : ∃ cb, cb = chkG old (m : Int) RT (len : Int) P x := ⟨_, rfl⟩
      rw [← hcb] at HCK HMU2 HGM2
      clear hcb heq
      go_wp2_with fail
      have hk : GS R Vo Vf old fst la len lc L w w3.drew := hGS.drewN 1
      clear hGS
      refine wp_region_held_drew (S := fun W => GS R Vo Vf old fst la len lc L w W) (by kernel_rfl) hk (fun _ => ?_)
      generalize w3.drew = wk at hk ⊢
      refine wpAnyH_take (i := 0) (oi := { dst := some 33, op := Op.load 42 (Operand.tmp 7), type := 42, pos := "clash.go:47", after := #[], guard := none }) (v := .agg (bv old).toArray) rfl (by kernel_rfl) (by kernel_rfl) (by kernel_rfl) (fun _ _ _ h => h) (yieldsIf_load_mid (by rfl) 42 (.tmp 7) rfl Vo 0 rfl (bv old) _ (fun W h => range_row h.vo) Tryd.underlying42 rfl hdO) hk ?_
      simp only [Act.put, List.setIfInBounds_toArray, List.set_cons_zero, List.set_cons_succ]
      refine wpAnyH_take (i := 1) (oi := { dst := some 34, op := Op.load 42 (Operand.tmp 13), type := 42, pos := "clash.go:47", after := #[], guard := none }) (v := .agg (bv fst).toArray) rfl (by kernel_rfl) (by kernel_rfl) (by kernel_rfl) (fun _ _ _ h => h) (yieldsIf_load_mid (by rfl) 42 (.tmp 13) rfl Vf 0 rfl (bv fst) _ (fun W h => range_row h.vf) Tryd.underlying42 rfl hdF) hk ?_
      simp only [Act.put, List.setIfInBounds_toArray, List.set_cons_zero, List.set_cons_succ]
      refine wpAnyH_take (i := 2) (oi := { dst := some 35, op := Op.binOp BinOp.eql 42 (Operand.tmp 33) (Operand.tmp 34) 42, type := 4, pos := "clash.go:47", after := #[{ on := 0, ground := Ground.data }, { on := 1, ground := Ground.data }], guard := none }) (v := ?vcg5b1) rfl (by kernel_rfl) (by kernel_rfl) (by kernel_rfl) (fun _ _ _ h => h) (Or.inl ⟨by rfl, ?ycg5b1⟩) hk ?rcg5b1
      case ycg5b1 => (intro w hSw; (try dsimp only at hSw); go_simp; first | done | with_reducible rfl)
      simp only [Act.put, List.setIfInBounds_toArray, List.set_cons_zero, List.set_cons_succ]
      refine wpAnyH_take (i := 3) (oi := { dst := some 36, op := Op.move (Operand.tmp 35), type := 4, pos := "clash.go:47", after := #[{ on := 2, ground := Ground.data }], guard := none }) (v := ?vcg5b2) rfl (by kernel_rfl) (by kernel_rfl) (by kernel_rfl) (fun _ _ _ h => h) (Or.inl ⟨by rfl, ?ycg5b2⟩) hk ?rcg5b2
      case ycg5b2 => (intro w hSw; (try dsimp only at hSw); go_simp; first | done | with_reducible rfl)
      simp only [Act.put, List.setIfInBounds_toArray, List.set_cons_zero, List.set_cons_succ]
      refine wpAnyH_take (i := 4) (oi := { dst := some 37, op := Op.load 42 (Operand.tmp 7), type := 42, pos := "clash.go:47", after := #[{ on := 3, ground := Ground.guard }], guard := some (3, false) }) (v := .agg (bv old).toArray) rfl (by kernel_rfl) (by kernel_rfl) (by kernel_rfl) (fun _ _ _ h => h) (yieldsIf_load_mid (by rfl) 42 (.tmp 7) rfl Vo 0 rfl (bv old) _ (fun W h => range_row h.vo) Tryd.underlying42 rfl hdO) hk ?_
      simp only [Act.put, List.setIfInBounds_toArray, List.set_cons_zero, List.set_cons_succ]
      refine wpAnyH_take (i := 5) (oi := { dst := some 38, op := Op.move (Operand.tmp 1), type := 3, pos := "clash.go:47", after := #[{ on := 3, ground := Ground.guard }], guard := some (3, false) }) (v := ?vcg5b3) rfl (by kernel_rfl) (by kernel_rfl) (by kernel_rfl) (fun _ _ _ h => h) (Or.inl ⟨by rfl, ?ycg5b3⟩) hk ?rcg5b3
      case ycg5b3 => (intro w hSw; (try dsimp only at hSw); go_simp; first | done | with_reducible rfl)
      simp only [Act.put, List.setIfInBounds_toArray, List.set_cons_zero, List.set_cons_succ]
      refine wpAnyH_take (i := 6) (oi := { dst := some 39, op := Op.move (Operand.tmp 12), type := 30, pos := "clash.go:47", after := #[{ on := 3, ground := Ground.guard }], guard := some (3, false) }) (v := ?vcg5b4) rfl (by kernel_rfl) (by kernel_rfl) (by kernel_rfl) (fun _ _ _ h => h) (Or.inl ⟨by rfl, ?ycg5b4⟩) hk ?rcg5b4
      case ycg5b4 => (intro w hSw; (try dsimp only at hSw); go_simp; first | done | with_reducible rfl)
      simp only [Act.put, List.setIfInBounds_toArray, List.set_cons_zero, List.set_cons_succ]
      refine wpAnyH_take (i := 7) (oi := { dst := some 40, op := Op.move (Operand.tmp 4), type := 3, pos := "clash.go:47", after := #[{ on := 3, ground := Ground.guard }], guard := some (3, false) }) (v := ?vcg5b5) rfl (by kernel_rfl) (by kernel_rfl) (by kernel_rfl) (fun _ _ _ h => h) (Or.inl ⟨by rfl, ?ycg5b5⟩) hk ?rcg5b5
      case ycg5b5 => (intro w hSw; (try dsimp only at hSw); go_simp; first | done | with_reducible rfl)
      simp only [Act.put, List.setIfInBounds_toArray, List.set_cons_zero, List.set_cons_succ]
      refine wpAnyH_take (i := 9) (oi := { dst := some 42, op := Op.move (Operand.tmp 12), type := 30, pos := "clash.go:47", after := #[{ on := 3, ground := Ground.guard }], guard := some (3, false) }) (v := ?vcg5b6) rfl (by kernel_rfl) (by kernel_rfl) (by kernel_rfl) (fun _ _ _ h => h) (Or.inl ⟨by rfl, ?ycg5b6⟩) hk ?rcg5b6
      case ycg5b6 => (intro w hSw; (try dsimp only at hSw); go_simp; first | done | with_reducible rfl)
      simp only [Act.put, List.setIfInBounds_toArray, List.set_cons_zero, List.set_cons_succ]
      refine wpAnyH_take (i := 10) (oi := { dst := some 43, op := Op.call { callee := Callee.builtin Builtin.len, args := #[Operand.tmp 42], argTypes := #[30] }, type := 3, pos := "clash.go:47", after := #[{ on := 9, ground := Ground.data }, { on := 3, ground := Ground.guard }], guard := some (3, false) }) (v := ?vcg5b7) rfl (by kernel_rfl) (by kernel_rfl) (by kernel_rfl) (fun _ _ _ h => h) (Or.inl ⟨by rfl, ?ycg5b7⟩) hk ?rcg5b7
      case ycg5b7 => (intro w hSw; (try dsimp only at hSw); go_simp; first | done | with_reducible rfl)
      simp only [Act.put, List.setIfInBounds_toArray, List.set_cons_zero, List.set_cons_succ]
      refine wpAnyH_take (i := 11) (oi := { dst := some 44, op := Op.move (Operand.tmp 3), type := 30, pos := "clash.go:47", after := #[{ on := 3, ground := Ground.guard }], guard := some (3, false) }) (v := ?vcg5b8) rfl (by kernel_rfl) (by kernel_rfl) (by kernel_rfl) (fun _ _ _ h => h) (Or.inl ⟨by rfl, ?ycg5b8⟩) hk ?rcg5b8
      case ycg5b8 => (intro w hSw; (try dsimp only at hSw); go_simp; first | done | with_reducible rfl)
      simp only [Act.put, List.setIfInBounds_toArray, List.set_cons_zero, List.set_cons_succ]
      refine wpAnyH_take (i := 12) (oi := { dst := some 45, op := Op.move (Operand.tmp 4), type := 3, pos := "clash.go:47", after := #[{ on := 3, ground := Ground.guard }], guard := some (3, false) }) (v := ?vcg5b9) rfl (by kernel_rfl) (by kernel_rfl) (by kernel_rfl) (fun _ _ _ h => h) (Or.inl ⟨by rfl, ?ycg5b9⟩) hk ?rcg5b9
      case ycg5b9 => (intro w hSw; (try dsimp only at hSw); go_simp; first | done | with_reducible rfl)
      simp only [Act.put, List.setIfInBounds_toArray, List.set_cons_zero, List.set_cons_succ]
      refine wpAnyH_ready (rs := [8]) (by decide +kernel) (by simp) ?_
      refine AllReadyH.cons (o := { dst := some 41, op := Op.call { callee := Callee.value (Operand.func 37), args := #[Operand.tmp 39, Operand.tmp 40], argTypes := #[30, 3] }, type := 42, pos := "clash.go:47", after := #[{ on := 6, ground := Ground.data }, { on := 7, ground := Ground.data }, { on := 3, ground := Ground.chain }, { on := 3, ground := Ground.guard }], guard := some (3, false) }) rfl (fun K hK => ?_) AllReadyH.nil
      go_simp
      refine (HRT.out _ hk).mono ?_
      rintro e1 wk ⟨rfl, hb1⟩
      replace hk := hk.step hb1
      clear hb1
      refine hK.out _ _ hk (fun _ => ?_)
      clear hK K
      try simp only [Act.put, List.setIfInBounds_toArray, List.set_cons_zero, List.set_cons_succ]
      refine wpAnyH_ready (rs := [13]) (by decide +kernel) (by simp) ?_
      refine AllReadyH.cons (o := { dst := some 46, op := Op.call { callee := Callee.value (Operand.func 44), args := #[Operand.tmp 37, Operand.tmp 38, Operand.tmp 41, Operand.tmp 43, Operand.tmp 44, Operand.tmp 45], argTypes := #[42, 3, 42, 3, 30, 3] }, type := 4, pos := "clash.go:47", after := #[{ on := 4, ground := Ground.data }, { on := 5, ground := Ground.data }, { on := 8, ground := Ground.data }, { on := 10, ground := Ground.data }, { on := 11, ground := Ground.data }, { on := 12, ground := Ground.data }, { on := 8, ground := Ground.chain }, { on := 3, ground := Ground.guard }], guard := some (3, false) }) rfl (fun K hK => ?_) AllReadyH.nil
      go_simp
      refine (HCK.out _ hk).mono ?_
      rintro e1 wk ⟨rfl, hb1⟩
      replace hk := hk.step hb1
      clear hb1
      refine hK.out _ _ hk (fun _ => ?_)
      clear hK K
      try simp only [Act.put, List.setIfInBounds_toArray, List.set_cons_zero, List.set_cons_succ]
      refine wpAnyH_take (i := 14) (oi := { dst := some 47, op := Op.unOp UnOp.not 4 (Operand.tmp 46), type := 4, pos := "clash.go:47", after := #[{ on := 13, ground := Ground.data }, { on := 3, ground := Ground.guard }], guard := some (3, false) }) (v := ?vcg5b10) rfl (by kernel_rfl) (by kernel_rfl) (by kernel_rfl) (fun _ _ _ h => h) (Or.inl ⟨by rfl, ?ycg5b10⟩) hk ?rcg5b10
      case ycg5b10 => (intro w hSw; (try dsimp only at hSw); go_simp; first | done | with_reducible rfl)
      simp only [Act.put, List.setIfInBounds_toArray, List.set_cons_zero, List.set_cons_succ]
      refine wpAnyH_take (i := 15) (oi := { dst := some 48, op := Op.pick (Operand.tmp 36) (Operand.const (Value.bool true)) (Operand.tmp 47), type := 4, pos := "clash.go:47", after := #[{ on := 3, ground := Ground.data }, { on := 14, ground := Ground.data }], guard := none }) (v := ?vcg5b11) rfl (by kernel_rfl) (by kernel_rfl) (by kernel_rfl) (fun _ _ _ h => h) (Or.inl ⟨by rfl, ?ycg5b11⟩) hk ?rcg5b11
      case ycg5b11 => (intro w hSw; (try dsimp only at hSw); go_simp; first | done | with_reducible rfl)
      simp only [Act.put, List.setIfInBounds_toArray, List.set_cons_zero, List.set_cons_succ]
      refine wpAnyH_done (by decide +kernel) ?_ _
      clear HRT HCK hcmp
      cases cb with
      | false =>
        have HNO : Bx (mustG T (m : Int) old P x = false) := HMU2
        have hC := hk.c0
        have hbd := cls_build
        clear hk hdO hdF HMU2 HGM2
        obtain ⟨HTH, HST, HBS⟩ := c0_end hC #[.slice none 0 0, .slice none 0 0] rfl
        clear hC
        go_wp2_with (refine wpList_store_mid rfl 25 (.tmp 10) (.tmp 49) rfl R 0 #[.slice none 0 0, .slice none 0 0] rfl rfl ?ht cls_info (cls_one ..) ?_; (case ht => exact HTH.out))
        exact bodyPost_ret (v := .tuple #[.agg #[.slice none 0 0, .slice none 0 0], .bool false]) (results_ct25 rfl _ _ R #[.slice none 0 0, .slice none 0 0] _ rfl rfl HST.out cls_info) rfl ⟨cans_no HNO.out, HBS.out⟩
      | true =>
        have HYES : Bx (mustG T (m : Int) old P x = true) := HMU2
        obtain ⟨hmlt, hln, hol, hc1, hc2⟩ := HGM2.out (by first | rfl | trivial)
        have HLN2 : Bx (lp = need true (gstepsL len m)) := ⟨hln⟩
        have hpre := gsteps_pre len len m (Nat.le_refl _) hm1 hml
        have HPRE : Bx (gstepsL len m = (stepsL len (m - 1)).take (gstepsL len m).length ∧ (gstepsL len m).length ≤ (stepsL len (m - 1)).length) := ⟨hpre, by
          have := congrArg List.length hpre
          rw [List.length_take] at this; omega⟩
        have HWP : Bx (∀ W, Calls Tryd.prog 46 #[.int .i64 m] W fun e w' => e = .returned (.bool (gwh true (gstepsL len m))) ∧ W = w') := ⟨fun W => by rw [← whole_pow len m hm1 hmlt]; exact whole_any m W (by omega)⟩
        have HGA : Bx (∀ W, GS R Vo Vf old fst la len lc L w W → Calls Tryd.prog 45 #[.slice la len lc, .int .i64 m, .int .i64 x] W fun e w' => ∃ ao co, e = .returned (.tuple #[.slice ao lp co, .int .i64 0]) ∧ Dgs w' ao lp co (growL L m true x) ∧ Below W.heap.size W w') := ⟨fun W hW => by
          have h := growth_any _ len lc L (m : Int) x W hW.lv (htab.below hW.c0.low) (by omega)
          have hLl := hW.lv.len_eq
          rw [show gE len (m : Int) = 0 from if_pos ⟨by omega, by omega⟩, show gV L (m : Int) x = growL L m true x from by unfold gV; rw [if_pos ⟨by omega, by omega⟩]; rfl, hol] at h
          refine h.mono ?_
          rintro e w' ⟨v, rfl, ho, hb⟩
          obtain ⟨ao, co, rfl, hD⟩ := Dgs.of_owns ho (growL_dg _ L m true x (Nat.le_refl _) hm1 (by omega) hLd)
          exact ⟨ao, co, rfl, hD, hb⟩⟩
        have HC1 : Bx _ := ⟨hc1⟩
        have HC2 : Bx _ := ⟨hc2⟩
        have HOL : Bx _ := ⟨hol⟩
        obtain ⟨mi, hmi⟩ : ∃ mi, mi = m - 1 := ⟨_, rfl⟩
        rw [← hmi] at HPRE
        have hmiI : (m : Int) - 1 = (mi : Int) := by omega
        have hmlt2 : mi < len := by omega
        clear hmi hpre hln hol hc1 hc2 HMU2 HGM2 hmlt
        go_wp2_with fail
        refine (HGA.out _ hk).mono ?_
        rintro e w6 ⟨ao, co, rfl, hOW, hb6⟩
        replace hk := hk.step hb6
        clear hb6 HGA
        generalize growL L m true x = OW at hOW HC1 HC2 HOL
        generalize gstepsL len m = s at HPRE HWP HC1 HC2 HLN2
        go_wp2_with fail
        refine (HWP.out _).mono ?_
        rintro e w7 ⟨rfl, rfl⟩
        clear HWP
        obtain ⟨w7, hw7⟩ : ∃ w7, w7 = w6 := ⟨_, rfl⟩
        rw [← hw7] at hk hOW ⊢
        clear hw7
        cases hg : gwh true s with
        | true =>
          obtain ⟨A, B, hcAB⟩ := HC1.out hg
          have HAB : Bx (clashB A B x = true) := ⟨climb_some x _ _ _ _ _ A B hcAB⟩
          have HSL : Bx (s.length = lp) := ⟨by rw [HLN2.out]; unfold need; rw [if_pos hg]; rfl⟩
          have HCB : Bx (∀ a8 c8 a11 c11 W, GS R Vo Vf old fst la len lc L w W → Dgs W a8 (1 + lp) c8 (fst :: OW) → Dgs W a11 (1 + lp) c11 (old :: P) → Calls Tryd.prog 40 #[.int .i64 len, .int .i64 mi, .slice a8 (1 + lp) c8, .slice a11 (1 + lp) c11, .int .i64 x] W fun e w' => ∃ a c b d, e = .returned (.tuple #[.agg #[.slice a 65 c, .slice b 65 d], .bool true]) ∧ Bts w' a 65 c A ∧ Bts w' b 65 d B ∧ Below W.heap.size W w') := ⟨fun a8 c8 a11 c11 W h h8 h11 =>
            climb_any len mi lp (1 + lp) a8 a11 c8 c11 fst old A B OW P x W (by omega) (by omega) hmlt2 (by rw [← HSL.out]; exact HPRE.out.2) rfl h8 h11 (htab.below h.c0.low) (by rw [← HSL.out, ← HPRE.out.1]; exact hcAB)⟩
          have HW1 : Bx (∀ W, Dgs W ao lp co OW → Calls Tryd.prog 41 #[.agg (bv fst).toArray, .slice ao lp co] W fun e w' => ∃ a' c', e = .returned (.slice a' (1 + lp) c') ∧ Dgs w' a' (1 + lp) c' (fst :: OW) ∧ Below W.heap.size W w') := ⟨fun W h => way_any fst ao lp co OW W hFd h hlp⟩
          have HW2 : Bx (∀ W, GS R Vo Vf old fst la len lc L w W → Calls Tryd.prog 41 #[.agg (bv old).toArray, .slice ap lp cp] W fun e w' => ∃ a' c', e = .returned (.slice a' (1 + lp) c') ∧ Dgs w' a' (1 + lp) c' (old :: P) ∧ Below W.heap.size W w') := ⟨fun W h => way_any old ap lp cp P W hod (hP.below h.c0.low) hlp⟩
          clear hcAB HC1 HC2 HPRE hg HLN2 HOL
          go_wp2_with fail
          replace hk : GS R Vo Vf old fst la len lc L w w7.drew := hk.drewN 1
          replace hOW : Dgs w7.drew ao lp co OW := hOW.drewN 1
          refine wp_region_held_drew (S := fun W => GS R Vo Vf old fst la len lc L w W) (by kernel_rfl) hk (fun _ => ?_)
          generalize w7.drew = wk at hk hOW ⊢
          refine wpAnyH_take (i := 0) (oi := { dst := some 59, op := Op.load 42 (Operand.tmp 13), type := 42, pos := "clash.go:52", after := #[], guard := none }) (v := .agg (bv fst).toArray) rfl (by kernel_rfl) (by kernel_rfl) (by kernel_rfl) (fun _ _ _ h => h) (yieldsIf_load_mid (by rfl) 42 (.tmp 13) rfl Vf 0 rfl (bv fst) _ (fun W h => range_row h.vf) Tryd.underlying42 rfl hdF) hk ?_
          simp only [Act.put, List.setIfInBounds_toArray, List.set_cons_zero, List.set_cons_succ]
          refine wpAnyH_take (i := 1) (oi := { dst := some 60, op := Op.move (Operand.tmp 14), type := 30, pos := "clash.go:52", after := #[], guard := none }) (v := ?vcg91) rfl (by kernel_rfl) (by kernel_rfl) (by kernel_rfl) (fun _ _ _ h => h) (Or.inl ⟨by rfl, ?ycg91⟩) hk ?rcg91
          case ycg91 => (intro w hSw; (try dsimp only at hSw); go_simp; first | done | with_reducible rfl)
          simp only [Act.put, List.setIfInBounds_toArray, List.set_cons_zero, List.set_cons_succ]
          refine wpAnyH_take (i := 3) (oi := { dst := some 62, op := Op.load 42 (Operand.tmp 7), type := 42, pos := "clash.go:52", after := #[], guard := none }) (v := .agg (bv old).toArray) rfl (by kernel_rfl) (by kernel_rfl) (by kernel_rfl) (fun _ _ _ h => h) (yieldsIf_load_mid (by rfl) 42 (.tmp 7) rfl Vo 0 rfl (bv old) _ (fun W h => range_row h.vo) Tryd.underlying42 rfl hdO) hk ?_
          simp only [Act.put, List.setIfInBounds_toArray, List.set_cons_zero, List.set_cons_succ]
          refine wpAnyH_take (i := 4) (oi := { dst := some 63, op := Op.move (Operand.tmp 3), type := 30, pos := "clash.go:52", after := #[], guard := none }) (v := ?vcg92) rfl (by kernel_rfl) (by kernel_rfl) (by kernel_rfl) (fun _ _ _ h => h) (Or.inl ⟨by rfl, ?ycg92⟩) hk ?rcg92
          case ycg92 => (intro w hSw; (try dsimp only at hSw); go_simp; first | done | with_reducible rfl)
          simp only [Act.put, List.setIfInBounds_toArray, List.set_cons_zero, List.set_cons_succ]
          refine wpAnyH_ready (rs := [2]) (by decide +kernel) (by simp) ?_
          refine AllReadyH.cons (o := { dst := some 61, op := Op.call { callee := Callee.value (Operand.func 41), args := #[Operand.tmp 59, Operand.tmp 60], argTypes := #[42, 30] }, type := 30, pos := "clash.go:52", after := #[{ on := 0, ground := Ground.data }, { on := 1, ground := Ground.data }], guard := none }) rfl (fun K hK => ?_) AllReadyH.nil
          go_simp
          refine (HW1.out _ hOW).mono ?_
          rintro e1 wk ⟨a8, c8, rfl, hD8, hb1⟩
          replace hk := hk.step hb1
          clear hb1 hOW
          refine hK.out _ _ hk (fun _ => ?_)
          clear hK K
          try simp only [Act.put, List.setIfInBounds_toArray, List.set_cons_zero, List.set_cons_succ]
          refine wpAnyH_ready (rs := [5]) (by decide +kernel) (by simp) ?_
          refine AllReadyH.cons (o := { dst := some 64, op := Op.call { callee := Callee.value (Operand.func 41), args := #[Operand.tmp 62, Operand.tmp 63], argTypes := #[42, 30] }, type := 30, pos := "clash.go:52", after := #[{ on := 3, ground := Ground.data }, { on := 4, ground := Ground.data }, { on := 2, ground := Ground.chain }], guard := none }) rfl (fun K hK => ?_) AllReadyH.nil
          go_simp
          refine (HW2.out _ hk).mono ?_
          rintro e1 wk ⟨a11, c11, rfl, hD11, hb1⟩
          replace hk := hk.step hb1
          replace hD8 := hD8.below hb1
          clear hb1
          refine hK.out _ _ hk (fun _ => ?_)
          clear hK K
          try simp only [Act.put, List.setIfInBounds_toArray, List.set_cons_zero, List.set_cons_succ]
          refine wpAnyH_take (i := 6) (oi := { dst := some 14, op := Op.assign (Operand.tmp 61), type := 30, pos := "clash.go:52", after := #[{ on := 2, ground := Ground.data }, { on := 5, ground := Ground.chain }, { on := 0, ground := Ground.phase }, { on := 1, ground := Ground.phase }, { on := 2, ground := Ground.phase }, { on := 3, ground := Ground.textOnly Departure.lateStores }, { on := 4, ground := Ground.textOnly Departure.lateStores }, { on := 5, ground := Ground.textOnly Departure.lateStoresUnsure }], guard := none }) (v := ?vcg93) rfl (by kernel_rfl) (by kernel_rfl) (by kernel_rfl) (fun _ _ _ h => h) (Or.inl ⟨by rfl, ?ycg93⟩) hk ?rcg93
          case ycg93 => (intro w hSw; (try dsimp only at hSw); go_simp; first | done | with_reducible rfl)
          simp only [Act.put, List.setIfInBounds_toArray, List.set_cons_zero, List.set_cons_succ]
          refine wpAnyH_take (i := 7) (oi := { dst := some 3, op := Op.assign (Operand.tmp 64), type := 30, pos := "clash.go:52", after := #[{ on := 5, ground := Ground.data }, { on := 6, ground := Ground.chain }, { on := 0, ground := Ground.phase }, { on := 1, ground := Ground.phase }, { on := 2, ground := Ground.phase }, { on := 3, ground := Ground.phase }, { on := 4, ground := Ground.phase }, { on := 5, ground := Ground.phase }, { on := 6, ground := Ground.phase }], guard := none }) (v := ?vcg94) rfl (by kernel_rfl) (by kernel_rfl) (by kernel_rfl) (fun _ _ _ h => h) (Or.inl ⟨by rfl, ?ycg94⟩) hk ?rcg94
          case ycg94 => (intro w hSw; (try dsimp only at hSw); go_simp; first | done | with_reducible rfl)
          simp only [Act.put, List.setIfInBounds_toArray, List.set_cons_zero, List.set_cons_succ]
          refine wpAnyH_done (by decide +kernel) ?_ _
          clear hdO hdF HW1 HW2
          go_wp2_with fail
          refine (HCB.out _ _ _ _ _ hk hD8 hD11).mono ?_
          rintro e w9 ⟨a4, c4, a5, c5, rfl, hB4, hB5, hb9⟩
          replace hk := hk.step hb9
          clear hb9 hD8 hD11 HCB
          have htr := hk.c0.tr
          have HTH : Bx _ := ⟨htr.there (D := #[.slice a4 65 c4, .slice a5 65 c5]) rfl⟩
          have HST : Bx _ := ⟨htr.put (D := #[.slice a4 65 c4, .slice a5 65 c5]) rfl⟩
          have HB4 : Bx _ := ⟨bts_far hB4 htr (by decide) (#[.slice a4 65 c4, .slice a5 65 c5] : Array Value).toList⟩
          have HB5 : Bx _ := ⟨bts_far hB5 htr (by decide) (#[.slice a4 65 c4, .slice a5 65 c5] : Array Value).toList⟩
          have HLW : Bx _ := ⟨below_setCells hk.c0.low R hk.c0.ge (#[.slice a4 65 c4, .slice a5 65 c5] : Array Value).toList 0⟩
          clear htr hk hB4 hB5
          go_wp2_with (refine wpList_store_mid rfl 25 (.tmp 10) (.tmp 73) rfl R 0 #[.slice a4 65 c4, .slice a5 65 c5] rfl rfl ?ht cls_info (cls_one ..) ?_; (case ht => exact HTH.out))
          exact bodyPost_ret (v := .tuple #[.agg #[.slice a4 65 c4, .slice a5 65 c5], .bool true]) (results_ct25 rfl _ _ R #[.slice a4 65 c4, .slice a5 65 c5] _ rfl rfl HST.out cls_info) rfl ⟨cans_yes HYES.out HB4.out HB5.out (by decide) (by decide) HAB.out, HLW.out⟩
        | false =>
          obtain ⟨A, B, hcAB⟩ := HC2.out hg
          have HAB : Bx (clashB A B x = true) := ⟨climb_some x _ _ _ _ _ A B hcAB⟩
          have HSL : Bx (lp = 1 + s.length) := ⟨by rw [HLN2.out]; unfold need; rw [hg]; simp; omega⟩
          have hcons : ∀ M : List (List Int), M.length = lp → M = M.getD 0 [] :: M.drop 1 := by
            intro M hM
            cases M with
            | nil => have := HSL.out; simp at hM; omega
            | cons b l => rfl
          have HEO : Bx (OW = OW.getD 0 [] :: OW.drop 1) := ⟨hcons OW HOL.out⟩
          have HEP : Bx (P = P.getD 0 [] :: P.drop 1) := ⟨hcons P hP.len_eq⟩
          have HCB : Bx (∀ W, GS R Vo Vf old fst la len lc L w W → Dgs W ao lp co OW → Calls Tryd.prog 40 #[.int .i64 len, .int .i64 mi, .slice ao lp co, .slice ap lp cp, .int .i64 x] W fun e w' => ∃ a c b d, e = .returned (.tuple #[.agg #[.slice a 65 c, .slice b 65 d], .bool true]) ∧ Bts w' a 65 c A ∧ Bts w' b 65 d B ∧ Below W.heap.size W w') := ⟨fun W h h8 =>
            climb_any len mi s.length lp ao ap co cp (OW.getD 0 []) (P.getD 0 []) A B (OW.drop 1) (P.drop 1) x W (by omega) (by omega) hmlt2 HPRE.out.2 HSL.out (h8.list HEO.out) ((hP.below h.c0.low).list HEP.out) (htab.below h.c0.low) (by rw [← HPRE.out.1]; exact hcAB)⟩
          clear hcAB HC1 HC2 HPRE hg HLN2 HOL hcons HEO HEP HSL hdO hdF
          go_wp2_with fail
          refine (HCB.out _ hk hOW).mono ?_
          rintro e w9 ⟨a4, c4, a5, c5, rfl, hB4, hB5, hb9⟩
          replace hk := hk.step hb9
          clear hb9 hOW HCB
          have htr := hk.c0.tr
          have HTH : Bx _ := ⟨htr.there (D := #[.slice a4 65 c4, .slice a5 65 c5]) rfl⟩
          have HST : Bx _ := ⟨htr.put (D := #[.slice a4 65 c4, .slice a5 65 c5]) rfl⟩
          have HB4 : Bx _ := ⟨bts_far hB4 htr (by decide) (#[.slice a4 65 c4, .slice a5 65 c5] : Array Value).toList⟩
          have HB5 : Bx _ := ⟨bts_far hB5 htr (by decide) (#[.slice a4 65 c4, .slice a5 65 c5] : Array Value).toList⟩
          have HLW : Bx _ := ⟨below_setCells hk.c0.low R hk.c0.ge (#[.slice a4 65 c4, .slice a5 65 c5] : Array Value).toList 0⟩
          clear htr hk hB4 hB5
          go_wp2_with (refine wpList_store_mid rfl 25 (.tmp 10) (.tmp 73) rfl R 0 #[.slice a4 65 c4, .slice a5 65 c5] rfl rfl ?ht cls_info (cls_one ..) ?_; (case ht => exact HTH.out))
          exact bodyPost_ret (v := .tuple #[.agg #[.slice a4 65 c4, .slice a5 65 c5], .bool true]) (results_ct25 rfl _ _ R #[.slice a4 65 c4, .slice a5 65 c5] _ rfl rfl HST.out cls_info) rfl ⟨cans_yes HYES.out HB4.out HB5.out (by decide) (by decide) HAB.out, HLW.out⟩
  · have HNO : Bx (mustG T mi old P x = false) := ⟨by unfold mustG; rw [decide_eq_false (fun h => hin ⟨h.1, by have := h.2; omega⟩)]; rfl⟩
    have hbd := cls_build
    clear hT hP htab hf hTL hvo
    by_cases h0 : mi < 1
    · have g1 : decide (mi < 1) = true := by simpa using h0
      clear hin
      go_enter Tryd.func21, Tryd.ntmps21
      obtain ⟨HTH, HST, HBS⟩ := c0_end hC #[.slice none 0 0, .slice none 0 0] rfl
      clear hC
      go_wp2_with (refine wpList_store_mid rfl 25 (.tmp 10) (.tmp 24) rfl (w.heap.size + 1) 0 #[.slice none 0 0, .slice none 0 0] rfl rfl ?ht cls_info (cls_one ..) ?_; (case ht => exact HTH.out))
      exact bodyPost_ret (v := .tuple #[.agg #[.slice none 0 0, .slice none 0 0], .bool false]) (results_ct25 rfl _ _ (w.heap.size + 1) #[.slice none 0 0, .slice none 0 0] _ rfl rfl HST.out cls_info) rfl ⟨cans_no HNO.out, HBS.out⟩
    · have g1 : decide (mi < 1) = false := by simpa using h0
      have g2 : decide (mi > (len : Int)) = true := by simp; omega
      clear hin
      go_enter Tryd.func21, Tryd.ntmps21
      obtain ⟨HTH, HST, HBS⟩ := c0_end hC #[.slice none 0 0, .slice none 0 0] rfl
      clear hC
      go_wp2_with (refine wpList_store_mid rfl 25 (.tmp 10) (.tmp 24) rfl (w.heap.size + 1) 0 #[.slice none 0 0, .slice none 0 0] rfl rfl ?ht cls_info (cls_one ..) ?_; (case ht => exact HTH.out))
      exact bodyPost_ret (v := .tuple #[.agg #[.slice none 0 0, .slice none 0 0], .bool false]) (results_ct25 rfl _ _ (w.heap.size + 1) #[.slice none 0 0, .slice none 0 0] _ rfl rfl HST.out cls_info) rfl ⟨cans_no HNO.out, HBS.out⟩
end Go.Proofs.YtfkloilbjfleeaaDoor
