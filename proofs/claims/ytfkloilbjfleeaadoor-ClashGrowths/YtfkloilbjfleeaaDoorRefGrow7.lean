/- The document's own Growth of layer 7. -/
import Derived.Test.YtfkloilbjfleeaaDoorLaw7
import Derived.Test.YtfkloilbjfleeaaDoorRefGrowC
namespace Go.Proofs.YtfkloilbjfleeaaDoor
open Go.RowKit
set_option linter.unusedVariables false

/-- what stays: the old root, the leaves -/
structure RG7 (N : Nat) (old : List Int) (la : Option Addr) (len lc : Nat) (L : List (List Int)) (w wr : World) : Prop where
  low : Below w.heap.size w wr
  vo : wr.heap[N]? = some (.cells (bv old).toArray 42 (0, 0))
  lv : Dgs wr la len lc L
set_option maxRecDepth 100000 in
theorem RG7.step {N : Nat} {old : List Int} {la : Option Addr} {len lc : Nat} {L : List (List Int)} {w wr w1 : World} (h : RG7 N old la len lc L w wr) (hb : Below wr.heap.size wr w1) : RG7 N old la len lc L w w1 := ⟨h.low.trans (hb.mono h.low.size), row_step h.vo hb, h.lv.below hb⟩
set_option maxRecDepth 100000 in
theorem RG7.drewN {N : Nat} {old : List Int} {la : Option Addr} {len lc : Nat} {L : List (List Int)} {w wr : World} (h : RG7 N old la len lc L w wr) (n : Nat) : RG7 N old la len lc L w (wr.drewN n) := ⟨below_drewN h.low n, h.vo, h.lv.drewN n⟩

set_option maxRecDepth 100000 in
set_option maxHeartbeats 2000000 in
theorem refgrow7_any (a : Option Addr) (len cap : Nat) (T : List (List Int)) (mi : Int) (old : List Int) (ap : Option Addr) (lp cp : Nat) (P : List (List Int)) (x : Int) (w : World) (hT : Txs w a len cap T) (hf : ∀ t ∈ T, t.length ≤ 100000) (hl : len ≤ 1000)
    (hod : Dg old) (hP : Dgs w ap lp cp P) (htab : Tab w) :
    Calls Tryd.prog 22 #[.slice a len cap, .int .i64 mi, .agg (bv old).toArray, .slice ap lp cp, .int .i64 x] w fun e w' => e = .returned (.bool (mustG T mi old P x)) ∧ Below w.heap.size w w' := by
  have hb0 : Below w.heap.size w (w.alloc (.cells (bv old).toArray 42)) := (Below.refl _ _).alloc (Nat.le_refl _) _
  have hvo : (w.alloc (.cells (bv old).toArray 42)).heap[w.heap.size]? = some (.cells (bv old).toArray 42 (0, 0)) := heap_alloc_new _ _
  have hTL := hT.len_eq
  have hcc := hT.le_cap
  have hcm := hT.cap_le
  unfold maxLen at hcm
  by_cases hin : 1 ≤ mi ∧ mi ≤ (len : Int)
  · obtain ⟨m, rfl⟩ : ∃ m : Nat, mi = (m : Int) := ⟨mi.toNat, by omega⟩
    have hm1 : 1 ≤ m := by omega
    have hml : m ≤ len := by omega
    have g1 : decide ((m : Int) < 1) = false := by simp; omega
    have g2 : decide ((m : Int) > (len : Int)) = false := by simp; omega
    have g2' : decide (len < m) = false := by simp; omega
    have HLV : Bx (∀ W, Below w.heap.size w W → Calls Tryd.prog 24 #[.slice a len cap, .int .i64 x] W fun e w' => ∃ a' c', e = .returned (.slice a' len c') ∧ Dgs w' a' len c' (leavesL T x) ∧ Below W.heap.size W w') := ⟨fun W hW => refleaves_any _ len cap T x W (hT.below hW) (fun t ht => Nat.le_trans (hf t ht) (by decide)) hl⟩
    have HMU : Bx (mustG T (m : Int) old P x = (decide (old ≠ rootL ((leavesL T x).take m) x) && chkG old (m : Int) (rootL (leavesL T x) x) (len : Int) P x)) := ⟨by
      unfold mustG
      rw [hTL, decide_eq_true ⟨by omega, by omega⟩, Bool.true_and, show ((m : Int)).toNat = m from by omega]⟩
    have hLd := leavesL_dg T x
    have hRd := rootL_dg (leavesL T x) x hLd
    have hFd := rootL_dg ((leavesL T x).take m) x (hLd.take m)
    generalize leavesL T x = L at HLV HMU hLd hRd hFd
    have HB0 : Bx _ := ⟨hb0⟩
    have HVO : Bx _ := ⟨hvo⟩
    clear hT hf hTL hb0 hvo
    go_enter Tryd.func22, Tryd.ntmps22
    go_wp2_with fail
    have hb0 := HB0.out
    have hvo := HVO.out
    clear HB0 HVO
    generalize w.alloc (.cells (bv old).toArray 42) = w0 at hb0 hvo ⊢
    refine (HLV.out _ hb0).mono ?_
    rintro e w2 ⟨la, lc, rfl, hlv2, hb2⟩
    have hRG : RG7 w.heap.size old la len lc L w w2 := ⟨bstep hb0 hb2, row_step hvo hb2, hlv2⟩
    clear hb0 hvo hb2 HLV
    obtain ⟨lb, lo, rfl, _, _⟩ := hlv2.spot (by omega)
    have hlcc := hlv2.le_cap
    have hcut := dgs_cut lb lo len lc m (by omega)
    clear hlv2
    obtain ⟨N, hN⟩ : ∃ N, N = w.heap.size := ⟨_, rfl⟩
    rw [← hN] at hRG ⊢
    clear hN
    have HRF : Bx (∀ W, RG7 N old (some ⟨lb, lo, none⟩) len lc L w W → Calls Tryd.prog 27 #[.slice (some ⟨lb, lo, none⟩) m lc, .int .i64 x] W fun e w' => e = .returned (.agg (bv (rootL (L.take m) x)).toArray) ∧ Below W.heap.size W w') := ⟨fun W h => refroot_any m _ m lc _ x W (Nat.le_refl _) (h.lv.take m hml) (htab.below h.low) (by omega)⟩
    have HRT : Bx (∀ W, RG7 N old (some ⟨lb, lo, none⟩) len lc L w W → Calls Tryd.prog 27 #[.slice (some ⟨lb, lo, none⟩) len lc, .int .i64 x] W fun e w' => e = .returned (.agg (bv (rootL L x)).toArray) ∧ Below W.heap.size W w') := ⟨fun W h => refroot_any len _ len lc L x W (Nat.le_refl _) h.lv (htab.below h.low) (by omega)⟩
    have HCK : Bx (∀ W, RG7 N old (some ⟨lb, lo, none⟩) len lc L w W → Calls Tryd.prog 47 #[.agg (bv old).toArray, .int .i64 m, .agg (bv (rootL L x)).toArray, .int .i64 len, .slice ap lp cp, .int .i64 x] W fun e w' => e = .returned (.bool (chkG old (m : Int) (rootL L x) (len : Int) P x)) ∧ Below W.heap.size W w') := ⟨fun W h => refcheckgrowth_any old m (rootL L x) len ap lp cp P x W hod hRd (by omega) (hP.below h.low)⟩
    generalize rootL (L.take m) x = fst at HMU hFd HRF
    generalize rootL L x = RT at HRT HCK HMU hRd
    have hdO : (Tryd.prog.info? 42).map (·.size) = some (bv old).length := by rw [bv_length, hod.1]; exact dig_info
    have hcmp := dig_cmp old fst hod.1 hFd.1
    by_cases heq : old = fst
    · have HNO : Bx (false = mustG T (m : Int) old P x) := ⟨by rw [HMU.out, decide_eq_false (fun h => h heq)]; rfl⟩
      rw [decide_eq_true heq] at hcmp
      clear HMU heq HRT HCK
      go_wp2_with fail
      have hk : RG7 N old (some ⟨lb, lo, none⟩) len lc L w w2.drew := hRG.drewN 1
      clear hRG
      refine wp_region_held_drew (S := fun W => RG7 N old (some ⟨lb, lo, none⟩) len lc L w W) (by kernel_rfl) hk (fun _ => ?_)
      generalize w2.drew = wk at hk ⊢
      refine wpAnyH_take (i := 0) (oi := { dst := some 23, op := Op.load 42 (Operand.tmp 7), type := 42, pos := "ref.go:30", after := #[], guard := none }) (v := .agg (bv old).toArray) rfl (by kernel_rfl) (by kernel_rfl) (by kernel_rfl) (fun _ _ _ h => h) (yieldsIf_load_mid (by rfl) 42 (.tmp 7) rfl N 0 rfl (bv old) _ (fun W h => range_row h.vo) Tryd.underlying42 rfl hdO) hk ?_
      simp only [Act.put, List.setIfInBounds_toArray, List.set_cons_zero, List.set_cons_succ]
      refine wpAnyH_take (i := 1) (oi := { dst := some 24, op := Op.move (Operand.tmp 11), type := 30, pos := "ref.go:30", after := #[], guard := none }) (v := ?vrg7a1) rfl (by kernel_rfl) (by kernel_rfl) (by kernel_rfl) (fun _ _ _ h => h) (Or.inl ⟨by rfl, ?yrg7a1⟩) hk ?rrg7a1
      case yrg7a1 => (intro w hSw; (try dsimp only at hSw); go_simp; first | done | with_reducible rfl)
      simp only [Act.put, List.setIfInBounds_toArray, List.set_cons_zero, List.set_cons_succ]
      refine wpAnyH_take (i := 2) (oi := { dst := some 25, op := Op.move (Operand.tmp 1), type := 3, pos := "ref.go:30", after := #[], guard := none }) (v := ?vrg7a2) rfl (by kernel_rfl) (by kernel_rfl) (by kernel_rfl) (fun _ _ _ h => h) (Or.inl ⟨by rfl, ?yrg7a2⟩) hk ?rrg7a2
      case yrg7a2 => (intro w hSw; (try dsimp only at hSw); go_simp; first | done | with_reducible rfl)
      simp only [Act.put, List.setIfInBounds_toArray, List.set_cons_zero, List.set_cons_succ]
      refine wpAnyH_take (i := 3) (oi := { dst := some 26, op := Op.slice 30 (Operand.tmp 24) none (some (Operand.tmp 25)) none, type := 30, pos := "ref.go:30", after := #[{ on := 1, ground := Ground.data }, { on := 2, ground := Ground.data }], guard := none }) (v := ?vrg7a3) rfl (by kernel_rfl) (by kernel_rfl) (by kernel_rfl) (fun _ _ _ h => h) (Or.inl ⟨by rfl, ?yrg7a3⟩) hk ?rrg7a3
      case yrg7a3 => (intro w hSw; (try dsimp only at hSw); go_simp; first | done | with_reducible rfl)
      simp only [Act.put, List.setIfInBounds_toArray, List.set_cons_zero, List.set_cons_succ]
      refine wpAnyH_take (i := 4) (oi := { dst := some 27, op := Op.move (Operand.tmp 4), type := 3, pos := "ref.go:30", after := #[], guard := none }) (v := ?vrg7a4) rfl (by kernel_rfl) (by kernel_rfl) (by kernel_rfl) (fun _ _ _ h => h) (Or.inl ⟨by rfl, ?yrg7a4⟩) hk ?rrg7a4
      case yrg7a4 => (intro w hSw; (try dsimp only at hSw); go_simp; first | done | with_reducible rfl)
      simp only [Act.put, List.setIfInBounds_toArray, List.set_cons_zero, List.set_cons_succ]
      refine wpAnyH_ready (rs := [5]) (by decide +kernel) (by simp) ?_
      refine AllReadyH.cons (o := { dst := some 28, op := Op.call { callee := Callee.value (Operand.func 27), args := #[Operand.tmp 26, Operand.tmp 27], argTypes := #[30, 3] }, type := 42, pos := "ref.go:30", after := #[{ on := 3, ground := Ground.data }, { on := 4, ground := Ground.data }], guard := none }) rfl (fun K hK => ?_) AllReadyH.nil
      go_simp
      refine (HRF.out _ hk).mono ?_
      rintro e1 wk ⟨rfl, hb1⟩
      replace hk := hk.step hb1
      clear hb1
      refine hK.out _ _ hk (fun _ => ?_)
      clear hK K
      try simp only [Act.put, List.setIfInBounds_toArray, List.set_cons_zero, List.set_cons_succ]
      refine wpAnyH_take (i := 6) (oi := { dst := some 29, op := Op.binOp BinOp.neq 42 (Operand.tmp 23) (Operand.tmp 28) 42, type := 4, pos := "ref.go:30", after := #[{ on := 0, ground := Ground.data }, { on := 5, ground := Ground.data }], guard := none }) (v := ?vrg7a5) rfl (by kernel_rfl) (by kernel_rfl) (by kernel_rfl) (fun _ _ _ h => h) (Or.inl ⟨by rfl, ?yrg7a5⟩) hk ?rrg7a5
      case yrg7a5 => (intro w hSw; (try dsimp only at hSw); go_simp; first | done | with_reducible rfl)
      simp only [Act.put, List.setIfInBounds_toArray, List.set_cons_zero, List.set_cons_succ]
      refine wpAnyH_take (i := 7) (oi := { dst := some 30, op := Op.move (Operand.tmp 29), type := 4, pos := "ref.go:30", after := #[{ on := 6, ground := Ground.data }, { on := 5, ground := Ground.chain }], guard := none }) (v := ?vrg7a6) rfl (by kernel_rfl) (by kernel_rfl) (by kernel_rfl) (fun _ _ _ h => h) (Or.inl ⟨by rfl, ?yrg7a6⟩) hk ?rrg7a6
      case yrg7a6 => (intro w hSw; (try dsimp only at hSw); go_simp; first | done | with_reducible rfl)
      simp only [Act.put, List.setIfInBounds_toArray, List.set_cons_zero, List.set_cons_succ]
      refine wpAnyH_take (i := 8) (oi := { dst := some 31, op := Op.load 42 (Operand.tmp 7), type := 42, pos := "ref.go:30", after := #[{ on := 7, ground := Ground.guard }], guard := some (7, true) }) (v := undef) rfl (by kernel_rfl) (by kernel_rfl) (by kernel_rfl) (fun _ _ _ h => h) (Or.inr ⟨by rfl, rfl⟩) hk ?_
      simp only [Act.put, List.setIfInBounds_toArray, List.set_cons_zero, List.set_cons_succ]
      refine wpAnyH_take (i := 9) (oi := { dst := some 32, op := Op.move (Operand.tmp 1), type := 3, pos := "ref.go:30", after := #[{ on := 7, ground := Ground.guard }], guard := some (7, true) }) (v := undef) rfl (by kernel_rfl) (by kernel_rfl) (by kernel_rfl) (fun _ _ _ h => h) (Or.inr ⟨by rfl, rfl⟩) hk ?_
      simp only [Act.put, List.setIfInBounds_toArray, List.set_cons_zero, List.set_cons_succ]
      refine wpAnyH_take (i := 10) (oi := { dst := some 33, op := Op.move (Operand.tmp 11), type := 30, pos := "ref.go:30", after := #[{ on := 7, ground := Ground.guard }], guard := some (7, true) }) (v := undef) rfl (by kernel_rfl) (by kernel_rfl) (by kernel_rfl) (fun _ _ _ h => h) (Or.inr ⟨by rfl, rfl⟩) hk ?_
      simp only [Act.put, List.setIfInBounds_toArray, List.set_cons_zero, List.set_cons_succ]
      refine wpAnyH_take (i := 11) (oi := { dst := some 34, op := Op.move (Operand.tmp 4), type := 3, pos := "ref.go:30", after := #[{ on := 7, ground := Ground.guard }], guard := some (7, true) }) (v := undef) rfl (by kernel_rfl) (by kernel_rfl) (by kernel_rfl) (fun _ _ _ h => h) (Or.inr ⟨by rfl, rfl⟩) hk ?_
      simp only [Act.put, List.setIfInBounds_toArray, List.set_cons_zero, List.set_cons_succ]
      refine wpAnyH_take (i := 12) (oi := { dst := some 35, op := Op.call { callee := Callee.value (Operand.func 27), args := #[Operand.tmp 33, Operand.tmp 34], argTypes := #[30, 3] }, type := 42, pos := "ref.go:30", after := #[{ on := 10, ground := Ground.data }, { on := 11, ground := Ground.data }, { on := 7, ground := Ground.chain }, { on := 7, ground := Ground.guard }], guard := some (7, true) }) (v := undef) rfl (by kernel_rfl) (by kernel_rfl) (by kernel_rfl) (fun _ _ _ h => h) (Or.inr ⟨by rfl, rfl⟩) hk ?_
      simp only [Act.put, List.setIfInBounds_toArray, List.set_cons_zero, List.set_cons_succ]
      refine wpAnyH_take (i := 13) (oi := { dst := some 36, op := Op.move (Operand.tmp 11), type := 30, pos := "ref.go:30", after := #[{ on := 7, ground := Ground.guard }], guard := some (7, true) }) (v := undef) rfl (by kernel_rfl) (by kernel_rfl) (by kernel_rfl) (fun _ _ _ h => h) (Or.inr ⟨by rfl, rfl⟩) hk ?_
      simp only [Act.put, List.setIfInBounds_toArray, List.set_cons_zero, List.set_cons_succ]
      refine wpAnyH_take (i := 14) (oi := { dst := some 37, op := Op.call { callee := Callee.builtin Builtin.len, args := #[Operand.tmp 36], argTypes := #[30] }, type := 3, pos := "ref.go:30", after := #[{ on := 13, ground := Ground.data }, { on := 7, ground := Ground.guard }], guard := some (7, true) }) (v := undef) rfl (by kernel_rfl) (by kernel_rfl) (by kernel_rfl) (fun _ _ _ h => h) (Or.inr ⟨by rfl, rfl⟩) hk ?_
      simp only [Act.put, List.setIfInBounds_toArray, List.set_cons_zero, List.set_cons_succ]
      refine wpAnyH_take (i := 15) (oi := { dst := some 38, op := Op.move (Operand.tmp 3), type := 30, pos := "ref.go:30", after := #[{ on := 7, ground := Ground.guard }], guard := some (7, true) }) (v := undef) rfl (by kernel_rfl) (by kernel_rfl) (by kernel_rfl) (fun _ _ _ h => h) (Or.inr ⟨by rfl, rfl⟩) hk ?_
      simp only [Act.put, List.setIfInBounds_toArray, List.set_cons_zero, List.set_cons_succ]
      refine wpAnyH_take (i := 16) (oi := { dst := some 39, op := Op.move (Operand.tmp 4), type := 3, pos := "ref.go:30", after := #[{ on := 7, ground := Ground.guard }], guard := some (7, true) }) (v := undef) rfl (by kernel_rfl) (by kernel_rfl) (by kernel_rfl) (fun _ _ _ h => h) (Or.inr ⟨by rfl, rfl⟩) hk ?_
      simp only [Act.put, List.setIfInBounds_toArray, List.set_cons_zero, List.set_cons_succ]
      refine wpAnyH_take (i := 17) (oi := { dst := some 40, op := Op.call { callee := Callee.value (Operand.func 47), args := #[Operand.tmp 31, Operand.tmp 32, Operand.tmp 35, Operand.tmp 37, Operand.tmp 38, Operand.tmp 39], argTypes := #[42, 3, 42, 3, 30, 3] }, type := 4, pos := "ref.go:30", after := #[{ on := 8, ground := Ground.data }, { on := 9, ground := Ground.data }, { on := 12, ground := Ground.data }, { on := 14, ground := Ground.data }, { on := 15, ground := Ground.data }, { on := 16, ground := Ground.data }, { on := 12, ground := Ground.chain }, { on := 7, ground := Ground.guard }], guard := some (7, true) }) (v := undef) rfl (by kernel_rfl) (by kernel_rfl) (by kernel_rfl) (fun _ _ _ h => h) (Or.inr ⟨by rfl, rfl⟩) hk ?_
      simp only [Act.put, List.setIfInBounds_toArray, List.set_cons_zero, List.set_cons_succ]
      refine wpAnyH_take (i := 18) (oi := { dst := some 41, op := Op.pick (Operand.tmp 30) (Operand.tmp 40) (Operand.const (Value.bool false)), type := 4, pos := "ref.go:30", after := #[{ on := 7, ground := Ground.data }, { on := 17, ground := Ground.data }], guard := none }) (v := ?vrg7a7) rfl (by kernel_rfl) (by kernel_rfl) (by kernel_rfl) (fun _ _ _ h => h) (Or.inl ⟨by rfl, ?yrg7a7⟩) hk ?rrg7a7
      case yrg7a7 => (intro w hSw; (try dsimp only at hSw); go_simp; first | done | with_reducible rfl)
      simp only [Act.put, List.setIfInBounds_toArray, List.set_cons_zero, List.set_cons_succ]
      refine wpAnyH_take (i := 19) (oi := { dst := some 10, op := Op.assign (Operand.tmp 41), type := 4, pos := "ref.go:30", after := #[{ on := 18, ground := Ground.data }, { on := 17, ground := Ground.chain }, { on := 0, ground := Ground.phase }, { on := 1, ground := Ground.phase }, { on := 2, ground := Ground.phase }, { on := 3, ground := Ground.phase }, { on := 4, ground := Ground.phase }, { on := 5, ground := Ground.phase }, { on := 6, ground := Ground.phase }, { on := 7, ground := Ground.phase }, { on := 8, ground := Ground.phase }, { on := 9, ground := Ground.phase }, { on := 10, ground := Ground.phase }, { on := 11, ground := Ground.phase }, { on := 12, ground := Ground.phase }, { on := 13, ground := Ground.phase }, { on := 14, ground := Ground.phase }, { on := 15, ground := Ground.phase }, { on := 16, ground := Ground.phase }, { on := 17, ground := Ground.phase }, { on := 18, ground := Ground.phase }], guard := none }) (v := ?vrg7a8) rfl (by kernel_rfl) (by kernel_rfl) (by kernel_rfl) (fun _ _ _ h => h) (Or.inl ⟨by rfl, ?yrg7a8⟩) hk ?rrg7a8
      case yrg7a8 => (intro w hSw; (try dsimp only at hSw); go_simp; first | done | with_reducible rfl)
      simp only [Act.put, List.setIfInBounds_toArray, List.set_cons_zero, List.set_cons_succ]
      refine wpAnyH_done (by decide +kernel) ?_ _
      have hlow := hk.low
      clear hk hcmp hdO hcut
      go_wp2
      go_ret
      exact ⟨ret_bool HNO.out, hlow⟩
    · rw [decide_eq_false heq] at hcmp
      have HMU2 : Bx (chkG old (m : Int) RT (len : Int) P x = mustG T (m : Int) old P x) := ⟨by rw [HMU.out, decide_eq_true heq, Bool.true_and]⟩
      generalize chkG old (m : Int) RT (len : Int) P x = cb at HCK HMU2
      clear HMU heq
      go_wp2_with fail
      have hk : RG7 N old (some ⟨lb, lo, none⟩) len lc L w w2.drew := hRG.drewN 1
      clear hRG
      refine wp_region_held_drew (S := fun W => RG7 N old (some ⟨lb, lo, none⟩) len lc L w W) (by kernel_rfl) hk (fun _ => ?_)
      generalize w2.drew = wk at hk ⊢
      refine wpAnyH_take (i := 0) (oi := { dst := some 23, op := Op.load 42 (Operand.tmp 7), type := 42, pos := "ref.go:30", after := #[], guard := none }) (v := .agg (bv old).toArray) rfl (by kernel_rfl) (by kernel_rfl) (by kernel_rfl) (fun _ _ _ h => h) (yieldsIf_load_mid (by rfl) 42 (.tmp 7) rfl N 0 rfl (bv old) _ (fun W h => range_row h.vo) Tryd.underlying42 rfl hdO) hk ?_
      simp only [Act.put, List.setIfInBounds_toArray, List.set_cons_zero, List.set_cons_succ]
      refine wpAnyH_take (i := 1) (oi := { dst := some 24, op := Op.move (Operand.tmp 11), type := 30, pos := "ref.go:30", after := #[], guard := none }) (v := ?vrg7b1) rfl (by kernel_rfl) (by kernel_rfl) (by kernel_rfl) (fun _ _ _ h => h) (Or.inl ⟨by rfl, ?yrg7b1⟩) hk ?rrg7b1
      case yrg7b1 => (intro w hSw; (try dsimp only at hSw); go_simp; first | done | with_reducible rfl)
      simp only [Act.put, List.setIfInBounds_toArray, List.set_cons_zero, List.set_cons_succ]
      refine wpAnyH_take (i := 2) (oi := { dst := some 25, op := Op.move (Operand.tmp 1), type := 3, pos := "ref.go:30", after := #[], guard := none }) (v := ?vrg7b2) rfl (by kernel_rfl) (by kernel_rfl) (by kernel_rfl) (fun _ _ _ h => h) (Or.inl ⟨by rfl, ?yrg7b2⟩) hk ?rrg7b2
      case yrg7b2 => (intro w hSw; (try dsimp only at hSw); go_simp; first | done | with_reducible rfl)
      simp only [Act.put, List.setIfInBounds_toArray, List.set_cons_zero, List.set_cons_succ]
      refine wpAnyH_take (i := 3) (oi := { dst := some 26, op := Op.slice 30 (Operand.tmp 24) none (some (Operand.tmp 25)) none, type := 30, pos := "ref.go:30", after := #[{ on := 1, ground := Ground.data }, { on := 2, ground := Ground.data }], guard := none }) (v := ?vrg7b3) rfl (by kernel_rfl) (by kernel_rfl) (by kernel_rfl) (fun _ _ _ h => h) (Or.inl ⟨by rfl, ?yrg7b3⟩) hk ?rrg7b3
      case yrg7b3 => (intro w hSw; (try dsimp only at hSw); go_simp; first | done | with_reducible rfl)
      simp only [Act.put, List.setIfInBounds_toArray, List.set_cons_zero, List.set_cons_succ]
      refine wpAnyH_take (i := 4) (oi := { dst := some 27, op := Op.move (Operand.tmp 4), type := 3, pos := "ref.go:30", after := #[], guard := none }) (v := ?vrg7b4) rfl (by kernel_rfl) (by kernel_rfl) (by kernel_rfl) (fun _ _ _ h => h) (Or.inl ⟨by rfl, ?yrg7b4⟩) hk ?rrg7b4
      case yrg7b4 => (intro w hSw; (try dsimp only at hSw); go_simp; first | done | with_reducible rfl)
      simp only [Act.put, List.setIfInBounds_toArray, List.set_cons_zero, List.set_cons_succ]
      refine wpAnyH_ready (rs := [5]) (by decide +kernel) (by simp) ?_
      refine AllReadyH.cons (o := { dst := some 28, op := Op.call { callee := Callee.value (Operand.func 27), args := #[Operand.tmp 26, Operand.tmp 27], argTypes := #[30, 3] }, type := 42, pos := "ref.go:30", after := #[{ on := 3, ground := Ground.data }, { on := 4, ground := Ground.data }], guard := none }) rfl (fun K hK => ?_) AllReadyH.nil
      go_simp
      refine (HRF.out _ hk).mono ?_
      rintro e1 wk ⟨rfl, hb1⟩
      replace hk := hk.step hb1
      clear hb1
      refine hK.out _ _ hk (fun _ => ?_)
      clear hK K
      try simp only [Act.put, List.setIfInBounds_toArray, List.set_cons_zero, List.set_cons_succ]
      refine wpAnyH_take (i := 6) (oi := { dst := some 29, op := Op.binOp BinOp.neq 42 (Operand.tmp 23) (Operand.tmp 28) 42, type := 4, pos := "ref.go:30", after := #[{ on := 0, ground := Ground.data }, { on := 5, ground := Ground.data }], guard := none }) (v := ?vrg7b5) rfl (by kernel_rfl) (by kernel_rfl) (by kernel_rfl) (fun _ _ _ h => h) (Or.inl ⟨by rfl, ?yrg7b5⟩) hk ?rrg7b5
      case yrg7b5 => (intro w hSw; (try dsimp only at hSw); go_simp; first | done | with_reducible rfl)
      simp only [Act.put, List.setIfInBounds_toArray, List.set_cons_zero, List.set_cons_succ]
      refine wpAnyH_take (i := 7) (oi := { dst := some 30, op := Op.move (Operand.tmp 29), type := 4, pos := "ref.go:30", after := #[{ on := 6, ground := Ground.data }, { on := 5, ground := Ground.chain }], guard := none }) (v := ?vrg7b6) rfl (by kernel_rfl) (by kernel_rfl) (by kernel_rfl) (fun _ _ _ h => h) (Or.inl ⟨by rfl, ?yrg7b6⟩) hk ?rrg7b6
      case yrg7b6 => (intro w hSw; (try dsimp only at hSw); go_simp; first | done | with_reducible rfl)
      simp only [Act.put, List.setIfInBounds_toArray, List.set_cons_zero, List.set_cons_succ]
      refine wpAnyH_take (i := 8) (oi := { dst := some 31, op := Op.load 42 (Operand.tmp 7), type := 42, pos := "ref.go:30", after := #[{ on := 7, ground := Ground.guard }], guard := some (7, true) }) (v := .agg (bv old).toArray) rfl (by kernel_rfl) (by kernel_rfl) (by kernel_rfl) (fun _ _ _ h => h) (yieldsIf_load_mid (by rfl) 42 (.tmp 7) rfl N 0 rfl (bv old) _ (fun W h => range_row h.vo) Tryd.underlying42 rfl hdO) hk ?_
      simp only [Act.put, List.setIfInBounds_toArray, List.set_cons_zero, List.set_cons_succ]
      refine wpAnyH_take (i := 9) (oi := { dst := some 32, op := Op.move (Operand.tmp 1), type := 3, pos := "ref.go:30", after := #[{ on := 7, ground := Ground.guard }], guard := some (7, true) }) (v := ?vrg7b7) rfl (by kernel_rfl) (by kernel_rfl) (by kernel_rfl) (fun _ _ _ h => h) (Or.inl ⟨by rfl, ?yrg7b7⟩) hk ?rrg7b7
      case yrg7b7 => (intro w hSw; (try dsimp only at hSw); go_simp; first | done | with_reducible rfl)
      simp only [Act.put, List.setIfInBounds_toArray, List.set_cons_zero, List.set_cons_succ]
      refine wpAnyH_take (i := 10) (oi := { dst := some 33, op := Op.move (Operand.tmp 11), type := 30, pos := "ref.go:30", after := #[{ on := 7, ground := Ground.guard }], guard := some (7, true) }) (v := ?vrg7b8) rfl (by kernel_rfl) (by kernel_rfl) (by kernel_rfl) (fun _ _ _ h => h) (Or.inl ⟨by rfl, ?yrg7b8⟩) hk ?rrg7b8
      case yrg7b8 => (intro w hSw; (try dsimp only at hSw); go_simp; first | done | with_reducible rfl)
      simp only [Act.put, List.setIfInBounds_toArray, List.set_cons_zero, List.set_cons_succ]
      refine wpAnyH_take (i := 11) (oi := { dst := some 34, op := Op.move (Operand.tmp 4), type := 3, pos := "ref.go:30", after := #[{ on := 7, ground := Ground.guard }], guard := some (7, true) }) (v := ?vrg7b9) rfl (by kernel_rfl) (by kernel_rfl) (by kernel_rfl) (fun _ _ _ h => h) (Or.inl ⟨by rfl, ?yrg7b9⟩) hk ?rrg7b9
      case yrg7b9 => (intro w hSw; (try dsimp only at hSw); go_simp; first | done | with_reducible rfl)
      simp only [Act.put, List.setIfInBounds_toArray, List.set_cons_zero, List.set_cons_succ]
      refine wpAnyH_take (i := 13) (oi := { dst := some 36, op := Op.move (Operand.tmp 11), type := 30, pos := "ref.go:30", after := #[{ on := 7, ground := Ground.guard }], guard := some (7, true) }) (v := ?vrg7b10) rfl (by kernel_rfl) (by kernel_rfl) (by kernel_rfl) (fun _ _ _ h => h) (Or.inl ⟨by rfl, ?yrg7b10⟩) hk ?rrg7b10
      case yrg7b10 => (intro w hSw; (try dsimp only at hSw); go_simp; first | done | with_reducible rfl)
      simp only [Act.put, List.setIfInBounds_toArray, List.set_cons_zero, List.set_cons_succ]
      refine wpAnyH_take (i := 14) (oi := { dst := some 37, op := Op.call { callee := Callee.builtin Builtin.len, args := #[Operand.tmp 36], argTypes := #[30] }, type := 3, pos := "ref.go:30", after := #[{ on := 13, ground := Ground.data }, { on := 7, ground := Ground.guard }], guard := some (7, true) }) (v := ?vrg7b11) rfl (by kernel_rfl) (by kernel_rfl) (by kernel_rfl) (fun _ _ _ h => h) (Or.inl ⟨by rfl, ?yrg7b11⟩) hk ?rrg7b11
      case yrg7b11 => (intro w hSw; (try dsimp only at hSw); go_simp; first | done | with_reducible rfl)
      simp only [Act.put, List.setIfInBounds_toArray, List.set_cons_zero, List.set_cons_succ]
      refine wpAnyH_take (i := 15) (oi := { dst := some 38, op := Op.move (Operand.tmp 3), type := 30, pos := "ref.go:30", after := #[{ on := 7, ground := Ground.guard }], guard := some (7, true) }) (v := ?vrg7b12) rfl (by kernel_rfl) (by kernel_rfl) (by kernel_rfl) (fun _ _ _ h => h) (Or.inl ⟨by rfl, ?yrg7b12⟩) hk ?rrg7b12
      case yrg7b12 => (intro w hSw; (try dsimp only at hSw); go_simp; first | done | with_reducible rfl)
      simp only [Act.put, List.setIfInBounds_toArray, List.set_cons_zero, List.set_cons_succ]
      refine wpAnyH_take (i := 16) (oi := { dst := some 39, op := Op.move (Operand.tmp 4), type := 3, pos := "ref.go:30", after := #[{ on := 7, ground := Ground.guard }], guard := some (7, true) }) (v := ?vrg7b13) rfl (by kernel_rfl) (by kernel_rfl) (by kernel_rfl) (fun _ _ _ h => h) (Or.inl ⟨by rfl, ?yrg7b13⟩) hk ?rrg7b13
      case yrg7b13 => (intro w hSw; (try dsimp only at hSw); go_simp; first | done | with_reducible rfl)
      simp only [Act.put, List.setIfInBounds_toArray, List.set_cons_zero, List.set_cons_succ]
      refine wpAnyH_ready (rs := [12]) (by decide +kernel) (by simp) ?_
      refine AllReadyH.cons (o := { dst := some 35, op := Op.call { callee := Callee.value (Operand.func 27), args := #[Operand.tmp 33, Operand.tmp 34], argTypes := #[30, 3] }, type := 42, pos := "ref.go:30", after := #[{ on := 10, ground := Ground.data }, { on := 11, ground := Ground.data }, { on := 7, ground := Ground.chain }, { on := 7, ground := Ground.guard }], guard := some (7, true) }) rfl (fun K hK => ?_) AllReadyH.nil
      go_simp
      refine (HRT.out _ hk).mono ?_
      rintro e1 wk ⟨rfl, hb1⟩
      replace hk := hk.step hb1
      clear hb1
      refine hK.out _ _ hk (fun _ => ?_)
      clear hK K
      try simp only [Act.put, List.setIfInBounds_toArray, List.set_cons_zero, List.set_cons_succ]
      refine wpAnyH_ready (rs := [17]) (by decide +kernel) (by simp) ?_
      refine AllReadyH.cons (o := { dst := some 40, op := Op.call { callee := Callee.value (Operand.func 47), args := #[Operand.tmp 31, Operand.tmp 32, Operand.tmp 35, Operand.tmp 37, Operand.tmp 38, Operand.tmp 39], argTypes := #[42, 3, 42, 3, 30, 3] }, type := 4, pos := "ref.go:30", after := #[{ on := 8, ground := Ground.data }, { on := 9, ground := Ground.data }, { on := 12, ground := Ground.data }, { on := 14, ground := Ground.data }, { on := 15, ground := Ground.data }, { on := 16, ground := Ground.data }, { on := 12, ground := Ground.chain }, { on := 7, ground := Ground.guard }], guard := some (7, true) }) rfl (fun K hK => ?_) AllReadyH.nil
      go_simp
      refine (HCK.out _ hk).mono ?_
      rintro e1 wk ⟨rfl, hb1⟩
      replace hk := hk.step hb1
      clear hb1
      refine hK.out _ _ hk (fun _ => ?_)
      clear hK K
      try simp only [Act.put, List.setIfInBounds_toArray, List.set_cons_zero, List.set_cons_succ]
      refine wpAnyH_take (i := 18) (oi := { dst := some 41, op := Op.pick (Operand.tmp 30) (Operand.tmp 40) (Operand.const (Value.bool false)), type := 4, pos := "ref.go:30", after := #[{ on := 7, ground := Ground.data }, { on := 17, ground := Ground.data }], guard := none }) (v := ?vrg7b14) rfl (by kernel_rfl) (by kernel_rfl) (by kernel_rfl) (fun _ _ _ h => h) (Or.inl ⟨by rfl, ?yrg7b14⟩) hk ?rrg7b14
      case yrg7b14 => (intro w hSw; (try dsimp only at hSw); go_simp; first | done | with_reducible rfl)
      simp only [Act.put, List.setIfInBounds_toArray, List.set_cons_zero, List.set_cons_succ]
      refine wpAnyH_take (i := 19) (oi := { dst := some 10, op := Op.assign (Operand.tmp 41), type := 4, pos := "ref.go:30", after := #[{ on := 18, ground := Ground.data }, { on := 17, ground := Ground.chain }, { on := 0, ground := Ground.phase }, { on := 1, ground := Ground.phase }, { on := 2, ground := Ground.phase }, { on := 3, ground := Ground.phase }, { on := 4, ground := Ground.phase }, { on := 5, ground := Ground.phase }, { on := 6, ground := Ground.phase }, { on := 7, ground := Ground.phase }, { on := 8, ground := Ground.phase }, { on := 9, ground := Ground.phase }, { on := 10, ground := Ground.phase }, { on := 11, ground := Ground.phase }, { on := 12, ground := Ground.phase }, { on := 13, ground := Ground.phase }, { on := 14, ground := Ground.phase }, { on := 15, ground := Ground.phase }, { on := 16, ground := Ground.phase }, { on := 17, ground := Ground.phase }, { on := 18, ground := Ground.phase }], guard := none }) (v := ?vrg7b15) rfl (by kernel_rfl) (by kernel_rfl) (by kernel_rfl) (fun _ _ _ h => h) (Or.inl ⟨by rfl, ?yrg7b15⟩) hk ?rrg7b15
      case yrg7b15 => (intro w hSw; (try dsimp only at hSw); go_simp; first | done | with_reducible rfl)
      simp only [Act.put, List.setIfInBounds_toArray, List.set_cons_zero, List.set_cons_succ]
      refine wpAnyH_done (by decide +kernel) ?_ _
      have hlow := hk.low
      clear hk hcmp hdO hcut
      go_wp2
      go_ret
      exact ⟨ret_bool HMU2.out, hlow⟩
  · have HNO : Bx (false = mustG T mi old P x) := ⟨by unfold mustG; rw [decide_eq_false (fun h => hin ⟨h.1, by have := h.2; omega⟩)]; rfl⟩
    clear hT hP htab hf hTL hvo
    have HB0 : Bx _ := ⟨hb0⟩
    clear hb0
    by_cases h0 : mi < 1
    · have g1 : decide (mi < 1) = true := by simpa using h0
      clear hin
      go_enter Tryd.func22, Tryd.ntmps22
      go_wp2
      go_ret
      exact ⟨ret_bool HNO.out, HB0.out⟩
    · have g1 : decide (mi < 1) = false := by simpa using h0
      have g2 : decide (mi > (len : Int)) = true := by simp; omega
      clear hin
      go_enter Tryd.func22, Tryd.ntmps22
      go_wp2
      go_ret
      exact ⟨ret_bool HNO.out, HB0.out⟩
end Go.Proofs.YtfkloilbjfleeaaDoor
