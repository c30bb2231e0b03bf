/- Up on two ways at once: the first clash on them. -/
import Derived.Test.YtfkloilbjfleeaaDoorClimb
namespace Go.Proofs.YtfkloilbjfleeaaDoor
open Go.RowKit
set_option linter.unusedVariables false

set_option maxRecDepth 100000 in
set_option maxHeartbeats 2000000 in
theorem climb_any (n i k m : Nat) (ao sa : Option Addr) (co sc : Nat) (X0 Y0 A B : List Int) (ps qs : List (List Int)) (x : Int) (w : World) (hn : 1 ≤ n) (hn63 : n ≤ 9223372036854775807) (hi : i < n) (hk : k ≤ (stepsL n i).length) (hm : m = 1 + k)
    (hO : Dgs w ao m co (X0 :: ps)) (hS : Dgs w sa m sc (Y0 :: qs)) (htab : Tab w) (hc : climbL x ((stepsL n i).take k).reverse ps qs X0 Y0 = some (A, B)) :
    Calls Tryd.prog 40 #[.int .i64 n, .int .i64 i, .slice ao m co, .slice sa m sc, .int .i64 x] w fun e w' => ∃ a c b d, e = .returned (.tuple #[.agg #[.slice a 65 c, .slice b 65 d], .bool true]) ∧ Bts w' a 65 c A ∧ Bts w' b 65 d B ∧ Below w.heap.size w w' := by
  have hbits := stepsL_bits 63 n i (by omega)
  have hk63 : k ≤ 63 := by omega
  have hX0 : Dg X0 := hO.dig X0 (by simp)
  have hY0 : Dg Y0 := hS.dig Y0 (by simp)
  have hps : Dgl ps := fun d hd => hO.dig d (by simp [hd])
  have hqs : Dgl qs := fun d hd => hS.dig d (by simp [hd])
  have hpl : ps.length = k := by have := hO.len_eq; simp at this; omega
  have hql : qs.length = k := by have := hS.len_eq; simp at this; omega
  have hco := hO.cap_le
  have hsc := hS.cap_le
  have hoc := hO.le_cap
  have hscc := hS.le_cap
  unfold maxLen at hco hsc
  obtain ⟨ob, oo, rfl, holt, hrO⟩ := hO.spot (by omega)
  obtain ⟨sb, so, rfl, hslt, hrS⟩ := hS.spot (by omega)
  have hrX := hrO 0 (by omega)
  have hrY := hrS 0 (by omega)
  have e0 : oo + 32 * 0 = oo := rfl
  have e0' : so + 32 * 0 = so := rfl
  rw [e0] at hrX
  rw [e0'] at hrY
  have hdX : (Tryd.prog.info? 42).map (·.size) = some (bv X0).length := by rw [bv_length, hX0.1]; exact dig_info
  have hdY : (Tryd.prog.info? 42).map (·.size) = some (bv Y0).length := by rw [bv_length, hY0.1]; exact dig_info
  have hrX : w.rangeAt ob oo (bv X0) := hrX
  have hrY : w.rangeAt sb so (bv Y0) := hrY
  have HSX : Bx ((bv X0).toArray.size = 32) := ⟨by rw [List.size_toArray, bv_length, hX0.1]⟩
  have HSY : Bx ((bv Y0).toArray.size = 32) := ⟨by rw [List.size_toArray, bv_length, hY0.1]⟩
  have HIX : Bx ((Tryd.prog.info? 42).map (·.size) = some (bv X0).toArray.size) := ⟨by rw [HSX.out]; exact dig_info⟩
  have HIY : Bx ((Tryd.prog.info? 42).map (·.size) = some (bv Y0).toArray.size) := ⟨by rw [HSY.out]; exact dig_info⟩
  have HOX : Bx ((bv X0).toArray.all (·.oneCell') = true) := ⟨all_oneCell_toArray (bv_one _)⟩
  have HOY : Bx ((bv Y0).toArray.all (·.oneCell') = true) := ⟨all_oneCell_toArray (bv_one _)⟩
  have HRO : Bx (∀ s, s < k → w.rangeAt ob (oo + (s + 1) * 32) (bv (ps.getD s []))) := ⟨fun s hs => by
    have h := hrO (s + 1) (by omega)
    rw [Nat.mul_comm 32 (s + 1)] at h; exact h⟩
  have HRS : Bx (∀ s, s < k → w.rangeAt sb (so + (s + 1) * 32) (bv (qs.getD s []))) := ⟨fun s hs => by
    have h := hrS (s + 1) (by omega)
    rw [Nat.mul_comm 32 (s + 1)] at h; exact h⟩
  have HSID : Bx (∀ W, Calls Tryd.prog 63 #[.int .i64 n, .int .i64 i, .int .i64 k] W fun e w' => e = .returned (.slice (some ⟨W.heap.size, 0, none⟩) k k) ∧ w'.ownsRow W.heap.size 4 1 (.slice (some ⟨W.heap.size, 0, none⟩) k k) k (bb ((stepsL n i).take k).reverse) ∧ Below W.heap.size W w') := ⟨fun W => sides_any n i k W hn hn63 hi hk⟩
  obtain ⟨SL, hSL⟩ : ∃ SL, SL = ((stepsL n i).take k).reverse := ⟨_, rfl⟩
  have hSl : SL.length = k := by rw [hSL, List.length_reverse, List.length_take]; omega
  rw [← hSL] at HSID hc
  have HC : Bx (climbL x SL ps qs X0 Y0 = some (A, B)) := ⟨hc⟩
  have hmi : (m : Int) - 1 = (k : Int) := by omega
  have hm0 : 0 < m := by omega
  have HM : Hid (m = 1 + k) := hm
  have HN63 : Hid (n ≤ 9223372036854775807) := hn63
  have HPL : Bx (ps.length = k) := ⟨hpl⟩
  have HQL : Bx (qs.length = k) := ⟨hql⟩
  have HSLn : Bx (SL.length = k) := ⟨hSl⟩
  clear hO hS hrO hrS hSL hc hbits hm e0 e0' hk hpl hql hSl
  have hC0 : C0 w.heap.size w (w.alloc (.cells #[.slice none 0 0, .slice none 0 0] 25)) := ⟨(Below.refl _ _).alloc (Nat.le_refl _) _, Nat.le_refl _, by simp, _, rfl, heap_alloc_new _ _⟩
  go_enter Tryd.func40, Tryd.ntmps40
  go_upto_region 1 with fail
  generalize w.alloc (.cells #[.slice none 0 0, .slice none 0 0] 25) = w0 at hC0 ⊢
  obtain ⟨R, hR⟩ : ∃ R, R = w.heap.size := ⟨_, rfl⟩
  rw [← hR] at hC0 ⊢
  clear hR
  go_cut [12, 13] from 19 to 24 (fun s12 s13 wx => ∃ g h, s12 = .pointer (some ⟨g, 0, none⟩) ∧ s13 = .pointer (some ⟨h, 0, none⟩) ∧ g ≠ h ∧ R + 1 ≤ g ∧ R + 1 ≤ h ∧ C0 R w wx ∧ wx.heap[g]? = some (.cells (bv X0).toArray 42 (0, 0)) ∧ wx.heap[h]? = some (.cells (bv Y0).toArray 42 (0, 0)))
  case first =>
    have hk : C0 R w w0.drew := ⟨below_drewN hC0.low 1, hC0.ge, hC0.size, hC0.res⟩
    clear hC0
    refine wp_region_held_drew (S := fun W => C0 R w W) (by kernel_rfl) hk (fun _ => ?_)
    generalize w0.drew = wk at hk ⊢
    refine wpAnyH_take (i := 0) (oi := { dst := some 19, op := Op.move (Operand.tmp 2), type := 30, pos := "clash.go:76", after := #[], guard := none }) (v := ?vcl11) rfl (by kernel_rfl) (by kernel_rfl) (by kernel_rfl) (fun _ _ _ h => h) (Or.inl ⟨by rfl, ?ycl11⟩) hk ?rcl11
    case ycl11 => (intro w hSw; (try dsimp only at hSw); go_simp; first | done | with_reducible rfl)
    simp only [Act.put, List.setIfInBounds_toArray, List.set_cons_zero, List.set_cons_succ]
    refine wpAnyH_take (i := 1) (oi := { dst := some 20, op := Op.indexAddr 30 (Operand.tmp 19) (Operand.const (Value.int IntKind.i64 0)), type := 0, pos := "clash.go:76", after := #[{ on := 0, ground := Ground.data }], guard := none }) (v := ?vcl12) rfl (by kernel_rfl) (by kernel_rfl) (by kernel_rfl) (fun _ _ _ h => h) (Or.inl ⟨by rfl, ?ycl12⟩) hk ?rcl12
    case ycl12 => (intro w hSw; (try dsimp only at hSw); go_simp; first | done | with_reducible rfl)
    simp only [Act.put, List.setIfInBounds_toArray, List.set_cons_zero, List.set_cons_succ]
    refine wpAnyH_take (i := 2) (oi := { dst := some 21, op := Op.load 42 (Operand.tmp 20), type := 42, pos := "clash.go:76", after := #[{ on := 1, ground := Ground.data }], guard := none }) (v := .agg (bv X0).toArray) rfl (by kernel_rfl) (by kernel_rfl) (by kernel_rfl) (fun _ _ _ h => h) (yieldsIf_load_mid (by rfl) 42 (.tmp 20) rfl ob oo rfl (bv X0) _ (fun W h => range_below hrX h.low holt) Tryd.underlying42 rfl hdX) hk ?_
    simp only [Act.put, List.setIfInBounds_toArray, List.set_cons_zero, List.set_cons_succ]
    refine wpAnyH_take (i := 3) (oi := { dst := some 22, op := Op.move (Operand.tmp 3), type := 30, pos := "clash.go:76", after := #[{ on := 8, ground := Ground.gcOnly Departure.lateStores }], guard := none }) (v := ?vcl13) rfl (by kernel_rfl) (by kernel_rfl) (by kernel_rfl) (fun _ _ _ h => h) (Or.inl ⟨by rfl, ?ycl13⟩) hk ?rcl13
    case ycl13 => (intro w hSw; (try dsimp only at hSw); go_simp; first | done | with_reducible rfl)
    simp only [Act.put, List.setIfInBounds_toArray, List.set_cons_zero, List.set_cons_succ]
    refine wpAnyH_take (i := 4) (oi := { dst := some 23, op := Op.indexAddr 30 (Operand.tmp 22) (Operand.const (Value.int IntKind.i64 0)), type := 0, pos := "clash.go:76", after := #[{ on := 3, ground := Ground.data }, { on := 8, ground := Ground.gcOnly Departure.lateStores }], guard := none }) (v := ?vcl14) rfl (by kernel_rfl) (by kernel_rfl) (by kernel_rfl) (fun _ _ _ h => h) (Or.inl ⟨by rfl, ?ycl14⟩) hk ?rcl14
    case ycl14 => (intro w hSw; (try dsimp only at hSw); go_simp; first | done | with_reducible rfl)
    simp only [Act.put, List.setIfInBounds_toArray, List.set_cons_zero, List.set_cons_succ]
    refine wpAnyH_take (i := 5) (oi := { dst := some 24, op := Op.load 42 (Operand.tmp 23), type := 42, pos := "clash.go:76", after := #[{ on := 4, ground := Ground.data }, { on := 8, ground := Ground.gcOnly Departure.lateStores }], guard := none }) (v := .agg (bv Y0).toArray) rfl (by kernel_rfl) (by kernel_rfl) (by kernel_rfl) (fun _ _ _ h => h) (yieldsIf_load_mid (by rfl) 42 (.tmp 23) rfl sb so rfl (bv Y0) _ (fun W h => range_below hrY h.low hslt) Tryd.underlying42 rfl hdY) hk ?_
    simp only [Act.put, List.setIfInBounds_toArray, List.set_cons_zero, List.set_cons_succ]
    refine wpAnyH_ready (rs := [6, 7]) (by decide +kernel) (by simp) ?_
    refine (AllReadyH.cons (o := { dst := some 12, op := Op.alloc 42, type := 0, pos := "clash.go:76", after := #[], guard := none }) rfl (fun K hK => ?_) (AllReadyH.cons (o := { dst := some 13, op := Op.alloc 42, type := 0, pos := "clash.go:76", after := #[], guard := none }) rfl (fun K hK => ?_) AllReadyH.nil))
    · rw [if_pos (by rfl)]
      refine wp_alloc_of 42 32 rfl dig_zero ?_
      intro cs hcs
      have hg := TR.new (T := 42) (N0 := R + 1) (wr := wk) hk.size hcs
      have hbA : Below wk.heap.size wk (wk.alloc (.cells cs 42)) := (Below.refl _ _).alloc (Nat.le_refl _) _
      try have hgh := Nat.ne_of_gt hh.lt
      replace hk := hk.step hbA
      try replace hh := hh.step hbA
      clear hbA hcs
      first | (generalize wk.heap.size = g at hg hgh ⊢) | (generalize wk.heap.size = g at hg ⊢)
      first | (generalize wk.alloc (.cells cs 42) = wk at hg hh hk ⊢) | (generalize wk.alloc (.cells cs 42) = wk at hg hk ⊢)
      simp only [Act.put, List.setIfInBounds_toArray, List.set_cons_zero, List.set_cons_succ]
      refine hK.out _ _ hk (fun _ => ?_)
      clear hK K
      try simp only [Act.put, List.setIfInBounds_toArray, List.set_cons_zero, List.set_cons_succ]
      refine wpAnyH_ready (rs := [7]) (by decide +kernel) (by simp) ?_
      refine AllReadyH.cons (o := { dst := some 13, op := Op.alloc 42, type := 0, pos := "clash.go:76", after := #[], guard := none }) rfl (fun K hK => ?_) AllReadyH.nil
      rw [if_pos (by rfl)]
      refine wp_alloc_of 42 32 rfl dig_zero ?_
      intro cs hcs
      have hh := TR.new (T := 42) (N0 := R + 1) (wr := wk) hk.size hcs
      have hbA : Below wk.heap.size wk (wk.alloc (.cells cs 42)) := (Below.refl _ _).alloc (Nat.le_refl _) _
      try have hgh := Nat.ne_of_lt hg.lt
      replace hk := hk.step hbA
      try replace hg := hg.step hbA
      clear hbA hcs
      first | (generalize wk.heap.size = h at hh hgh ⊢) | (generalize wk.heap.size = h at hh ⊢)
      first | (generalize wk.alloc (.cells cs 42) = wk at hh hg hk ⊢) | (generalize wk.alloc (.cells cs 42) = wk at hh hk ⊢)
      simp only [Act.put, List.setIfInBounds_toArray, List.set_cons_zero, List.set_cons_succ]
      refine hK.out _ _ hk (fun _ => ?_)
      clear hK K
      try simp only [Act.put, List.setIfInBounds_toArray, List.set_cons_zero, List.set_cons_succ]
      refine wpAnyH_ready (rs := [8]) (by decide +kernel) (by simp) ?_
      refine AllReadyH.cons (o := { dst := none, op := Op.store 42 (Operand.tmp 12) (Operand.tmp 21), type := 0, pos := "clash.go:76", after := #[{ on := 6, ground := Ground.data }, { on := 2, ground := Ground.data }, { on := 0, ground := Ground.phase }, { on := 1, ground := Ground.phase }, { on := 2, ground := Ground.phase }, { on := 3, ground := Ground.textOnly Departure.lateStores }, { on := 4, ground := Ground.textOnly Departure.lateStores }, { on := 5, ground := Ground.textOnly Departure.lateStores }, { on := 6, ground := Ground.phase }, { on := 7, ground := Ground.phase }], guard := none }) rfl (fun K hK => ?_) AllReadyH.nil
      rw [if_pos (by rfl)]
      refine wp_store_mid 42 (.tmp 12) (.tmp 21) rfl g 0 (bv X0).toArray rfl rfl ?htcl17 HIX.out HOX.out ?_
      case htcl17 => exact hg.there HSX.out
      have hrg := hg.put (D := (bv X0).toArray) HSX.out
      have hgge := hg.ge
      replace hk := hk.but hgge (bv X0).toArray.toList
      replace hh := hh.but (Ne.symm hgh) (bv X0).toArray.toList
      clear hg
      generalize wk.setCells g 0 (bv X0).toArray.toList = wk at hk hrg hh ⊢
      simp only [Act.put]
      refine hK.out _ _ hk (fun _ => ?_)
      clear hK K
      try simp only [Act.put, List.setIfInBounds_toArray, List.set_cons_zero, List.set_cons_succ]
      refine wpAnyH_ready (rs := [9]) (by decide +kernel) (by simp) ?_
      refine AllReadyH.cons (o := { dst := none, op := Op.store 42 (Operand.tmp 13) (Operand.tmp 24), type := 0, pos := "clash.go:76", after := #[{ on := 7, ground := Ground.data }, { on := 5, ground := Ground.data }, { on := 8, ground := Ground.chain }, { on := 0, ground := Ground.phase }, { on := 1, ground := Ground.phase }, { on := 2, ground := Ground.phase }, { on := 3, ground := Ground.phase }, { on := 4, ground := Ground.phase }, { on := 5, ground := Ground.phase }, { on := 6, ground := Ground.phase }, { on := 7, ground := Ground.phase }, { on := 8, ground := Ground.phase }], guard := none }) rfl (fun K hK => ?_) AllReadyH.nil
      rw [if_pos (by rfl)]
      refine wp_store_mid 42 (.tmp 13) (.tmp 24) rfl h 0 (bv Y0).toArray rfl rfl ?htcl18 HIY.out HOY.out ?_
      case htcl18 => exact hh.there HSY.out
      have hrh := hh.put (D := (bv Y0).toArray) HSY.out
      have hhge := hh.ge
      replace hk := hk.but hhge (bv Y0).toArray.toList
      replace hrg := row_but hrg hgh (bv Y0).toArray.toList
      clear hh
      generalize wk.setCells h 0 (bv Y0).toArray.toList = wk at hk hrg hrh ⊢
      simp only [Act.put]
      refine hK.out _ _ hk (fun _ => ?_)
      clear hK K
      try simp only [Act.put, List.setIfInBounds_toArray, List.set_cons_zero, List.set_cons_succ]
      refine wpAnyH_done (by decide +kernel) ?_ _
      go_wp2_with fail
      go_meet
      case rel => exact ⟨g, h, rfl, rfl, hgh, hgge, hhge, hk, hrg, hrh⟩
    · rw [if_pos (by rfl)]
      refine wp_alloc_of 42 32 rfl dig_zero ?_
      intro cs hcs
      have hh := TR.new (T := 42) (N0 := R + 1) (wr := wk) hk.size hcs
      have hbA : Below wk.heap.size wk (wk.alloc (.cells cs 42)) := (Below.refl _ _).alloc (Nat.le_refl _) _
      try have hgh := Nat.ne_of_lt hg.lt
      replace hk := hk.step hbA
      try replace hg := hg.step hbA
      clear hbA hcs
      first | (generalize wk.heap.size = h at hh hgh ⊢) | (generalize wk.heap.size = h at hh ⊢)
      first | (generalize wk.alloc (.cells cs 42) = wk at hh hg hk ⊢) | (generalize wk.alloc (.cells cs 42) = wk at hh hk ⊢)
      simp only [Act.put, List.setIfInBounds_toArray, List.set_cons_zero, List.set_cons_succ]
      refine hK.out _ _ hk (fun _ => ?_)
      clear hK K
      try simp only [Act.put, List.setIfInBounds_toArray, List.set_cons_zero, List.set_cons_succ]
      refine wpAnyH_ready (rs := [6]) (by decide +kernel) (by simp) ?_
      refine AllReadyH.cons (o := { dst := some 12, op := Op.alloc 42, type := 0, pos := "clash.go:76", after := #[], guard := none }) rfl (fun K hK => ?_) AllReadyH.nil
      rw [if_pos (by rfl)]
      refine wp_alloc_of 42 32 rfl dig_zero ?_
      intro cs hcs
      have hg := TR.new (T := 42) (N0 := R + 1) (wr := wk) hk.size hcs
      have hbA : Below wk.heap.size wk (wk.alloc (.cells cs 42)) := (Below.refl _ _).alloc (Nat.le_refl _) _
      try have hgh := Nat.ne_of_gt hh.lt
      replace hk := hk.step hbA
      try replace hh := hh.step hbA
      clear hbA hcs
      first | (generalize wk.heap.size = g at hg hgh ⊢) | (generalize wk.heap.size = g at hg ⊢)
      first | (generalize wk.alloc (.cells cs 42) = wk at hg hh hk ⊢) | (generalize wk.alloc (.cells cs 42) = wk at hg hk ⊢)
      simp only [Act.put, List.setIfInBounds_toArray, List.set_cons_zero, List.set_cons_succ]
      refine hK.out _ _ hk (fun _ => ?_)
      clear hK K
      try simp only [Act.put, List.setIfInBounds_toArray, List.set_cons_zero, List.set_cons_succ]
      refine wpAnyH_ready (rs := [8]) (by decide +kernel) (by simp) ?_
      refine AllReadyH.cons (o := { dst := none, op := Op.store 42 (Operand.tmp 12) (Operand.tmp 21), type := 0, pos := "clash.go:76", after := #[{ on := 6, ground := Ground.data }, { on := 2, ground := Ground.data }, { on := 0, ground := Ground.phase }, { on := 1, ground := Ground.phase }, { on := 2, ground := Ground.phase }, { on := 3, ground := Ground.textOnly Departure.lateStores }, { on := 4, ground := Ground.textOnly Departure.lateStores }, { on := 5, ground := Ground.textOnly Departure.lateStores }, { on := 6, ground := Ground.phase }, { on := 7, ground := Ground.phase }], guard := none }) rfl (fun K hK => ?_) AllReadyH.nil
      rw [if_pos (by rfl)]
      refine wp_store_mid 42 (.tmp 12) (.tmp 21) rfl g 0 (bv X0).toArray rfl rfl ?htcl111 HIX.out HOX.out ?_
      case htcl111 => exact hg.there HSX.out
      have hrg := hg.put (D := (bv X0).toArray) HSX.out
      have hgge := hg.ge
      replace hk := hk.but hgge (bv X0).toArray.toList
      replace hh := hh.but (Ne.symm hgh) (bv X0).toArray.toList
      clear hg
      generalize wk.setCells g 0 (bv X0).toArray.toList = wk at hk hrg hh ⊢
      simp only [Act.put]
      refine hK.out _ _ hk (fun _ => ?_)
      clear hK K
      try simp only [Act.put, List.setIfInBounds_toArray, List.set_cons_zero, List.set_cons_succ]
      refine wpAnyH_ready (rs := [9]) (by decide +kernel) (by simp) ?_
      refine AllReadyH.cons (o := { dst := none, op := Op.store 42 (Operand.tmp 13) (Operand.tmp 24), type := 0, pos := "clash.go:76", after := #[{ on := 7, ground := Ground.data }, { on := 5, ground := Ground.data }, { on := 8, ground := Ground.chain }, { on := 0, ground := Ground.phase }, { on := 1, ground := Ground.phase }, { on := 2, ground := Ground.phase }, { on := 3, ground := Ground.phase }, { on := 4, ground := Ground.phase }, { on := 5, ground := Ground.phase }, { on := 6, ground := Ground.phase }, { on := 7, ground := Ground.phase }, { on := 8, ground := Ground.phase }], guard := none }) rfl (fun K hK => ?_) AllReadyH.nil
      rw [if_pos (by rfl)]
      refine wp_store_mid 42 (.tmp 13) (.tmp 24) rfl h 0 (bv Y0).toArray rfl rfl ?htcl112 HIY.out HOY.out ?_
      case htcl112 => exact hh.there HSY.out
      have hrh := hh.put (D := (bv Y0).toArray) HSY.out
      have hhge := hh.ge
      replace hk := hk.but hhge (bv Y0).toArray.toList
      replace hrg := row_but hrg hgh (bv Y0).toArray.toList
      clear hh
      generalize wk.setCells h 0 (bv Y0).toArray.toList = wk at hk hrg hrh ⊢
      simp only [Act.put]
      refine hK.out _ _ hk (fun _ => ?_)
      clear hK K
      try simp only [Act.put, List.setIfInBounds_toArray, List.set_cons_zero, List.set_cons_succ]
      refine wpAnyH_done (by decide +kernel) ?_ _
      go_wp2_with fail
      go_meet
      case rel => exact ⟨g, h, rfl, rfl, hgh, hgge, hhge, hk, hrg, hrh⟩
  case rest =>
    clear hC0 hrX hrY hdX hdY HSX HSY HIX HIY HOX HOY
    obtain ⟨Vx, Vy, rfl, rfl, hne, hVx, hVy, hC, hvx, hvy⟩ := hcut
    go_wp2_with fail
    refine (HSID.out _).mono ?_
    rintro e w2 ⟨rfl, hsid, hb2⟩
    have hC2 := hC.step hb2
    have hcb0 : CB w2.heap.size R Vx Vy wc.heap.size k SL X0 Y0 w w2 := by
      have l1 := (Array.getElem?_eq_some_iff.1 hvx).1
      have l2 := (Array.getElem?_eq_some_iff.1 hvy).1
      have hGlt : wc.heap.size < w2.heap.size := by
        rcases hsid.2 with ⟨h1, _⟩ | ⟨g', c', cur, hv, _, hh, _⟩
        · cases h1
        · cases hv; exact (Array.getElem?_eq_some_iff.1 hh).1
      refine ⟨hC2.low, Nat.le_refl _, ⟨hC.ge, by omega, by omega, hne, l1, l2, hGlt⟩, hC2.res, row_step hvx hb2, row_step hvy hb2, fun j hj => ?_⟩
      have hcj := hsid.cellAt j (by omega)
      have hjl : j < SL.length := by rw [HSLn.out]; exact hj
      rw [hcj]
      unfold bb
      rw [List.getElem?_map, List.getD_eq_getElem?_getD, List.getElem?_eq_getElem hjl]; rfl
    generalize wc.heap.size = G at hcb0 hsid ⊢
    obtain ⟨N0, hN0⟩ : ∃ N0, N0 = w2.heap.size := ⟨_, rfl⟩
    rw [← hN0] at hcb0
    clear hsid hb2 hC hC2 hvx hvy hne hVx hVy HSID hN0
    go_wp2
    go_loopw [32] (fun vs wr => ∃ (s : Nat) (X Y : List Int), s ≤ k ∧ vs = .int .i64 s ∧ Dg X ∧ Dg Y ∧ climbL x (SL.drop s) (ps.drop s) (qs.drop s) X Y = some (A, B) ∧ CB N0 R Vx Vy G k SL X Y w wr) (fun vs _ => k - (intOf vs).toNat)
    case atStart => exact ⟨0, X0, Y0, Nat.zero_le _, rfl, hX0, hY0, HC.out, hcb0⟩
    case round =>
      clear hcb0 hX0 hY0 HC
      obtain ⟨s, X, Y, hsk, rfl, hX, hY, hcl, hcb⟩ := hrel
      by_cases hlt : s < k
      · have hps' : s < ps.length := by rw [HPL.out]; exact hlt
        have hqs' : s < qs.length := by rw [HQL.out]; exact hlt
        have hSL' : s < SL.length := by rw [HSLn.out]; exact hlt
        have hp := hps.getD s hps'
        have hq := hqs.getD s hqs'
        have hrp := HRO.out s hlt
        have hrq := HRS.out s hlt
        have hsd := hcb.sid s hlt
        have HCL : Bx (climbL x (SL.getD s false :: SL.drop (s + 1)) (ps.getD s [] :: ps.drop (s + 1)) (qs.getD s [] :: qs.drop (s + 1)) X Y = some (A, B)) := ⟨by
          have d1 : SL.getD s false :: SL.drop (s + 1) = SL.drop s := by rw [List.drop_eq_getElem_cons hSL', List.getD_eq_getElem?_getD, List.getElem?_eq_getElem hSL']; rfl
          have d2 : ps.getD s [] :: ps.drop (s + 1) = ps.drop s := by rw [List.drop_eq_getElem_cons hps', List.getD_eq_getElem?_getD, List.getElem?_eq_getElem hps']; rfl
          have d3 : qs.getD s [] :: qs.drop (s + 1) = qs.drop s := by rw [List.drop_eq_getElem_cons hqs', List.getD_eq_getElem?_getD, List.getElem?_eq_getElem hqs']; rfl
          rw [d1, d2, d3]; exact hcl⟩
        generalize SL.getD s false = b at hsd HCL
        generalize ps.getD s [] = p at hp hrp HCL
        generalize qs.getD s [] = q at hq hrq HCL
        clear hcl hps' hqs' hSL'
        have hKXb := kids_byt (b := b) hX hp
        have hKYb := kids_byt (b := b) hY hq
        have hKXl := kids_len (b := b) hX hp
        have hKYl := kids_len (b := b) hY hq
        have HKX : Bx (∀ W, Calls Tryd.prog 64 #[.agg (bv X).toArray, .agg (bv p).toArray, .bool b] W fun e w' => e = .returned (.agg (bv (kids b X p)).toArray) ∧ Below W.heap.size W w') := ⟨fun W => children_any X p b W hX hp⟩
        have HKY : Bx (∀ W, Calls Tryd.prog 64 #[.agg (bv Y).toArray, .agg (bv q).toArray, .bool b] W fun e w' => e = .returned (.agg (bv (kids b Y q)).toArray) ∧ Below W.heap.size W w') := ⟨fun W => children_any Y q b W hY hq⟩
        obtain ⟨KX, hKX⟩ : ∃ KX, KX = kids b X p := ⟨_, rfl⟩
        obtain ⟨KY, hKY⟩ : ∃ KY, KY = kids b Y q := ⟨_, rfl⟩
        rw [← hKX] at HKX hKXb hKXl
        rw [← hKY] at HKY hKYb hKYl
        have HEX : Bx (KX = kids b X p) := ⟨hKX⟩
        have HEY : Bx (KY = kids b Y q) := ⟨hKY⟩
        clear hKX hKY
        have hdX : (Tryd.prog.info? 42).map (·.size) = some (bv X).length := by rw [bv_length, hX.1]; exact dig_info
        have hdY : (Tryd.prog.info? 42).map (·.size) = some (bv Y).length := by rw [bv_length, hY.1]; exact dig_info
        have hdp : (Tryd.prog.info? 42).map (·.size) = some (bv p).length := by rw [bv_length, hp.1]; exact dig_info
        have hdq : (Tryd.prog.info? 42).map (·.size) = some (bv q).length := by rw [bv_length, hq.1]; exact dig_info
        have HSX : Bx ((bv KX).toArray.size = 64) := ⟨by rw [List.size_toArray, bv_length, hKXl]⟩
        have HSY : Bx ((bv KY).toArray.size = 64) := ⟨by rw [List.size_toArray, bv_length, hKYl]⟩
        have HIX : Bx ((Tryd.prog.info? 86).map (·.size) = some (bv KX).toArray.size) := ⟨by rw [HSX.out]; exact two_info⟩
        have HIY : Bx ((Tryd.prog.info? 86).map (·.size) = some (bv KY).toArray.size) := ⟨by rw [HSY.out]; exact two_info⟩
        have HOX : Bx ((bv KX).toArray.all (·.oneCell') = true) := ⟨all_oneCell_toArray (bv_one _)⟩
        have HOY : Bx ((bv KY).toArray.all (·.oneCell') = true) := ⟨all_oneCell_toArray (bv_one _)⟩
        have hki : (s : Int) < (k : Int) := by omega
        have hsm : s + 1 < m := by have := HM.out; omega
        have hsmI : (s : Int) + 1 < (m : Int) := by omega
        have hs0 : (0 : Int) ≤ (s : Int) + 1 := by omega
        have hw1 : IntKind.i64.wrap ((s : Int) + 1) = (s : Int) + 1 := IntWalk.i64_in _ (by omega)
        go_upto_region 5 with fail
        go_cut [16, 17] from 37 to 52 (fun s16 s17 wx => ∃ g h, s16 = .pointer (some ⟨g, 0, none⟩) ∧ s17 = .pointer (some ⟨h, 0, none⟩) ∧ g ≠ h ∧ N0 ≤ g ∧ N0 ≤ h ∧ CD N0 R Vx Vy G k SL X Y g h KX KY w wx)
        case first =>
          have hk : CB N0 R Vx Vy G k SL X Y w wr.drew := hcb.drewN 1
          clear hcb hsd
          refine wp_region_held_drew (S := fun W => CB N0 R Vx Vy G k SL X Y w W) (by kernel_rfl) hk (fun _ => ?_)
          generalize wr.drew = wk at hk ⊢
          refine wpAnyH_take (i := 0) (oi := { dst := some 37, op := Op.load 42 (Operand.tmp 12), type := 42, pos := "clash.go:78", after := #[], guard := none }) (v := .agg (bv X).toArray) rfl (by kernel_rfl) (by kernel_rfl) (by kernel_rfl) (fun _ _ _ h => h) (yieldsIf_load_mid (by rfl) 42 (.tmp 12) rfl Vx 0 rfl (bv X) _ (fun W h => range_row h.vx) Tryd.underlying42 rfl hdX) hk ?_
          simp only [Act.put, List.setIfInBounds_toArray, List.set_cons_zero, List.set_cons_succ]
          refine wpAnyH_take (i := 1) (oi := { dst := some 38, op := Op.move (Operand.tmp 2), type := 30, pos := "clash.go:78", after := #[], guard := none }) (v := ?vcl51) rfl (by kernel_rfl) (by kernel_rfl) (by kernel_rfl) (fun _ _ _ h => h) (Or.inl ⟨by rfl, ?ycl51⟩) hk ?rcl51
          case ycl51 => (intro w hSw; (try dsimp only at hSw); go_simp; first | done | with_reducible rfl)
          simp only [Act.put, List.setIfInBounds_toArray, List.set_cons_zero, List.set_cons_succ]
          refine wpAnyH_take (i := 2) (oi := { dst := some 39, op := Op.move (Operand.tmp 14), type := 3, pos := "clash.go:78", after := #[], guard := none }) (v := ?vcl52) rfl (by kernel_rfl) (by kernel_rfl) (by kernel_rfl) (fun _ _ _ h => h) (Or.inl ⟨by rfl, ?ycl52⟩) hk ?rcl52
          case ycl52 => (intro w hSw; (try dsimp only at hSw); go_simp; first | done | with_reducible rfl)
          simp only [Act.put, List.setIfInBounds_toArray, List.set_cons_zero, List.set_cons_succ]
          refine wpAnyH_take (i := 3) (oi := { dst := some 40, op := Op.binOp BinOp.add 3 (Operand.tmp 39) (Operand.const (Value.int IntKind.i64 1)) 3, type := 3, pos := "clash.go:78", after := #[{ on := 2, ground := Ground.data }], guard := none }) (v := ?vcl53) rfl (by kernel_rfl) (by kernel_rfl) (by kernel_rfl) (fun _ _ _ h => h) (Or.inl ⟨by rfl, ?ycl53⟩) hk ?rcl53
          case ycl53 => (intro w hSw; (try dsimp only at hSw); go_simp; first | done | with_reducible rfl)
          simp only [Act.put, List.setIfInBounds_toArray, List.set_cons_zero, List.set_cons_succ]
          refine wpAnyH_take (i := 4) (oi := { dst := some 41, op := Op.indexAddr 30 (Operand.tmp 38) (Operand.tmp 40), type := 0, pos := "clash.go:78", after := #[{ on := 1, ground := Ground.data }, { on := 3, ground := Ground.data }], guard := none }) (v := ?vcl54) rfl (by kernel_rfl) (by kernel_rfl) (by kernel_rfl) (fun _ _ _ h => h) (Or.inl ⟨by rfl, ?ycl54⟩) hk ?rcl54
          case ycl54 => (intro w hSw; (try dsimp only at hSw); go_simp; first | done | with_reducible rfl)
          simp only [Act.put, List.setIfInBounds_toArray, List.set_cons_zero, List.set_cons_succ]
          refine wpAnyH_take (i := 5) (oi := { dst := some 42, op := Op.load 42 (Operand.tmp 41), type := 42, pos := "clash.go:78", after := #[{ on := 4, ground := Ground.data }], guard := none }) (v := .agg (bv p).toArray) rfl (by kernel_rfl) (by kernel_rfl) (by kernel_rfl) (fun _ _ _ h => h) (yieldsIf_load_mid (by rfl) 42 (.tmp 41) rfl ob (oo + (s + 1) * 32) rfl (bv p) _ (fun W h => range_below hrp h.low holt) Tryd.underlying42 rfl hdp) hk ?_
          simp only [Act.put, List.setIfInBounds_toArray, List.set_cons_zero, List.set_cons_succ]
          refine wpAnyH_take (i := 6) (oi := { dst := some 43, op := Op.move (Operand.tmp 15), type := 4, pos := "clash.go:78", after := #[], guard := none }) (v := ?vcl55) rfl (by kernel_rfl) (by kernel_rfl) (by kernel_rfl) (fun _ _ _ h => h) (Or.inl ⟨by rfl, ?ycl55⟩) hk ?rcl55
          case ycl55 => (intro w hSw; (try dsimp only at hSw); go_simp; first | done | with_reducible rfl)
          simp only [Act.put, List.setIfInBounds_toArray, List.set_cons_zero, List.set_cons_succ]
          refine wpAnyH_take (i := 8) (oi := { dst := some 45, op := Op.load 42 (Operand.tmp 13), type := 42, pos := "clash.go:78", after := #[], guard := none }) (v := .agg (bv Y).toArray) rfl (by kernel_rfl) (by kernel_rfl) (by kernel_rfl) (fun _ _ _ h => h) (yieldsIf_load_mid (by rfl) 42 (.tmp 13) rfl Vy 0 rfl (bv Y) _ (fun W h => range_row h.vy) Tryd.underlying42 rfl hdY) hk ?_
          simp only [Act.put, List.setIfInBounds_toArray, List.set_cons_zero, List.set_cons_succ]
          refine wpAnyH_take (i := 9) (oi := { dst := some 46, op := Op.move (Operand.tmp 3), type := 30, pos := "clash.go:78", after := #[], guard := none }) (v := ?vcl56) rfl (by kernel_rfl) (by kernel_rfl) (by kernel_rfl) (fun _ _ _ h => h) (Or.inl ⟨by rfl, ?ycl56⟩) hk ?rcl56
          case ycl56 => (intro w hSw; (try dsimp only at hSw); go_simp; first | done | with_reducible rfl)
          simp only [Act.put, List.setIfInBounds_toArray, List.set_cons_zero, List.set_cons_succ]
          refine wpAnyH_take (i := 10) (oi := { dst := some 47, op := Op.move (Operand.tmp 14), type := 3, pos := "clash.go:78", after := #[], guard := none }) (v := ?vcl57) rfl (by kernel_rfl) (by kernel_rfl) (by kernel_rfl) (fun _ _ _ h => h) (Or.inl ⟨by rfl, ?ycl57⟩) hk ?rcl57
          case ycl57 => (intro w hSw; (try dsimp only at hSw); go_simp; first | done | with_reducible rfl)
          simp only [Act.put, List.setIfInBounds_toArray, List.set_cons_zero, List.set_cons_succ]
          refine wpAnyH_take (i := 11) (oi := { dst := some 48, op := Op.binOp BinOp.add 3 (Operand.tmp 47) (Operand.const (Value.int IntKind.i64 1)) 3, type := 3, pos := "clash.go:78", after := #[{ on := 10, ground := Ground.data }], guard := none }) (v := ?vcl58) rfl (by kernel_rfl) (by kernel_rfl) (by kernel_rfl) (fun _ _ _ h => h) (Or.inl ⟨by rfl, ?ycl58⟩) hk ?rcl58
          case ycl58 => (intro w hSw; (try dsimp only at hSw); go_simp; first | done | with_reducible rfl)
          simp only [Act.put, List.setIfInBounds_toArray, List.set_cons_zero, List.set_cons_succ]
          refine wpAnyH_take (i := 12) (oi := { dst := some 49, op := Op.indexAddr 30 (Operand.tmp 46) (Operand.tmp 48), type := 0, pos := "clash.go:78", after := #[{ on := 9, ground := Ground.data }, { on := 11, ground := Ground.data }], guard := none }) (v := ?vcl59) rfl (by kernel_rfl) (by kernel_rfl) (by kernel_rfl) (fun _ _ _ h => h) (Or.inl ⟨by rfl, ?ycl59⟩) hk ?rcl59
          case ycl59 => (intro w hSw; (try dsimp only at hSw); go_simp; first | done | with_reducible rfl)
          simp only [Act.put, List.setIfInBounds_toArray, List.set_cons_zero, List.set_cons_succ]
          refine wpAnyH_take (i := 13) (oi := { dst := some 50, op := Op.load 42 (Operand.tmp 49), type := 42, pos := "clash.go:78", after := #[{ on := 12, ground := Ground.data }], guard := none }) (v := .agg (bv q).toArray) rfl (by kernel_rfl) (by kernel_rfl) (by kernel_rfl) (fun _ _ _ h => h) (yieldsIf_load_mid (by rfl) 42 (.tmp 49) rfl sb (so + (s + 1) * 32) rfl (bv q) _ (fun W h => range_below hrq h.low hslt) Tryd.underlying42 rfl hdq) hk ?_
          simp only [Act.put, List.setIfInBounds_toArray, List.set_cons_zero, List.set_cons_succ]
          refine wpAnyH_take (i := 14) (oi := { dst := some 51, op := Op.move (Operand.tmp 15), type := 4, pos := "clash.go:78", after := #[], guard := none }) (v := ?vcl510) rfl (by kernel_rfl) (by kernel_rfl) (by kernel_rfl) (fun _ _ _ h => h) (Or.inl ⟨by rfl, ?ycl510⟩) hk ?rcl510
          case ycl510 => (intro w hSw; (try dsimp only at hSw); go_simp; first | done | with_reducible rfl)
          simp only [Act.put, List.setIfInBounds_toArray, List.set_cons_zero, List.set_cons_succ]
          refine wpAnyH_ready (rs := [7, 16, 17]) (by decide +kernel) (by simp) ?_
          refine (AllReadyH.cons (o := { dst := some 44, op := Op.call { callee := Callee.value (Operand.func 64), args := #[Operand.tmp 37, Operand.tmp 42, Operand.tmp 43], argTypes := #[42, 42, 4] }, type := 86, pos := "clash.go:78", after := #[{ on := 0, ground := Ground.data }, { on := 5, ground := Ground.data }, { on := 6, ground := Ground.data }], guard := none }) rfl (fun K hK => ?_) (AllReadyH.cons (o := { dst := some 16, op := Op.alloc 86, type := 0, pos := "clash.go:78", after := #[], guard := none }) rfl (fun K hK => ?_) (AllReadyH.cons (o := { dst := some 17, op := Op.alloc 86, type := 0, pos := "clash.go:78", after := #[], guard := none }) rfl (fun K hK => ?_) AllReadyH.nil)))
          · go_simp
            refine (HKX.out _).mono ?_
            rintro e1 wk ⟨rfl, hb1⟩
            replace hk := hk.step hb1
            try replace hg := hg.step hb1
            try replace hh := hh.step hb1
            clear hb1
            refine hK.out _ _ hk (fun _ => ?_)
            clear hK K
            try simp only [Act.put, List.setIfInBounds_toArray, List.set_cons_zero, List.set_cons_succ]
            refine wpAnyH_ready (rs := [15, 16, 17]) (by decide +kernel) (by simp) ?_
            refine (AllReadyH.cons (o := { dst := some 52, op := Op.call { callee := Callee.value (Operand.func 64), args := #[Operand.tmp 45, Operand.tmp 50, Operand.tmp 51], argTypes := #[42, 42, 4] }, type := 86, pos := "clash.go:78", after := #[{ on := 8, ground := Ground.data }, { on := 13, ground := Ground.data }, { on := 14, ground := Ground.data }, { on := 7, ground := Ground.chain }], guard := none }) rfl (fun K hK => ?_) (AllReadyH.cons (o := { dst := some 16, op := Op.alloc 86, type := 0, pos := "clash.go:78", after := #[], guard := none }) rfl (fun K hK => ?_) (AllReadyH.cons (o := { dst := some 17, op := Op.alloc 86, type := 0, pos := "clash.go:78", after := #[], guard := none }) rfl (fun K hK => ?_) AllReadyH.nil)))
            · go_simp
              refine (HKY.out _).mono ?_
              rintro e1 wk ⟨rfl, hb1⟩
              replace hk := hk.step hb1
              try replace hg := hg.step hb1
              try replace hh := hh.step hb1
              clear hb1
              refine hK.out _ _ hk (fun _ => ?_)
              clear hK K
              try simp only [Act.put, List.setIfInBounds_toArray, List.set_cons_zero, List.set_cons_succ]
              refine wpAnyH_ready (rs := [16, 17]) (by decide +kernel) (by simp) ?_
              refine (AllReadyH.cons (o := { dst := some 16, op := Op.alloc 86, type := 0, pos := "clash.go:78", after := #[], guard := none }) rfl (fun K hK => ?_) (AllReadyH.cons (o := { dst := some 17, op := Op.alloc 86, type := 0, pos := "clash.go:78", after := #[], guard := none }) rfl (fun K hK => ?_) AllReadyH.nil))
              · rw [if_pos (by rfl)]
                refine wp_alloc_of 86 64 rfl two_zero ?_
                intro cs hcs
                have hg := TR.new (T := 86) (N0 := N0) (wr := wk) hk.size hcs
                have hbA : Below wk.heap.size wk (wk.alloc (.cells cs 86)) := (Below.refl _ _).alloc (Nat.le_refl _) _
                try have hgh := Nat.ne_of_gt hh.lt
                replace hk := hk.step hbA
                try replace hh := hh.step hbA
                clear hbA hcs
                first | (generalize wk.heap.size = g at hg hgh ⊢) | (generalize wk.heap.size = g at hg ⊢)
                first | (generalize wk.alloc (.cells cs 86) = wk at hg hh hk ⊢) | (generalize wk.alloc (.cells cs 86) = wk at hg hk ⊢)
                simp only [Act.put, List.setIfInBounds_toArray, List.set_cons_zero, List.set_cons_succ]
                refine hK.out _ _ hk (fun _ => ?_)
                clear hK K
                try simp only [Act.put, List.setIfInBounds_toArray, List.set_cons_zero, List.set_cons_succ]
                refine wpAnyH_ready (rs := [17]) (by decide +kernel) (by simp) ?_
                refine AllReadyH.cons (o := { dst := some 17, op := Op.alloc 86, type := 0, pos := "clash.go:78", after := #[], guard := none }) rfl (fun K hK => ?_) AllReadyH.nil
                rw [if_pos (by rfl)]
                refine wp_alloc_of 86 64 rfl two_zero ?_
                intro cs hcs
                have hh := TR.new (T := 86) (N0 := N0) (wr := wk) hk.size hcs
                have hbA : Below wk.heap.size wk (wk.alloc (.cells cs 86)) := (Below.refl _ _).alloc (Nat.le_refl _) _
                try have hgh := Nat.ne_of_lt hg.lt
                replace hk := hk.step hbA
                try replace hg := hg.step hbA
                clear hbA hcs
                first | (generalize wk.heap.size = h at hh hgh ⊢) | (generalize wk.heap.size = h at hh ⊢)
                first | (generalize wk.alloc (.cells cs 86) = wk at hh hg hk ⊢) | (generalize wk.alloc (.cells cs 86) = wk at hh hk ⊢)
                simp only [Act.put, List.setIfInBounds_toArray, List.set_cons_zero, List.set_cons_succ]
                refine hK.out _ _ hk (fun _ => ?_)
                clear hK K
                try simp only [Act.put, List.setIfInBounds_toArray, List.set_cons_zero, List.set_cons_succ]
                refine wpAnyH_ready (rs := [18]) (by decide +kernel) (by simp) ?_
                refine AllReadyH.cons (o := { dst := none, op := Op.store 86 (Operand.tmp 16) (Operand.tmp 44), type := 0, pos := "clash.go:78", after := #[{ on := 16, ground := Ground.data }, { on := 7, ground := Ground.data }, { on := 15, ground := Ground.chain }, { on := 0, ground := Ground.phase }, { on := 1, ground := Ground.phase }, { on := 2, ground := Ground.phase }, { on := 3, ground := Ground.phase }, { on := 4, ground := Ground.phase }, { on := 5, ground := Ground.phase }, { on := 6, ground := Ground.phase }, { on := 7, ground := Ground.phase }, { on := 8, ground := Ground.textOnly Departure.lateStores }, { on := 9, ground := Ground.textOnly Departure.lateStores }, { on := 10, ground := Ground.textOnly Departure.lateStores }, { on := 11, ground := Ground.textOnly Departure.lateStores }, { on := 12, ground := Ground.textOnly Departure.lateStores }, { on := 13, ground := Ground.textOnly Departure.lateStores }, { on := 14, ground := Ground.textOnly Departure.lateStores }, { on := 15, ground := Ground.textOnly Departure.lateStoresUnsure }, { on := 16, ground := Ground.phase }, { on := 17, ground := Ground.phase }], guard := none }) rfl (fun K hK => ?_) AllReadyH.nil
                rw [if_pos (by rfl)]
                refine wp_store_mid 86 (.tmp 16) (.tmp 44) rfl g 0 (bv KX).toArray rfl rfl ?htcl513 HIX.out HOX.out ?_
                case htcl513 => exact hg.there HSX.out
                have hrg := hg.put (D := (bv KX).toArray) HSX.out
                have hgge := hg.ge
                replace hk := hk.but hgge (bv KX).toArray.toList
                replace hh := hh.but (Ne.symm hgh) (bv KX).toArray.toList
                clear hg
                generalize wk.setCells g 0 (bv KX).toArray.toList = wk at hk hrg hh ⊢
                simp only [Act.put]
                refine hK.out _ _ hk (fun _ => ?_)
                clear hK K
                try simp only [Act.put, List.setIfInBounds_toArray, List.set_cons_zero, List.set_cons_succ]
                refine wpAnyH_ready (rs := [19]) (by decide +kernel) (by simp) ?_
                refine AllReadyH.cons (o := { dst := none, op := Op.store 86 (Operand.tmp 17) (Operand.tmp 52), type := 0, pos := "clash.go:78", after := #[{ on := 17, ground := Ground.data }, { on := 15, ground := Ground.data }, { on := 18, ground := Ground.chain }, { on := 0, ground := Ground.phase }, { on := 1, ground := Ground.phase }, { on := 2, ground := Ground.phase }, { on := 3, ground := Ground.phase }, { on := 4, ground := Ground.phase }, { on := 5, ground := Ground.phase }, { on := 6, ground := Ground.phase }, { on := 7, ground := Ground.phase }, { on := 8, ground := Ground.phase }, { on := 9, ground := Ground.phase }, { on := 10, ground := Ground.phase }, { on := 11, ground := Ground.phase }, { on := 12, ground := Ground.phase }, { on := 13, ground := Ground.phase }, { on := 14, ground := Ground.phase }, { on := 15, ground := Ground.phase }, { on := 16, ground := Ground.phase }, { on := 17, ground := Ground.phase }, { on := 18, ground := Ground.phase }], guard := none }) rfl (fun K hK => ?_) AllReadyH.nil
                rw [if_pos (by rfl)]
                refine wp_store_mid 86 (.tmp 17) (.tmp 52) rfl h 0 (bv KY).toArray rfl rfl ?htcl514 HIY.out HOY.out ?_
                case htcl514 => exact hh.there HSY.out
                have hrh := hh.put (D := (bv KY).toArray) HSY.out
                have hhge := hh.ge
                replace hk := hk.but hhge (bv KY).toArray.toList
                replace hrg := row_but hrg hgh (bv KY).toArray.toList
                clear hh
                generalize wk.setCells h 0 (bv KY).toArray.toList = wk at hk hrg hrh ⊢
                simp only [Act.put]
                refine hK.out _ _ hk (fun _ => ?_)
                clear hK K
                try simp only [Act.put, List.setIfInBounds_toArray, List.set_cons_zero, List.set_cons_succ]
                refine wpAnyH_done (by decide +kernel) ?_ _
                go_wp2_with fail
                go_meet
                case rel => exact ⟨g, h, rfl, rfl, hgh, hgge, hhge, ⟨hk, hrg, hrh⟩⟩
              · rw [if_pos (by rfl)]
                refine wp_alloc_of 86 64 rfl two_zero ?_
                intro cs hcs
                have hh := TR.new (T := 86) (N0 := N0) (wr := wk) hk.size hcs
                have hbA : Below wk.heap.size wk (wk.alloc (.cells cs 86)) := (Below.refl _ _).alloc (Nat.le_refl _) _
                try have hgh := Nat.ne_of_lt hg.lt
                replace hk := hk.step hbA
                try replace hg := hg.step hbA
                clear hbA hcs
                first | (generalize wk.heap.size = h at hh hgh ⊢) | (generalize wk.heap.size = h at hh ⊢)
                first | (generalize wk.alloc (.cells cs 86) = wk at hh hg hk ⊢) | (generalize wk.alloc (.cells cs 86) = wk at hh hk ⊢)
                simp only [Act.put, List.setIfInBounds_toArray, List.set_cons_zero, List.set_cons_succ]
                refine hK.out _ _ hk (fun _ => ?_)
                clear hK K
                try simp only [Act.put, List.setIfInBounds_toArray, List.set_cons_zero, List.set_cons_succ]
                refine wpAnyH_ready (rs := [16]) (by decide +kernel) (by simp) ?_
                refine AllReadyH.cons (o := { dst := some 16, op := Op.alloc 86, type := 0, pos := "clash.go:78", after := #[], guard := none }) rfl (fun K hK => ?_) AllReadyH.nil
                rw [if_pos (by rfl)]
                refine wp_alloc_of 86 64 rfl two_zero ?_
                intro cs hcs
                have hg := TR.new (T := 86) (N0 := N0) (wr := wk) hk.size hcs
                have hbA : Below wk.heap.size wk (wk.alloc (.cells cs 86)) := (Below.refl _ _).alloc (Nat.le_refl _) _
                try have hgh := Nat.ne_of_gt hh.lt
                replace hk := hk.step hbA
                try replace hh := hh.step hbA
                clear hbA hcs
                first | (generalize wk.heap.size = g at hg hgh ⊢) | (generalize wk.heap.size = g at hg ⊢)
                first | (generalize wk.alloc (.cells cs 86) = wk at hg hh hk ⊢) | (generalize wk.alloc (.cells cs 86) = wk at hg hk ⊢)
                simp only [Act.put, List.setIfInBounds_toArray, List.set_cons_zero, List.set_cons_succ]
                refine hK.out _ _ hk (fun _ => ?_)
                clear hK K
                try simp only [Act.put, List.setIfInBounds_toArray, List.set_cons_zero, List.set_cons_succ]
                refine wpAnyH_ready (rs := [18]) (by decide +kernel) (by simp) ?_
                refine AllReadyH.cons (o := { dst := none, op := Op.store 86 (Operand.tmp 16) (Operand.tmp 44), type := 0, pos := "clash.go:78", after := #[{ on := 16, ground := Ground.data }, { on := 7, ground := Ground.data }, { on := 15, ground := Ground.chain }, { on := 0, ground := Ground.phase }, { on := 1, ground := Ground.phase }, { on := 2, ground := Ground.phase }, { on := 3, ground := Ground.phase }, { on := 4, ground := Ground.phase }, { on := 5, ground := Ground.phase }, { on := 6, ground := Ground.phase }, { on := 7, ground := Ground.phase }, { on := 8, ground := Ground.textOnly Departure.lateStores }, { on := 9, ground := Ground.textOnly Departure.lateStores }, { on := 10, ground := Ground.textOnly Departure.lateStores }, { on := 11, ground := Ground.textOnly Departure.lateStores }, { on := 12, ground := Ground.textOnly Departure.lateStores }, { on := 13, ground := Ground.textOnly Departure.lateStores }, { on := 14, ground := Ground.textOnly Departure.lateStores }, { on := 15, ground := Ground.textOnly Departure.lateStoresUnsure }, { on := 16, ground := Ground.phase }, { on := 17, ground := Ground.phase }], guard := none }) rfl (fun K hK => ?_) AllReadyH.nil
                rw [if_pos (by rfl)]
                refine wp_store_mid 86 (.tmp 16) (.tmp 44) rfl g 0 (bv KX).toArray rfl rfl ?htcl517 HIX.out HOX.out ?_
                case htcl517 => exact hg.there HSX.out
                have hrg := hg.put (D := (bv KX).toArray) HSX.out
                have hgge := hg.ge
                replace hk := hk.but hgge (bv KX).toArray.toList
                replace hh := hh.but (Ne.symm hgh) (bv KX).toArray.toList
                clear hg
                generalize wk.setCells g 0 (bv KX).toArray.toList = wk at hk hrg hh ⊢
                simp only [Act.put]
                refine hK.out _ _ hk (fun _ => ?_)
                clear hK K
                try simp only [Act.put, List.setIfInBounds_toArray, List.set_cons_zero, List.set_cons_succ]
                refine wpAnyH_ready (rs := [19]) (by decide +kernel) (by simp) ?_
                refine AllReadyH.cons (o := { dst := none, op := Op.store 86 (Operand.tmp 17) (Operand.tmp 52), type := 0, pos := "clash.go:78", after := #[{ on := 17, ground := Ground.data }, { on := 15, ground := Ground.data }, { on := 18, ground := Ground.chain }, { on := 0, ground := Ground.phase }, { on := 1, ground := Ground.phase }, { on := 2, ground := Ground.phase }, { on := 3, ground := Ground.phase }, { on := 4, ground := Ground.phase }, { on := 5, ground := Ground.phase }, { on := 6, ground := Ground.phase }, { on := 7, ground := Ground.phase }, { on := 8, ground := Ground.phase }, { on := 9, ground := Ground.phase }, { on := 10, ground := Ground.phase }, { on := 11, ground := Ground.phase }, { on := 12, ground := Ground.phase }, { on := 13, ground := Ground.phase }, { on := 14, ground := Ground.phase }, { on := 15, ground := Ground.phase }, { on := 16, ground := Ground.phase }, { on := 17, ground := Ground.phase }, { on := 18, ground := Ground.phase }], guard := none }) rfl (fun K hK => ?_) AllReadyH.nil
                rw [if_pos (by rfl)]
                refine wp_store_mid 86 (.tmp 17) (.tmp 52) rfl h 0 (bv KY).toArray rfl rfl ?htcl518 HIY.out HOY.out ?_
                case htcl518 => exact hh.there HSY.out
                have hrh := hh.put (D := (bv KY).toArray) HSY.out
                have hhge := hh.ge
                replace hk := hk.but hhge (bv KY).toArray.toList
                replace hrg := row_but hrg hgh (bv KY).toArray.toList
                clear hh
                generalize wk.setCells h 0 (bv KY).toArray.toList = wk at hk hrg hrh ⊢
                simp only [Act.put]
                refine hK.out _ _ hk (fun _ => ?_)
                clear hK K
                try simp only [Act.put, List.setIfInBounds_toArray, List.set_cons_zero, List.set_cons_succ]
                refine wpAnyH_done (by decide +kernel) ?_ _
                go_wp2_with fail
                go_meet
                case rel => exact ⟨g, h, rfl, rfl, hgh, hgge, hhge, ⟨hk, hrg, hrh⟩⟩
            · rw [if_pos (by rfl)]
              refine wp_alloc_of 86 64 rfl two_zero ?_
              intro cs hcs
              have hg := TR.new (T := 86) (N0 := N0) (wr := wk) hk.size hcs
              have hbA : Below wk.heap.size wk (wk.alloc (.cells cs 86)) := (Below.refl _ _).alloc (Nat.le_refl _) _
              try have hgh := Nat.ne_of_gt hh.lt
              replace hk := hk.step hbA
              try replace hh := hh.step hbA
              clear hbA hcs
              first | (generalize wk.heap.size = g at hg hgh ⊢) | (generalize wk.heap.size = g at hg ⊢)
              first | (generalize wk.alloc (.cells cs 86) = wk at hg hh hk ⊢) | (generalize wk.alloc (.cells cs 86) = wk at hg hk ⊢)
              simp only [Act.put, List.setIfInBounds_toArray, List.set_cons_zero, List.set_cons_succ]
              refine hK.out _ _ hk (fun _ => ?_)
              clear hK K
              try simp only [Act.put, List.setIfInBounds_toArray, List.set_cons_zero, List.set_cons_succ]
              refine wpAnyH_ready (rs := [15, 17]) (by decide +kernel) (by simp) ?_
              refine (AllReadyH.cons (o := { dst := some 52, op := Op.call { callee := Callee.value (Operand.func 64), args := #[Operand.tmp 45, Operand.tmp 50, Operand.tmp 51], argTypes := #[42, 42, 4] }, type := 86, pos := "clash.go:78", after := #[{ on := 8, ground := Ground.data }, { on := 13, ground := Ground.data }, { on := 14, ground := Ground.data }, { on := 7, ground := Ground.chain }], guard := none }) rfl (fun K hK => ?_) (AllReadyH.cons (o := { dst := some 17, op := Op.alloc 86, type := 0, pos := "clash.go:78", after := #[], guard := none }) rfl (fun K hK => ?_) AllReadyH.nil))
              · go_simp
                refine (HKY.out _).mono ?_
                rintro e1 wk ⟨rfl, hb1⟩
                replace hk := hk.step hb1
                try replace hg := hg.step hb1
                try replace hh := hh.step hb1
                clear hb1
                refine hK.out _ _ hk (fun _ => ?_)
                clear hK K
                try simp only [Act.put, List.setIfInBounds_toArray, List.set_cons_zero, List.set_cons_succ]
                refine wpAnyH_ready (rs := [17]) (by decide +kernel) (by simp) ?_
                refine AllReadyH.cons (o := { dst := some 17, op := Op.alloc 86, type := 0, pos := "clash.go:78", after := #[], guard := none }) rfl (fun K hK => ?_) AllReadyH.nil
                rw [if_pos (by rfl)]
                refine wp_alloc_of 86 64 rfl two_zero ?_
                intro cs hcs
                have hh := TR.new (T := 86) (N0 := N0) (wr := wk) hk.size hcs
                have hbA : Below wk.heap.size wk (wk.alloc (.cells cs 86)) := (Below.refl _ _).alloc (Nat.le_refl _) _
                try have hgh := Nat.ne_of_lt hg.lt
                replace hk := hk.step hbA
                try replace hg := hg.step hbA
                clear hbA hcs
                first | (generalize wk.heap.size = h at hh hgh ⊢) | (generalize wk.heap.size = h at hh ⊢)
                first | (generalize wk.alloc (.cells cs 86) = wk at hh hg hk ⊢) | (generalize wk.alloc (.cells cs 86) = wk at hh hk ⊢)
                simp only [Act.put, List.setIfInBounds_toArray, List.set_cons_zero, List.set_cons_succ]
                refine hK.out _ _ hk (fun _ => ?_)
                clear hK K
                try simp only [Act.put, List.setIfInBounds_toArray, List.set_cons_zero, List.set_cons_succ]
                refine wpAnyH_ready (rs := [18]) (by decide +kernel) (by simp) ?_
                refine AllReadyH.cons (o := { dst := none, op := Op.store 86 (Operand.tmp 16) (Operand.tmp 44), type := 0, pos := "clash.go:78", after := #[{ on := 16, ground := Ground.data }, { on := 7, ground := Ground.data }, { on := 15, ground := Ground.chain }, { on := 0, ground := Ground.phase }, { on := 1, ground := Ground.phase }, { on := 2, ground := Ground.phase }, { on := 3, ground := Ground.phase }, { on := 4, ground := Ground.phase }, { on := 5, ground := Ground.phase }, { on := 6, ground := Ground.phase }, { on := 7, ground := Ground.phase }, { on := 8, ground := Ground.textOnly Departure.lateStores }, { on := 9, ground := Ground.textOnly Departure.lateStores }, { on := 10, ground := Ground.textOnly Departure.lateStores }, { on := 11, ground := Ground.textOnly Departure.lateStores }, { on := 12, ground := Ground.textOnly Departure.lateStores }, { on := 13, ground := Ground.textOnly Departure.lateStores }, { on := 14, ground := Ground.textOnly Departure.lateStores }, { on := 15, ground := Ground.textOnly Departure.lateStoresUnsure }, { on := 16, ground := Ground.phase }, { on := 17, ground := Ground.phase }], guard := none }) rfl (fun K hK => ?_) AllReadyH.nil
                rw [if_pos (by rfl)]
                refine wp_store_mid 86 (.tmp 16) (.tmp 44) rfl g 0 (bv KX).toArray rfl rfl ?htcl521 HIX.out HOX.out ?_
                case htcl521 => exact hg.there HSX.out
                have hrg := hg.put (D := (bv KX).toArray) HSX.out
                have hgge := hg.ge
                replace hk := hk.but hgge (bv KX).toArray.toList
                replace hh := hh.but (Ne.symm hgh) (bv KX).toArray.toList
                clear hg
                generalize wk.setCells g 0 (bv KX).toArray.toList = wk at hk hrg hh ⊢
                simp only [Act.put]
                refine hK.out _ _ hk (fun _ => ?_)
                clear hK K
                try simp only [Act.put, List.setIfInBounds_toArray, List.set_cons_zero, List.set_cons_succ]
                refine wpAnyH_ready (rs := [19]) (by decide +kernel) (by simp) ?_
                refine AllReadyH.cons (o := { dst := none, op := Op.store 86 (Operand.tmp 17) (Operand.tmp 52), type := 0, pos := "clash.go:78", after := #[{ on := 17, ground := Ground.data }, { on := 15, ground := Ground.data }, { on := 18, ground := Ground.chain }, { on := 0, ground := Ground.phase }, { on := 1, ground := Ground.phase }, { on := 2, ground := Ground.phase }, { on := 3, ground := Ground.phase }, { on := 4, ground := Ground.phase }, { on := 5, ground := Ground.phase }, { on := 6, ground := Ground.phase }, { on := 7, ground := Ground.phase }, { on := 8, ground := Ground.phase }, { on := 9, ground := Ground.phase }, { on := 10, ground := Ground.phase }, { on := 11, ground := Ground.phase }, { on := 12, ground := Ground.phase }, { on := 13, ground := Ground.phase }, { on := 14, ground := Ground.phase }, { on := 15, ground := Ground.phase }, { on := 16, ground := Ground.phase }, { on := 17, ground := Ground.phase }, { on := 18, ground := Ground.phase }], guard := none }) rfl (fun K hK => ?_) AllReadyH.nil
                rw [if_pos (by rfl)]
                refine wp_store_mid 86 (.tmp 17) (.tmp 52) rfl h 0 (bv KY).toArray rfl rfl ?htcl522 HIY.out HOY.out ?_
                case htcl522 => exact hh.there HSY.out
                have hrh := hh.put (D := (bv KY).toArray) HSY.out
                have hhge := hh.ge
                replace hk := hk.but hhge (bv KY).toArray.toList
                replace hrg := row_but hrg hgh (bv KY).toArray.toList
                clear hh
                generalize wk.setCells h 0 (bv KY).toArray.toList = wk at hk hrg hrh ⊢
                simp only [Act.put]
                refine hK.out _ _ hk (fun _ => ?_)
                clear hK K
                try simp only [Act.put, List.setIfInBounds_toArray, List.set_cons_zero, List.set_cons_succ]
                refine wpAnyH_done (by decide +kernel) ?_ _
                go_wp2_with fail
                go_meet
                case rel => exact ⟨g, h, rfl, rfl, hgh, hgge, hhge, ⟨hk, hrg, hrh⟩⟩
              · rw [if_pos (by rfl)]
                refine wp_alloc_of 86 64 rfl two_zero ?_
                intro cs hcs
                have hh := TR.new (T := 86) (N0 := N0) (wr := wk) hk.size hcs
                have hbA : Below wk.heap.size wk (wk.alloc (.cells cs 86)) := (Below.refl _ _).alloc (Nat.le_refl _) _
                try have hgh := Nat.ne_of_lt hg.lt
                replace hk := hk.step hbA
                try replace hg := hg.step hbA
                clear hbA hcs
                first | (generalize wk.heap.size = h at hh hgh ⊢) | (generalize wk.heap.size = h at hh ⊢)
                first | (generalize wk.alloc (.cells cs 86) = wk at hh hg hk ⊢) | (generalize wk.alloc (.cells cs 86) = wk at hh hk ⊢)
                simp only [Act.put, List.setIfInBounds_toArray, List.set_cons_zero, List.set_cons_succ]
                refine hK.out _ _ hk (fun _ => ?_)
                clear hK K
                try simp only [Act.put, List.setIfInBounds_toArray, List.set_cons_zero, List.set_cons_succ]
                refine wpAnyH_ready (rs := [15]) (by decide +kernel) (by simp) ?_
                refine AllReadyH.cons (o := { dst := some 52, op := Op.call { callee := Callee.value (Operand.func 64), args := #[Operand.tmp 45, Operand.tmp 50, Operand.tmp 51], argTypes := #[42, 42, 4] }, type := 86, pos := "clash.go:78", after := #[{ on := 8, ground := Ground.data }, { on := 13, ground := Ground.data }, { on := 14, ground := Ground.data }, { on := 7, ground := Ground.chain }], guard := none }) rfl (fun K hK => ?_) AllReadyH.nil
                go_simp
                refine (HKY.out _).mono ?_
                rintro e1 wk ⟨rfl, hb1⟩
                replace hk := hk.step hb1
                try replace hg := hg.step hb1
                try replace hh := hh.step hb1
                clear hb1
                refine hK.out _ _ hk (fun _ => ?_)
                clear hK K
                try simp only [Act.put, List.setIfInBounds_toArray, List.set_cons_zero, List.set_cons_succ]
                refine wpAnyH_ready (rs := [18]) (by decide +kernel) (by simp) ?_
                refine AllReadyH.cons (o := { dst := none, op := Op.store 86 (Operand.tmp 16) (Operand.tmp 44), type := 0, pos := "clash.go:78", after := #[{ on := 16, ground := Ground.data }, { on := 7, ground := Ground.data }, { on := 15, ground := Ground.chain }, { on := 0, ground := Ground.phase }, { on := 1, ground := Ground.phase }, { on := 2, ground := Ground.phase }, { on := 3, ground := Ground.phase }, { on := 4, ground := Ground.phase }, { on := 5, ground := Ground.phase }, { on := 6, ground := Ground.phase }, { on := 7, ground := Ground.phase }, { on := 8, ground := Ground.textOnly Departure.lateStores }, { on := 9, ground := Ground.textOnly Departure.lateStores }, { on := 10, ground := Ground.textOnly Departure.lateStores }, { on := 11, ground := Ground.textOnly Departure.lateStores }, { on := 12, ground := Ground.textOnly Departure.lateStores }, { on := 13, ground := Ground.textOnly Departure.lateStores }, { on := 14, ground := Ground.textOnly Departure.lateStores }, { on := 15, ground := Ground.textOnly Departure.lateStoresUnsure }, { on := 16, ground := Ground.phase }, { on := 17, ground := Ground.phase }], guard := none }) rfl (fun K hK => ?_) AllReadyH.nil
                rw [if_pos (by rfl)]
                refine wp_store_mid 86 (.tmp 16) (.tmp 44) rfl g 0 (bv KX).toArray rfl rfl ?htcl524 HIX.out HOX.out ?_
                case htcl524 => exact hg.there HSX.out
                have hrg := hg.put (D := (bv KX).toArray) HSX.out
                have hgge := hg.ge
                replace hk := hk.but hgge (bv KX).toArray.toList
                replace hh := hh.but (Ne.symm hgh) (bv KX).toArray.toList
                clear hg
                generalize wk.setCells g 0 (bv KX).toArray.toList = wk at hk hrg hh ⊢
                simp only [Act.put]
                refine hK.out _ _ hk (fun _ => ?_)
                clear hK K
                try simp only [Act.put, List.setIfInBounds_toArray, List.set_cons_zero, List.set_cons_succ]
                refine wpAnyH_ready (rs := [19]) (by decide +kernel) (by simp) ?_
                refine AllReadyH.cons (o := { dst := none, op := Op.store 86 (Operand.tmp 17) (Operand.tmp 52), type := 0, pos := "clash.go:78", after := #[{ on := 17, ground := Ground.data }, { on := 15, ground := Ground.data }, { on := 18, ground := Ground.chain }, { on := 0, ground := Ground.phase }, { on := 1, ground := Ground.phase }, { on := 2, ground := Ground.phase }, { on := 3, ground := Ground.phase }, { on := 4, ground := Ground.phase }, { on := 5, ground := Ground.phase }, { on := 6, ground := Ground.phase }, { on := 7, ground := Ground.phase }, { on := 8, ground := Ground.phase }, { on := 9, ground := Ground.phase }, { on := 10, ground := Ground.phase }, { on := 11, ground := Ground.phase }, { on := 12, ground := Ground.phase }, { on := 13, ground := Ground.phase }, { on := 14, ground := Ground.phase }, { on := 15, ground := Ground.phase }, { on := 16, ground := Ground.phase }, { on := 17, ground := Ground.phase }, { on := 18, ground := Ground.phase }], guard := none }) rfl (fun K hK => ?_) AllReadyH.nil
                rw [if_pos (by rfl)]
                refine wp_store_mid 86 (.tmp 17) (.tmp 52) rfl h 0 (bv KY).toArray rfl rfl ?htcl525 HIY.out HOY.out ?_
                case htcl525 => exact hh.there HSY.out
                have hrh := hh.put (D := (bv KY).toArray) HSY.out
                have hhge := hh.ge
                replace hk := hk.but hhge (bv KY).toArray.toList
                replace hrg := row_but hrg hgh (bv KY).toArray.toList
                clear hh
                generalize wk.setCells h 0 (bv KY).toArray.toList = wk at hk hrg hrh ⊢
                simp only [Act.put]
                refine hK.out _ _ hk (fun _ => ?_)
                clear hK K
                try simp only [Act.put, List.setIfInBounds_toArray, List.set_cons_zero, List.set_cons_succ]
                refine wpAnyH_done (by decide +kernel) ?_ _
                go_wp2_with fail
                go_meet
                case rel => exact ⟨g, h, rfl, rfl, hgh, hgge, hhge, ⟨hk, hrg, hrh⟩⟩
            · rw [if_pos (by rfl)]
              refine wp_alloc_of 86 64 rfl two_zero ?_
              intro cs hcs
              have hh := TR.new (T := 86) (N0 := N0) (wr := wk) hk.size hcs
              have hbA : Below wk.heap.size wk (wk.alloc (.cells cs 86)) := (Below.refl _ _).alloc (Nat.le_refl _) _
              try have hgh := Nat.ne_of_lt hg.lt
              replace hk := hk.step hbA
              try replace hg := hg.step hbA
              clear hbA hcs
              first | (generalize wk.heap.size = h at hh hgh ⊢) | (generalize wk.heap.size = h at hh ⊢)
              first | (generalize wk.alloc (.cells cs 86) = wk at hh hg hk ⊢) | (generalize wk.alloc (.cells cs 86) = wk at hh hk ⊢)
              simp only [Act.put, List.setIfInBounds_toArray, List.set_cons_zero, List.set_cons_succ]
              refine hK.out _ _ hk (fun _ => ?_)
              clear hK K
              try simp only [Act.put, List.setIfInBounds_toArray, List.set_cons_zero, List.set_cons_succ]
              refine wpAnyH_ready (rs := [15, 16]) (by decide +kernel) (by simp) ?_
              refine (AllReadyH.cons (o := { dst := some 52, op := Op.call { callee := Callee.value (Operand.func 64), args := #[Operand.tmp 45, Operand.tmp 50, Operand.tmp 51], argTypes := #[42, 42, 4] }, type := 86, pos := "clash.go:78", after := #[{ on := 8, ground := Ground.data }, { on := 13, ground := Ground.data }, { on := 14, ground := Ground.data }, { on := 7, ground := Ground.chain }], guard := none }) rfl (fun K hK => ?_) (AllReadyH.cons (o := { dst := some 16, op := Op.alloc 86, type := 0, pos := "clash.go:78", after := #[], guard := none }) rfl (fun K hK => ?_) AllReadyH.nil))
              · go_simp
                refine (HKY.out _).mono ?_
                rintro e1 wk ⟨rfl, hb1⟩
                replace hk := hk.step hb1
                try replace hg := hg.step hb1
                try replace hh := hh.step hb1
                clear hb1
                refine hK.out _ _ hk (fun _ => ?_)
                clear hK K
                try simp only [Act.put, List.setIfInBounds_toArray, List.set_cons_zero, List.set_cons_succ]
                refine wpAnyH_ready (rs := [16]) (by decide +kernel) (by simp) ?_
                refine AllReadyH.cons (o := { dst := some 16, op := Op.alloc 86, type := 0, pos := "clash.go:78", after := #[], guard := none }) rfl (fun K hK => ?_) AllReadyH.nil
                rw [if_pos (by rfl)]
                refine wp_alloc_of 86 64 rfl two_zero ?_
                intro cs hcs
                have hg := TR.new (T := 86) (N0 := N0) (wr := wk) hk.size hcs
                have hbA : Below wk.heap.size wk (wk.alloc (.cells cs 86)) := (Below.refl _ _).alloc (Nat.le_refl _) _
                try have hgh := Nat.ne_of_gt hh.lt
                replace hk := hk.step hbA
                try replace hh := hh.step hbA
                clear hbA hcs
                first | (generalize wk.heap.size = g at hg hgh ⊢) | (generalize wk.heap.size = g at hg ⊢)
                first | (generalize wk.alloc (.cells cs 86) = wk at hg hh hk ⊢) | (generalize wk.alloc (.cells cs 86) = wk at hg hk ⊢)
                simp only [Act.put, List.setIfInBounds_toArray, List.set_cons_zero, List.set_cons_succ]
                refine hK.out _ _ hk (fun _ => ?_)
                clear hK K
                try simp only [Act.put, List.setIfInBounds_toArray, List.set_cons_zero, List.set_cons_succ]
                refine wpAnyH_ready (rs := [18]) (by decide +kernel) (by simp) ?_
                refine AllReadyH.cons (o := { dst := none, op := Op.store 86 (Operand.tmp 16) (Operand.tmp 44), type := 0, pos := "clash.go:78", after := #[{ on := 16, ground := Ground.data }, { on := 7, ground := Ground.data }, { on := 15, ground := Ground.chain }, { on := 0, ground := Ground.phase }, { on := 1, ground := Ground.phase }, { on := 2, ground := Ground.phase }, { on := 3, ground := Ground.phase }, { on := 4, ground := Ground.phase }, { on := 5, ground := Ground.phase }, { on := 6, ground := Ground.phase }, { on := 7, ground := Ground.phase }, { on := 8, ground := Ground.textOnly Departure.lateStores }, { on := 9, ground := Ground.textOnly Departure.lateStores }, { on := 10, ground := Ground.textOnly Departure.lateStores }, { on := 11, ground := Ground.textOnly Departure.lateStores }, { on := 12, ground := Ground.textOnly Departure.lateStores }, { on := 13, ground := Ground.textOnly Departure.lateStores }, { on := 14, ground := Ground.textOnly Departure.lateStores }, { on := 15, ground := Ground.textOnly Departure.lateStoresUnsure }, { on := 16, ground := Ground.phase }, { on := 17, ground := Ground.phase }], guard := none }) rfl (fun K hK => ?_) AllReadyH.nil
                rw [if_pos (by rfl)]
                refine wp_store_mid 86 (.tmp 16) (.tmp 44) rfl g 0 (bv KX).toArray rfl rfl ?htcl528 HIX.out HOX.out ?_
                case htcl528 => exact hg.there HSX.out
                have hrg := hg.put (D := (bv KX).toArray) HSX.out
                have hgge := hg.ge
                replace hk := hk.but hgge (bv KX).toArray.toList
                replace hh := hh.but (Ne.symm hgh) (bv KX).toArray.toList
                clear hg
                generalize wk.setCells g 0 (bv KX).toArray.toList = wk at hk hrg hh ⊢
                simp only [Act.put]
                refine hK.out _ _ hk (fun _ => ?_)
                clear hK K
                try simp only [Act.put, List.setIfInBounds_toArray, List.set_cons_zero, List.set_cons_succ]
                refine wpAnyH_ready (rs := [19]) (by decide +kernel) (by simp) ?_
                refine AllReadyH.cons (o := { dst := none, op := Op.store 86 (Operand.tmp 17) (Operand.tmp 52), type := 0, pos := "clash.go:78", after := #[{ on := 17, ground := Ground.data }, { on := 15, ground := Ground.data }, { on := 18, ground := Ground.chain }, { on := 0, ground := Ground.phase }, { on := 1, ground := Ground.phase }, { on := 2, ground := Ground.phase }, { on := 3, ground := Ground.phase }, { on := 4, ground := Ground.phase }, { on := 5, ground := Ground.phase }, { on := 6, ground := Ground.phase }, { on := 7, ground := Ground.phase }, { on := 8, ground := Ground.phase }, { on := 9, ground := Ground.phase }, { on := 10, ground := Ground.phase }, { on := 11, ground := Ground.phase }, { on := 12, ground := Ground.phase }, { on := 13, ground := Ground.phase }, { on := 14, ground := Ground.phase }, { on := 15, ground := Ground.phase }, { on := 16, ground := Ground.phase }, { on := 17, ground := Ground.phase }, { on := 18, ground := Ground.phase }], guard := none }) rfl (fun K hK => ?_) AllReadyH.nil
                rw [if_pos (by rfl)]
                refine wp_store_mid 86 (.tmp 17) (.tmp 52) rfl h 0 (bv KY).toArray rfl rfl ?htcl529 HIY.out HOY.out ?_
                case htcl529 => exact hh.there HSY.out
                have hrh := hh.put (D := (bv KY).toArray) HSY.out
                have hhge := hh.ge
                replace hk := hk.but hhge (bv KY).toArray.toList
                replace hrg := row_but hrg hgh (bv KY).toArray.toList
                clear hh
                generalize wk.setCells h 0 (bv KY).toArray.toList = wk at hk hrg hrh ⊢
                simp only [Act.put]
                refine hK.out _ _ hk (fun _ => ?_)
                clear hK K
                try simp only [Act.put, List.setIfInBounds_toArray, List.set_cons_zero, List.set_cons_succ]
                refine wpAnyH_done (by decide +kernel) ?_ _
                go_wp2_with fail
                go_meet
                case rel => exact ⟨g, h, rfl, rfl, hgh, hgge, hhge, ⟨hk, hrg, hrh⟩⟩
              · rw [if_pos (by rfl)]
                refine wp_alloc_of 86 64 rfl two_zero ?_
                intro cs hcs
                have hg := TR.new (T := 86) (N0 := N0) (wr := wk) hk.size hcs
                have hbA : Below wk.heap.size wk (wk.alloc (.cells cs 86)) := (Below.refl _ _).alloc (Nat.le_refl _) _
                try have hgh := Nat.ne_of_gt hh.lt
                replace hk := hk.step hbA
                try replace hh := hh.step hbA
                clear hbA hcs
                first | (generalize wk.heap.size = g at hg hgh ⊢) | (generalize wk.heap.size = g at hg ⊢)
                first | (generalize wk.alloc (.cells cs 86) = wk at hg hh hk ⊢) | (generalize wk.alloc (.cells cs 86) = wk at hg hk ⊢)
                simp only [Act.put, List.setIfInBounds_toArray, List.set_cons_zero, List.set_cons_succ]
                refine hK.out _ _ hk (fun _ => ?_)
                clear hK K
                try simp only [Act.put, List.setIfInBounds_toArray, List.set_cons_zero, List.set_cons_succ]
                refine wpAnyH_ready (rs := [15]) (by decide +kernel) (by simp) ?_
                refine AllReadyH.cons (o := { dst := some 52, op := Op.call { callee := Callee.value (Operand.func 64), args := #[Operand.tmp 45, Operand.tmp 50, Operand.tmp 51], argTypes := #[42, 42, 4] }, type := 86, pos := "clash.go:78", after := #[{ on := 8, ground := Ground.data }, { on := 13, ground := Ground.data }, { on := 14, ground := Ground.data }, { on := 7, ground := Ground.chain }], guard := none }) rfl (fun K hK => ?_) AllReadyH.nil
                go_simp
                refine (HKY.out _).mono ?_
                rintro e1 wk ⟨rfl, hb1⟩
                replace hk := hk.step hb1
                try replace hg := hg.step hb1
                try replace hh := hh.step hb1
                clear hb1
                refine hK.out _ _ hk (fun _ => ?_)
                clear hK K
                try simp only [Act.put, List.setIfInBounds_toArray, List.set_cons_zero, List.set_cons_succ]
                refine wpAnyH_ready (rs := [18]) (by decide +kernel) (by simp) ?_
                refine AllReadyH.cons (o := { dst := none, op := Op.store 86 (Operand.tmp 16) (Operand.tmp 44), type := 0, pos := "clash.go:78", after := #[{ on := 16, ground := Ground.data }, { on := 7, ground := Ground.data }, { on := 15, ground := Ground.chain }, { on := 0, ground := Ground.phase }, { on := 1, ground := Ground.phase }, { on := 2, ground := Ground.phase }, { on := 3, ground := Ground.phase }, { on := 4, ground := Ground.phase }, { on := 5, ground := Ground.phase }, { on := 6, ground := Ground.phase }, { on := 7, ground := Ground.phase }, { on := 8, ground := Ground.textOnly Departure.lateStores }, { on := 9, ground := Ground.textOnly Departure.lateStores }, { on := 10, ground := Ground.textOnly Departure.lateStores }, { on := 11, ground := Ground.textOnly Departure.lateStores }, { on := 12, ground := Ground.textOnly Departure.lateStores }, { on := 13, ground := Ground.textOnly Departure.lateStores }, { on := 14, ground := Ground.textOnly Departure.lateStores }, { on := 15, ground := Ground.textOnly Departure.lateStoresUnsure }, { on := 16, ground := Ground.phase }, { on := 17, ground := Ground.phase }], guard := none }) rfl (fun K hK => ?_) AllReadyH.nil
                rw [if_pos (by rfl)]
                refine wp_store_mid 86 (.tmp 16) (.tmp 44) rfl g 0 (bv KX).toArray rfl rfl ?htcl531 HIX.out HOX.out ?_
                case htcl531 => exact hg.there HSX.out
                have hrg := hg.put (D := (bv KX).toArray) HSX.out
                have hgge := hg.ge
                replace hk := hk.but hgge (bv KX).toArray.toList
                replace hh := hh.but (Ne.symm hgh) (bv KX).toArray.toList
                clear hg
                generalize wk.setCells g 0 (bv KX).toArray.toList = wk at hk hrg hh ⊢
                simp only [Act.put]
                refine hK.out _ _ hk (fun _ => ?_)
                clear hK K
                try simp only [Act.put, List.setIfInBounds_toArray, List.set_cons_zero, List.set_cons_succ]
                refine wpAnyH_ready (rs := [19]) (by decide +kernel) (by simp) ?_
                refine AllReadyH.cons (o := { dst := none, op := Op.store 86 (Operand.tmp 17) (Operand.tmp 52), type := 0, pos := "clash.go:78", after := #[{ on := 17, ground := Ground.data }, { on := 15, ground := Ground.data }, { on := 18, ground := Ground.chain }, { on := 0, ground := Ground.phase }, { on := 1, ground := Ground.phase }, { on := 2, ground := Ground.phase }, { on := 3, ground := Ground.phase }, { on := 4, ground := Ground.phase }, { on := 5, ground := Ground.phase }, { on := 6, ground := Ground.phase }, { on := 7, ground := Ground.phase }, { on := 8, ground := Ground.phase }, { on := 9, ground := Ground.phase }, { on := 10, ground := Ground.phase }, { on := 11, ground := Ground.phase }, { on := 12, ground := Ground.phase }, { on := 13, ground := Ground.phase }, { on := 14, ground := Ground.phase }, { on := 15, ground := Ground.phase }, { on := 16, ground := Ground.phase }, { on := 17, ground := Ground.phase }, { on := 18, ground := Ground.phase }], guard := none }) rfl (fun K hK => ?_) AllReadyH.nil
                rw [if_pos (by rfl)]
                refine wp_store_mid 86 (.tmp 17) (.tmp 52) rfl h 0 (bv KY).toArray rfl rfl ?htcl532 HIY.out HOY.out ?_
                case htcl532 => exact hh.there HSY.out
                have hrh := hh.put (D := (bv KY).toArray) HSY.out
                have hhge := hh.ge
                replace hk := hk.but hhge (bv KY).toArray.toList
                replace hrg := row_but hrg hgh (bv KY).toArray.toList
                clear hh
                generalize wk.setCells h 0 (bv KY).toArray.toList = wk at hk hrg hrh ⊢
                simp only [Act.put]
                refine hK.out _ _ hk (fun _ => ?_)
                clear hK K
                try simp only [Act.put, List.setIfInBounds_toArray, List.set_cons_zero, List.set_cons_succ]
                refine wpAnyH_done (by decide +kernel) ?_ _
                go_wp2_with fail
                go_meet
                case rel => exact ⟨g, h, rfl, rfl, hgh, hgge, hhge, ⟨hk, hrg, hrh⟩⟩
          · rw [if_pos (by rfl)]
            refine wp_alloc_of 86 64 rfl two_zero ?_
            intro cs hcs
            have hg := TR.new (T := 86) (N0 := N0) (wr := wk) hk.size hcs
            have hbA : Below wk.heap.size wk (wk.alloc (.cells cs 86)) := (Below.refl _ _).alloc (Nat.le_refl _) _
            try have hgh := Nat.ne_of_gt hh.lt
            replace hk := hk.step hbA
            try replace hh := hh.step hbA
            clear hbA hcs
            first | (generalize wk.heap.size = g at hg hgh ⊢) | (generalize wk.heap.size = g at hg ⊢)
            first | (generalize wk.alloc (.cells cs 86) = wk at hg hh hk ⊢) | (generalize wk.alloc (.cells cs 86) = wk at hg hk ⊢)
            simp only [Act.put, List.setIfInBounds_toArray, List.set_cons_zero, List.set_cons_succ]
            refine hK.out _ _ hk (fun _ => ?_)
            clear hK K
            try simp only [Act.put, List.setIfInBounds_toArray, List.set_cons_zero, List.set_cons_succ]
            refine wpAnyH_ready (rs := [7, 17]) (by decide +kernel) (by simp) ?_
            refine (AllReadyH.cons (o := { dst := some 44, op := Op.call { callee := Callee.value (Operand.func 64), args := #[Operand.tmp 37, Operand.tmp 42, Operand.tmp 43], argTypes := #[42, 42, 4] }, type := 86, pos := "clash.go:78", after := #[{ on := 0, ground := Ground.data }, { on := 5, ground := Ground.data }, { on := 6, ground := Ground.data }], guard := none }) rfl (fun K hK => ?_) (AllReadyH.cons (o := { dst := some 17, op := Op.alloc 86, type := 0, pos := "clash.go:78", after := #[], guard := none }) rfl (fun K hK => ?_) AllReadyH.nil))
            · go_simp
              refine (HKX.out _).mono ?_
              rintro e1 wk ⟨rfl, hb1⟩
              replace hk := hk.step hb1
              try replace hg := hg.step hb1
              try replace hh := hh.step hb1
              clear hb1
              refine hK.out _ _ hk (fun _ => ?_)
              clear hK K
              try simp only [Act.put, List.setIfInBounds_toArray, List.set_cons_zero, List.set_cons_succ]
              refine wpAnyH_ready (rs := [15, 17]) (by decide +kernel) (by simp) ?_
              refine (AllReadyH.cons (o := { dst := some 52, op := Op.call { callee := Callee.value (Operand.func 64), args := #[Operand.tmp 45, Operand.tmp 50, Operand.tmp 51], argTypes := #[42, 42, 4] }, type := 86, pos := "clash.go:78", after := #[{ on := 8, ground := Ground.data }, { on := 13, ground := Ground.data }, { on := 14, ground := Ground.data }, { on := 7, ground := Ground.chain }], guard := none }) rfl (fun K hK => ?_) (AllReadyH.cons (o := { dst := some 17, op := Op.alloc 86, type := 0, pos := "clash.go:78", after := #[], guard := none }) rfl (fun K hK => ?_) AllReadyH.nil))
              · go_simp
                refine (HKY.out _).mono ?_
                rintro e1 wk ⟨rfl, hb1⟩
                replace hk := hk.step hb1
                try replace hg := hg.step hb1
                try replace hh := hh.step hb1
                clear hb1
                refine hK.out _ _ hk (fun _ => ?_)
                clear hK K
                try simp only [Act.put, List.setIfInBounds_toArray, List.set_cons_zero, List.set_cons_succ]
                refine wpAnyH_ready (rs := [17]) (by decide +kernel) (by simp) ?_
                refine AllReadyH.cons (o := { dst := some 17, op := Op.alloc 86, type := 0, pos := "clash.go:78", after := #[], guard := none }) rfl (fun K hK => ?_) AllReadyH.nil
                rw [if_pos (by rfl)]
                refine wp_alloc_of 86 64 rfl two_zero ?_
                intro cs hcs
                have hh := TR.new (T := 86) (N0 := N0) (wr := wk) hk.size hcs
                have hbA : Below wk.heap.size wk (wk.alloc (.cells cs 86)) := (Below.refl _ _).alloc (Nat.le_refl _) _
                try have hgh := Nat.ne_of_lt hg.lt
                replace hk := hk.step hbA
                try replace hg := hg.step hbA
                clear hbA hcs
                first | (generalize wk.heap.size = h at hh hgh ⊢) | (generalize wk.heap.size = h at hh ⊢)
                first | (generalize wk.alloc (.cells cs 86) = wk at hh hg hk ⊢) | (generalize wk.alloc (.cells cs 86) = wk at hh hk ⊢)
                simp only [Act.put, List.setIfInBounds_toArray, List.set_cons_zero, List.set_cons_succ]
                refine hK.out _ _ hk (fun _ => ?_)
                clear hK K
                try simp only [Act.put, List.setIfInBounds_toArray, List.set_cons_zero, List.set_cons_succ]
                refine wpAnyH_ready (rs := [18]) (by decide +kernel) (by simp) ?_
                refine AllReadyH.cons (o := { dst := none, op := Op.store 86 (Operand.tmp 16) (Operand.tmp 44), type := 0, pos := "clash.go:78", after := #[{ on := 16, ground := Ground.data }, { on := 7, ground := Ground.data }, { on := 15, ground := Ground.chain }, { on := 0, ground := Ground.phase }, { on := 1, ground := Ground.phase }, { on := 2, ground := Ground.phase }, { on := 3, ground := Ground.phase }, { on := 4, ground := Ground.phase }, { on := 5, ground := Ground.phase }, { on := 6, ground := Ground.phase }, { on := 7, ground := Ground.phase }, { on := 8, ground := Ground.textOnly Departure.lateStores }, { on := 9, ground := Ground.textOnly Departure.lateStores }, { on := 10, ground := Ground.textOnly Departure.lateStores }, { on := 11, ground := Ground.textOnly Departure.lateStores }, { on := 12, ground := Ground.textOnly Departure.lateStores }, { on := 13, ground := Ground.textOnly Departure.lateStores }, { on := 14, ground := Ground.textOnly Departure.lateStores }, { on := 15, ground := Ground.textOnly Departure.lateStoresUnsure }, { on := 16, ground := Ground.phase }, { on := 17, ground := Ground.phase }], guard := none }) rfl (fun K hK => ?_) AllReadyH.nil
                rw [if_pos (by rfl)]
                refine wp_store_mid 86 (.tmp 16) (.tmp 44) rfl g 0 (bv KX).toArray rfl rfl ?htcl535 HIX.out HOX.out ?_
                case htcl535 => exact hg.there HSX.out
                have hrg := hg.put (D := (bv KX).toArray) HSX.out
                have hgge := hg.ge
                replace hk := hk.but hgge (bv KX).toArray.toList
                replace hh := hh.but (Ne.symm hgh) (bv KX).toArray.toList
                clear hg
                generalize wk.setCells g 0 (bv KX).toArray.toList = wk at hk hrg hh ⊢
                simp only [Act.put]
                refine hK.out _ _ hk (fun _ => ?_)
                clear hK K
                try simp only [Act.put, List.setIfInBounds_toArray, List.set_cons_zero, List.set_cons_succ]
                refine wpAnyH_ready (rs := [19]) (by decide +kernel) (by simp) ?_
                refine AllReadyH.cons (o := { dst := none, op := Op.store 86 (Operand.tmp 17) (Operand.tmp 52), type := 0, pos := "clash.go:78", after := #[{ on := 17, ground := Ground.data }, { on := 15, ground := Ground.data }, { on := 18, ground := Ground.chain }, { on := 0, ground := Ground.phase }, { on := 1, ground := Ground.phase }, { on := 2, ground := Ground.phase }, { on := 3, ground := Ground.phase }, { on := 4, ground := Ground.phase }, { on := 5, ground := Ground.phase }, { on := 6, ground := Ground.phase }, { on := 7, ground := Ground.phase }, { on := 8, ground := Ground.phase }, { on := 9, ground := Ground.phase }, { on := 10, ground := Ground.phase }, { on := 11, ground := Ground.phase }, { on := 12, ground := Ground.phase }, { on := 13, ground := Ground.phase }, { on := 14, ground := Ground.phase }, { on := 15, ground := Ground.phase }, { on := 16, ground := Ground.phase }, { on := 17, ground := Ground.phase }, { on := 18, ground := Ground.phase }], guard := none }) rfl (fun K hK => ?_) AllReadyH.nil
                rw [if_pos (by rfl)]
                refine wp_store_mid 86 (.tmp 17) (.tmp 52) rfl h 0 (bv KY).toArray rfl rfl ?htcl536 HIY.out HOY.out ?_
                case htcl536 => exact hh.there HSY.out
                have hrh := hh.put (D := (bv KY).toArray) HSY.out
                have hhge := hh.ge
                replace hk := hk.but hhge (bv KY).toArray.toList
                replace hrg := row_but hrg hgh (bv KY).toArray.toList
                clear hh
                generalize wk.setCells h 0 (bv KY).toArray.toList = wk at hk hrg hrh ⊢
                simp only [Act.put]
                refine hK.out _ _ hk (fun _ => ?_)
                clear hK K
                try simp only [Act.put, List.setIfInBounds_toArray, List.set_cons_zero, List.set_cons_succ]
                refine wpAnyH_done (by decide +kernel) ?_ _
                go_wp2_with fail
                go_meet
                case rel => exact ⟨g, h, rfl, rfl, hgh, hgge, hhge, ⟨hk, hrg, hrh⟩⟩
              · rw [if_pos (by rfl)]
                refine wp_alloc_of 86 64 rfl two_zero ?_
                intro cs hcs
                have hh := TR.new (T := 86) (N0 := N0) (wr := wk) hk.size hcs
                have hbA : Below wk.heap.size wk (wk.alloc (.cells cs 86)) := (Below.refl _ _).alloc (Nat.le_refl _) _
                try have hgh := Nat.ne_of_lt hg.lt
                replace hk := hk.step hbA
                try replace hg := hg.step hbA
                clear hbA hcs
                first | (generalize wk.heap.size = h at hh hgh ⊢) | (generalize wk.heap.size = h at hh ⊢)
                first | (generalize wk.alloc (.cells cs 86) = wk at hh hg hk ⊢) | (generalize wk.alloc (.cells cs 86) = wk at hh hk ⊢)
                simp only [Act.put, List.setIfInBounds_toArray, List.set_cons_zero, List.set_cons_succ]
                refine hK.out _ _ hk (fun _ => ?_)
                clear hK K
                try simp only [Act.put, List.setIfInBounds_toArray, List.set_cons_zero, List.set_cons_succ]
                refine wpAnyH_ready (rs := [15]) (by decide +kernel) (by simp) ?_
                refine AllReadyH.cons (o := { dst := some 52, op := Op.call { callee := Callee.value (Operand.func 64), args := #[Operand.tmp 45, Operand.tmp 50, Operand.tmp 51], argTypes := #[42, 42, 4] }, type := 86, pos := "clash.go:78", after := #[{ on := 8, ground := Ground.data }, { on := 13, ground := Ground.data }, { on := 14, ground := Ground.data }, { on := 7, ground := Ground.chain }], guard := none }) rfl (fun K hK => ?_) AllReadyH.nil
                go_simp
                refine (HKY.out _).mono ?_
                rintro e1 wk ⟨rfl, hb1⟩
                replace hk := hk.step hb1
                try replace hg := hg.step hb1
                try replace hh := hh.step hb1
                clear hb1
                refine hK.out _ _ hk (fun _ => ?_)
                clear hK K
                try simp only [Act.put, List.setIfInBounds_toArray, List.set_cons_zero, List.set_cons_succ]
                refine wpAnyH_ready (rs := [18]) (by decide +kernel) (by simp) ?_
                refine AllReadyH.cons (o := { dst := none, op := Op.store 86 (Operand.tmp 16) (Operand.tmp 44), type := 0, pos := "clash.go:78", after := #[{ on := 16, ground := Ground.data }, { on := 7, ground := Ground.data }, { on := 15, ground := Ground.chain }, { on := 0, ground := Ground.phase }, { on := 1, ground := Ground.phase }, { on := 2, ground := Ground.phase }, { on := 3, ground := Ground.phase }, { on := 4, ground := Ground.phase }, { on := 5, ground := Ground.phase }, { on := 6, ground := Ground.phase }, { on := 7, ground := Ground.phase }, { on := 8, ground := Ground.textOnly Departure.lateStores }, { on := 9, ground := Ground.textOnly Departure.lateStores }, { on := 10, ground := Ground.textOnly Departure.lateStores }, { on := 11, ground := Ground.textOnly Departure.lateStores }, { on := 12, ground := Ground.textOnly Departure.lateStores }, { on := 13, ground := Ground.textOnly Departure.lateStores }, { on := 14, ground := Ground.textOnly Departure.lateStores }, { on := 15, ground := Ground.textOnly Departure.lateStoresUnsure }, { on := 16, ground := Ground.phase }, { on := 17, ground := Ground.phase }], guard := none }) rfl (fun K hK => ?_) AllReadyH.nil
                rw [if_pos (by rfl)]
                refine wp_store_mid 86 (.tmp 16) (.tmp 44) rfl g 0 (bv KX).toArray rfl rfl ?htcl538 HIX.out HOX.out ?_
                case htcl538 => exact hg.there HSX.out
                have hrg := hg.put (D := (bv KX).toArray) HSX.out
                have hgge := hg.ge
                replace hk := hk.but hgge (bv KX).toArray.toList
                replace hh := hh.but (Ne.symm hgh) (bv KX).toArray.toList
                clear hg
                generalize wk.setCells g 0 (bv KX).toArray.toList = wk at hk hrg hh ⊢
                simp only [Act.put]
                refine hK.out _ _ hk (fun _ => ?_)
                clear hK K
                try simp only [Act.put, List.setIfInBounds_toArray, List.set_cons_zero, List.set_cons_succ]
                refine wpAnyH_ready (rs := [19]) (by decide +kernel) (by simp) ?_
                refine AllReadyH.cons (o := { dst := none, op := Op.store 86 (Operand.tmp 17) (Operand.tmp 52), type := 0, pos := "clash.go:78", after := #[{ on := 17, ground := Ground.data }, { on := 15, ground := Ground.data }, { on := 18, ground := Ground.chain }, { on := 0, ground := Ground.phase }, { on := 1, ground := Ground.phase }, { on := 2, ground := Ground.phase }, { on := 3, ground := Ground.phase }, { on := 4, ground := Ground.phase }, { on := 5, ground := Ground.phase }, { on := 6, ground := Ground.phase }, { on := 7, ground := Ground.phase }, { on := 8, ground := Ground.phase }, { on := 9, ground := Ground.phase }, { on := 10, ground := Ground.phase }, { on := 11, ground := Ground.phase }, { on := 12, ground := Ground.phase }, { on := 13, ground := Ground.phase }, { on := 14, ground := Ground.phase }, { on := 15, ground := Ground.phase }, { on := 16, ground := Ground.phase }, { on := 17, ground := Ground.phase }, { on := 18, ground := Ground.phase }], guard := none }) rfl (fun K hK => ?_) AllReadyH.nil
                rw [if_pos (by rfl)]
                refine wp_store_mid 86 (.tmp 17) (.tmp 52) rfl h 0 (bv KY).toArray rfl rfl ?htcl539 HIY.out HOY.out ?_
                case htcl539 => exact hh.there HSY.out
                have hrh := hh.put (D := (bv KY).toArray) HSY.out
                have hhge := hh.ge
                replace hk := hk.but hhge (bv KY).toArray.toList
                replace hrg := row_but hrg hgh (bv KY).toArray.toList
                clear hh
                generalize wk.setCells h 0 (bv KY).toArray.toList = wk at hk hrg hrh ⊢
                simp only [Act.put]
                refine hK.out _ _ hk (fun _ => ?_)
                clear hK K
                try simp only [Act.put, List.setIfInBounds_toArray, List.set_cons_zero, List.set_cons_succ]
                refine wpAnyH_done (by decide +kernel) ?_ _
                go_wp2_with fail
                go_meet
                case rel => exact ⟨g, h, rfl, rfl, hgh, hgge, hhge, ⟨hk, hrg, hrh⟩⟩
            · rw [if_pos (by rfl)]
              refine wp_alloc_of 86 64 rfl two_zero ?_
              intro cs hcs
              have hh := TR.new (T := 86) (N0 := N0) (wr := wk) hk.size hcs
              have hbA : Below wk.heap.size wk (wk.alloc (.cells cs 86)) := (Below.refl _ _).alloc (Nat.le_refl _) _
              try have hgh := Nat.ne_of_lt hg.lt
              replace hk := hk.step hbA
              try replace hg := hg.step hbA
              clear hbA hcs
              first | (generalize wk.heap.size = h at hh hgh ⊢) | (generalize wk.heap.size = h at hh ⊢)
              first | (generalize wk.alloc (.cells cs 86) = wk at hh hg hk ⊢) | (generalize wk.alloc (.cells cs 86) = wk at hh hk ⊢)
              simp only [Act.put, List.setIfInBounds_toArray, List.set_cons_zero, List.set_cons_succ]
              refine hK.out _ _ hk (fun _ => ?_)
              clear hK K
              try simp only [Act.put, List.setIfInBounds_toArray, List.set_cons_zero, List.set_cons_succ]
              refine wpAnyH_ready (rs := [7]) (by decide +kernel) (by simp) ?_
              refine AllReadyH.cons (o := { dst := some 44, op := Op.call { callee := Callee.value (Operand.func 64), args := #[Operand.tmp 37, Operand.tmp 42, Operand.tmp 43], argTypes := #[42, 42, 4] }, type := 86, pos := "clash.go:78", after := #[{ on := 0, ground := Ground.data }, { on := 5, ground := Ground.data }, { on := 6, ground := Ground.data }], guard := none }) rfl (fun K hK => ?_) AllReadyH.nil
              go_simp
              refine (HKX.out _).mono ?_
              rintro e1 wk ⟨rfl, hb1⟩
              replace hk := hk.step hb1
              try replace hg := hg.step hb1
              try replace hh := hh.step hb1
              clear hb1
              refine hK.out _ _ hk (fun _ => ?_)
              clear hK K
              try simp only [Act.put, List.setIfInBounds_toArray, List.set_cons_zero, List.set_cons_succ]
              refine wpAnyH_ready (rs := [15]) (by decide +kernel) (by simp) ?_
              refine AllReadyH.cons (o := { dst := some 52, op := Op.call { callee := Callee.value (Operand.func 64), args := #[Operand.tmp 45, Operand.tmp 50, Operand.tmp 51], argTypes := #[42, 42, 4] }, type := 86, pos := "clash.go:78", after := #[{ on := 8, ground := Ground.data }, { on := 13, ground := Ground.data }, { on := 14, ground := Ground.data }, { on := 7, ground := Ground.chain }], guard := none }) rfl (fun K hK => ?_) AllReadyH.nil
              go_simp
              refine (HKY.out _).mono ?_
              rintro e1 wk ⟨rfl, hb1⟩
              replace hk := hk.step hb1
              try replace hg := hg.step hb1
              try replace hh := hh.step hb1
              clear hb1
              refine hK.out _ _ hk (fun _ => ?_)
              clear hK K
              try simp only [Act.put, List.setIfInBounds_toArray, List.set_cons_zero, List.set_cons_succ]
              refine wpAnyH_ready (rs := [18]) (by decide +kernel) (by simp) ?_
              refine AllReadyH.cons (o := { dst := none, op := Op.store 86 (Operand.tmp 16) (Operand.tmp 44), type := 0, pos := "clash.go:78", after := #[{ on := 16, ground := Ground.data }, { on := 7, ground := Ground.data }, { on := 15, ground := Ground.chain }, { on := 0, ground := Ground.phase }, { on := 1, ground := Ground.phase }, { on := 2, ground := Ground.phase }, { on := 3, ground := Ground.phase }, { on := 4, ground := Ground.phase }, { on := 5, ground := Ground.phase }, { on := 6, ground := Ground.phase }, { on := 7, ground := Ground.phase }, { on := 8, ground := Ground.textOnly Departure.lateStores }, { on := 9, ground := Ground.textOnly Departure.lateStores }, { on := 10, ground := Ground.textOnly Departure.lateStores }, { on := 11, ground := Ground.textOnly Departure.lateStores }, { on := 12, ground := Ground.textOnly Departure.lateStores }, { on := 13, ground := Ground.textOnly Departure.lateStores }, { on := 14, ground := Ground.textOnly Departure.lateStores }, { on := 15, ground := Ground.textOnly Departure.lateStoresUnsure }, { on := 16, ground := Ground.phase }, { on := 17, ground := Ground.phase }], guard := none }) rfl (fun K hK => ?_) AllReadyH.nil
              rw [if_pos (by rfl)]
              refine wp_store_mid 86 (.tmp 16) (.tmp 44) rfl g 0 (bv KX).toArray rfl rfl ?htcl541 HIX.out HOX.out ?_
              case htcl541 => exact hg.there HSX.out
              have hrg := hg.put (D := (bv KX).toArray) HSX.out
              have hgge := hg.ge
              replace hk := hk.but hgge (bv KX).toArray.toList
              replace hh := hh.but (Ne.symm hgh) (bv KX).toArray.toList
              clear hg
              generalize wk.setCells g 0 (bv KX).toArray.toList = wk at hk hrg hh ⊢
              simp only [Act.put]
              refine hK.out _ _ hk (fun _ => ?_)
              clear hK K
              try simp only [Act.put, List.setIfInBounds_toArray, List.set_cons_zero, List.set_cons_succ]
              refine wpAnyH_ready (rs := [19]) (by decide +kernel) (by simp) ?_
              refine AllReadyH.cons (o := { dst := none, op := Op.store 86 (Operand.tmp 17) (Operand.tmp 52), type := 0, pos := "clash.go:78", after := #[{ on := 17, ground := Ground.data }, { on := 15, ground := Ground.data }, { on := 18, ground := Ground.chain }, { on := 0, ground := Ground.phase }, { on := 1, ground := Ground.phase }, { on := 2, ground := Ground.phase }, { on := 3, ground := Ground.phase }, { on := 4, ground := Ground.phase }, { on := 5, ground := Ground.phase }, { on := 6, ground := Ground.phase }, { on := 7, ground := Ground.phase }, { on := 8, ground := Ground.phase }, { on := 9, ground := Ground.phase }, { on := 10, ground := Ground.phase }, { on := 11, ground := Ground.phase }, { on := 12, ground := Ground.phase }, { on := 13, ground := Ground.phase }, { on := 14, ground := Ground.phase }, { on := 15, ground := Ground.phase }, { on := 16, ground := Ground.phase }, { on := 17, ground := Ground.phase }, { on := 18, ground := Ground.phase }], guard := none }) rfl (fun K hK => ?_) AllReadyH.nil
              rw [if_pos (by rfl)]
              refine wp_store_mid 86 (.tmp 17) (.tmp 52) rfl h 0 (bv KY).toArray rfl rfl ?htcl542 HIY.out HOY.out ?_
              case htcl542 => exact hh.there HSY.out
              have hrh := hh.put (D := (bv KY).toArray) HSY.out
              have hhge := hh.ge
              replace hk := hk.but hhge (bv KY).toArray.toList
              replace hrg := row_but hrg hgh (bv KY).toArray.toList
              clear hh
              generalize wk.setCells h 0 (bv KY).toArray.toList = wk at hk hrg hrh ⊢
              simp only [Act.put]
              refine hK.out _ _ hk (fun _ => ?_)
              clear hK K
              try simp only [Act.put, List.setIfInBounds_toArray, List.set_cons_zero, List.set_cons_succ]
              refine wpAnyH_done (by decide +kernel) ?_ _
              go_wp2_with fail
              go_meet
              case rel => exact ⟨g, h, rfl, rfl, hgh, hgge, hhge, ⟨hk, hrg, hrh⟩⟩
          · rw [if_pos (by rfl)]
            refine wp_alloc_of 86 64 rfl two_zero ?_
            intro cs hcs
            have hh := TR.new (T := 86) (N0 := N0) (wr := wk) hk.size hcs
            have hbA : Below wk.heap.size wk (wk.alloc (.cells cs 86)) := (Below.refl _ _).alloc (Nat.le_refl _) _
            try have hgh := Nat.ne_of_lt hg.lt
            replace hk := hk.step hbA
            try replace hg := hg.step hbA
            clear hbA hcs
            first | (generalize wk.heap.size = h at hh hgh ⊢) | (generalize wk.heap.size = h at hh ⊢)
            first | (generalize wk.alloc (.cells cs 86) = wk at hh hg hk ⊢) | (generalize wk.alloc (.cells cs 86) = wk at hh hk ⊢)
            simp only [Act.put, List.setIfInBounds_toArray, List.set_cons_zero, List.set_cons_succ]
            refine hK.out _ _ hk (fun _ => ?_)
            clear hK K
            try simp only [Act.put, List.setIfInBounds_toArray, List.set_cons_zero, List.set_cons_succ]
            refine wpAnyH_ready (rs := [7, 16]) (by decide +kernel) (by simp) ?_
            refine (AllReadyH.cons (o := { dst := some 44, op := Op.call { callee := Callee.value (Operand.func 64), args := #[Operand.tmp 37, Operand.tmp 42, Operand.tmp 43], argTypes := #[42, 42, 4] }, type := 86, pos := "clash.go:78", after := #[{ on := 0, ground := Ground.data }, { on := 5, ground := Ground.data }, { on := 6, ground := Ground.data }], guard := none }) rfl (fun K hK => ?_) (AllReadyH.cons (o := { dst := some 16, op := Op.alloc 86, type := 0, pos := "clash.go:78", after := #[], guard := none }) rfl (fun K hK => ?_) AllReadyH.nil))
            · go_simp
              refine (HKX.out _).mono ?_
              rintro e1 wk ⟨rfl, hb1⟩
              replace hk := hk.step hb1
              try replace hg := hg.step hb1
              try replace hh := hh.step hb1
              clear hb1
              refine hK.out _ _ hk (fun _ => ?_)
              clear hK K
              try simp only [Act.put, List.setIfInBounds_toArray, List.set_cons_zero, List.set_cons_succ]
              refine wpAnyH_ready (rs := [15, 16]) (by decide +kernel) (by simp) ?_
              refine (AllReadyH.cons (o := { dst := some 52, op := Op.call { callee := Callee.value (Operand.func 64), args := #[Operand.tmp 45, Operand.tmp 50, Operand.tmp 51], argTypes := #[42, 42, 4] }, type := 86, pos := "clash.go:78", after := #[{ on := 8, ground := Ground.data }, { on := 13, ground := Ground.data }, { on := 14, ground := Ground.data }, { on := 7, ground := Ground.chain }], guard := none }) rfl (fun K hK => ?_) (AllReadyH.cons (o := { dst := some 16, op := Op.alloc 86, type := 0, pos := "clash.go:78", after := #[], guard := none }) rfl (fun K hK => ?_) AllReadyH.nil))
              · go_simp
                refine (HKY.out _).mono ?_
                rintro e1 wk ⟨rfl, hb1⟩
                replace hk := hk.step hb1
                try replace hg := hg.step hb1
                try replace hh := hh.step hb1
                clear hb1
                refine hK.out _ _ hk (fun _ => ?_)
                clear hK K
                try simp only [Act.put, List.setIfInBounds_toArray, List.set_cons_zero, List.set_cons_succ]
                refine wpAnyH_ready (rs := [16]) (by decide +kernel) (by simp) ?_
                refine AllReadyH.cons (o := { dst := some 16, op := Op.alloc 86, type := 0, pos := "clash.go:78", after := #[], guard := none }) rfl (fun K hK => ?_) AllReadyH.nil
                rw [if_pos (by rfl)]
                refine wp_alloc_of 86 64 rfl two_zero ?_
                intro cs hcs
                have hg := TR.new (T := 86) (N0 := N0) (wr := wk) hk.size hcs
                have hbA : Below wk.heap.size wk (wk.alloc (.cells cs 86)) := (Below.refl _ _).alloc (Nat.le_refl _) _
                try have hgh := Nat.ne_of_gt hh.lt
                replace hk := hk.step hbA
                try replace hh := hh.step hbA
                clear hbA hcs
                first | (generalize wk.heap.size = g at hg hgh ⊢) | (generalize wk.heap.size = g at hg ⊢)
                first | (generalize wk.alloc (.cells cs 86) = wk at hg hh hk ⊢) | (generalize wk.alloc (.cells cs 86) = wk at hg hk ⊢)
                simp only [Act.put, List.setIfInBounds_toArray, List.set_cons_zero, List.set_cons_succ]
                refine hK.out _ _ hk (fun _ => ?_)
                clear hK K
                try simp only [Act.put, List.setIfInBounds_toArray, List.set_cons_zero, List.set_cons_succ]
                refine wpAnyH_ready (rs := [18]) (by decide +kernel) (by simp) ?_
                refine AllReadyH.cons (o := { dst := none, op := Op.store 86 (Operand.tmp 16) (Operand.tmp 44), type := 0, pos := "clash.go:78", after := #[{ on := 16, ground := Ground.data }, { on := 7, ground := Ground.data }, { on := 15, ground := Ground.chain }, { on := 0, ground := Ground.phase }, { on := 1, ground := Ground.phase }, { on := 2, ground := Ground.phase }, { on := 3, ground := Ground.phase }, { on := 4, ground := Ground.phase }, { on := 5, ground := Ground.phase }, { on := 6, ground := Ground.phase }, { on := 7, ground := Ground.phase }, { on := 8, ground := Ground.textOnly Departure.lateStores }, { on := 9, ground := Ground.textOnly Departure.lateStores }, { on := 10, ground := Ground.textOnly Departure.lateStores }, { on := 11, ground := Ground.textOnly Departure.lateStores }, { on := 12, ground := Ground.textOnly Departure.lateStores }, { on := 13, ground := Ground.textOnly Departure.lateStores }, { on := 14, ground := Ground.textOnly Departure.lateStores }, { on := 15, ground := Ground.textOnly Departure.lateStoresUnsure }, { on := 16, ground := Ground.phase }, { on := 17, ground := Ground.phase }], guard := none }) rfl (fun K hK => ?_) AllReadyH.nil
                rw [if_pos (by rfl)]
                refine wp_store_mid 86 (.tmp 16) (.tmp 44) rfl g 0 (bv KX).toArray rfl rfl ?htcl545 HIX.out HOX.out ?_
                case htcl545 => exact hg.there HSX.out
                have hrg := hg.put (D := (bv KX).toArray) HSX.out
                have hgge := hg.ge
                replace hk := hk.but hgge (bv KX).toArray.toList
                replace hh := hh.but (Ne.symm hgh) (bv KX).toArray.toList
                clear hg
                generalize wk.setCells g 0 (bv KX).toArray.toList = wk at hk hrg hh ⊢
                simp only [Act.put]
                refine hK.out _ _ hk (fun _ => ?_)
                clear hK K
                try simp only [Act.put, List.setIfInBounds_toArray, List.set_cons_zero, List.set_cons_succ]
                refine wpAnyH_ready (rs := [19]) (by decide +kernel) (by simp) ?_
                refine AllReadyH.cons (o := { dst := none, op := Op.store 86 (Operand.tmp 17) (Operand.tmp 52), type := 0, pos := "clash.go:78", after := #[{ on := 17, ground := Ground.data }, { on := 15, ground := Ground.data }, { on := 18, ground := Ground.chain }, { on := 0, ground := Ground.phase }, { on := 1, ground := Ground.phase }, { on := 2, ground := Ground.phase }, { on := 3, ground := Ground.phase }, { on := 4, ground := Ground.phase }, { on := 5, ground := Ground.phase }, { on := 6, ground := Ground.phase }, { on := 7, ground := Ground.phase }, { on := 8, ground := Ground.phase }, { on := 9, ground := Ground.phase }, { on := 10, ground := Ground.phase }, { on := 11, ground := Ground.phase }, { on := 12, ground := Ground.phase }, { on := 13, ground := Ground.phase }, { on := 14, ground := Ground.phase }, { on := 15, ground := Ground.phase }, { on := 16, ground := Ground.phase }, { on := 17, ground := Ground.phase }, { on := 18, ground := Ground.phase }], guard := none }) rfl (fun K hK => ?_) AllReadyH.nil
                rw [if_pos (by rfl)]
                refine wp_store_mid 86 (.tmp 17) (.tmp 52) rfl h 0 (bv KY).toArray rfl rfl ?htcl546 HIY.out HOY.out ?_
                case htcl546 => exact hh.there HSY.out
                have hrh := hh.put (D := (bv KY).toArray) HSY.out
                have hhge := hh.ge
                replace hk := hk.but hhge (bv KY).toArray.toList
                replace hrg := row_but hrg hgh (bv KY).toArray.toList
                clear hh
                generalize wk.setCells h 0 (bv KY).toArray.toList = wk at hk hrg hrh ⊢
                simp only [Act.put]
                refine hK.out _ _ hk (fun _ => ?_)
                clear hK K
                try simp only [Act.put, List.setIfInBounds_toArray, List.set_cons_zero, List.set_cons_succ]
                refine wpAnyH_done (by decide +kernel) ?_ _
                go_wp2_with fail
                go_meet
                case rel => exact ⟨g, h, rfl, rfl, hgh, hgge, hhge, ⟨hk, hrg, hrh⟩⟩
              · rw [if_pos (by rfl)]
                refine wp_alloc_of 86 64 rfl two_zero ?_
                intro cs hcs
                have hg := TR.new (T := 86) (N0 := N0) (wr := wk) hk.size hcs
                have hbA : Below wk.heap.size wk (wk.alloc (.cells cs 86)) := (Below.refl _ _).alloc (Nat.le_refl _) _
                try have hgh := Nat.ne_of_gt hh.lt
                replace hk := hk.step hbA
                try replace hh := hh.step hbA
                clear hbA hcs
                first | (generalize wk.heap.size = g at hg hgh ⊢) | (generalize wk.heap.size = g at hg ⊢)
                first | (generalize wk.alloc (.cells cs 86) = wk at hg hh hk ⊢) | (generalize wk.alloc (.cells cs 86) = wk at hg hk ⊢)
                simp only [Act.put, List.setIfInBounds_toArray, List.set_cons_zero, List.set_cons_succ]
                refine hK.out _ _ hk (fun _ => ?_)
                clear hK K
                try simp only [Act.put, List.setIfInBounds_toArray, List.set_cons_zero, List.set_cons_succ]
                refine wpAnyH_ready (rs := [15]) (by decide +kernel) (by simp) ?_
                refine AllReadyH.cons (o := { dst := some 52, op := Op.call { callee := Callee.value (Operand.func 64), args := #[Operand.tmp 45, Operand.tmp 50, Operand.tmp 51], argTypes := #[42, 42, 4] }, type := 86, pos := "clash.go:78", after := #[{ on := 8, ground := Ground.data }, { on := 13, ground := Ground.data }, { on := 14, ground := Ground.data }, { on := 7, ground := Ground.chain }], guard := none }) rfl (fun K hK => ?_) AllReadyH.nil
                go_simp
                refine (HKY.out _).mono ?_
                rintro e1 wk ⟨rfl, hb1⟩
                replace hk := hk.step hb1
                try replace hg := hg.step hb1
                try replace hh := hh.step hb1
                clear hb1
                refine hK.out _ _ hk (fun _ => ?_)
                clear hK K
                try simp only [Act.put, List.setIfInBounds_toArray, List.set_cons_zero, List.set_cons_succ]
                refine wpAnyH_ready (rs := [18]) (by decide +kernel) (by simp) ?_
                refine AllReadyH.cons (o := { dst := none, op := Op.store 86 (Operand.tmp 16) (Operand.tmp 44), type := 0, pos := "clash.go:78", after := #[{ on := 16, ground := Ground.data }, { on := 7, ground := Ground.data }, { on := 15, ground := Ground.chain }, { on := 0, ground := Ground.phase }, { on := 1, ground := Ground.phase }, { on := 2, ground := Ground.phase }, { on := 3, ground := Ground.phase }, { on := 4, ground := Ground.phase }, { on := 5, ground := Ground.phase }, { on := 6, ground := Ground.phase }, { on := 7, ground := Ground.phase }, { on := 8, ground := Ground.textOnly Departure.lateStores }, { on := 9, ground := Ground.textOnly Departure.lateStores }, { on := 10, ground := Ground.textOnly Departure.lateStores }, { on := 11, ground := Ground.textOnly Departure.lateStores }, { on := 12, ground := Ground.textOnly Departure.lateStores }, { on := 13, ground := Ground.textOnly Departure.lateStores }, { on := 14, ground := Ground.textOnly Departure.lateStores }, { on := 15, ground := Ground.textOnly Departure.lateStoresUnsure }, { on := 16, ground := Ground.phase }, { on := 17, ground := Ground.phase }], guard := none }) rfl (fun K hK => ?_) AllReadyH.nil
                rw [if_pos (by rfl)]
                refine wp_store_mid 86 (.tmp 16) (.tmp 44) rfl g 0 (bv KX).toArray rfl rfl ?htcl548 HIX.out HOX.out ?_
                case htcl548 => exact hg.there HSX.out
                have hrg := hg.put (D := (bv KX).toArray) HSX.out
                have hgge := hg.ge
                replace hk := hk.but hgge (bv KX).toArray.toList
                replace hh := hh.but (Ne.symm hgh) (bv KX).toArray.toList
                clear hg
                generalize wk.setCells g 0 (bv KX).toArray.toList = wk at hk hrg hh ⊢
                simp only [Act.put]
                refine hK.out _ _ hk (fun _ => ?_)
                clear hK K
                try simp only [Act.put, List.setIfInBounds_toArray, List.set_cons_zero, List.set_cons_succ]
                refine wpAnyH_ready (rs := [19]) (by decide +kernel) (by simp) ?_
                refine AllReadyH.cons (o := { dst := none, op := Op.store 86 (Operand.tmp 17) (Operand.tmp 52), type := 0, pos := "clash.go:78", after := #[{ on := 17, ground := Ground.data }, { on := 15, ground := Ground.data }, { on := 18, ground := Ground.chain }, { on := 0, ground := Ground.phase }, { on := 1, ground := Ground.phase }, { on := 2, ground := Ground.phase }, { on := 3, ground := Ground.phase }, { on := 4, ground := Ground.phase }, { on := 5, ground := Ground.phase }, { on := 6, ground := Ground.phase }, { on := 7, ground := Ground.phase }, { on := 8, ground := Ground.phase }, { on := 9, ground := Ground.phase }, { on := 10, ground := Ground.phase }, { on := 11, ground := Ground.phase }, { on := 12, ground := Ground.phase }, { on := 13, ground := Ground.phase }, { on := 14, ground := Ground.phase }, { on := 15, ground := Ground.phase }, { on := 16, ground := Ground.phase }, { on := 17, ground := Ground.phase }, { on := 18, ground := Ground.phase }], guard := none }) rfl (fun K hK => ?_) AllReadyH.nil
                rw [if_pos (by rfl)]
                refine wp_store_mid 86 (.tmp 17) (.tmp 52) rfl h 0 (bv KY).toArray rfl rfl ?htcl549 HIY.out HOY.out ?_
                case htcl549 => exact hh.there HSY.out
                have hrh := hh.put (D := (bv KY).toArray) HSY.out
                have hhge := hh.ge
                replace hk := hk.but hhge (bv KY).toArray.toList
                replace hrg := row_but hrg hgh (bv KY).toArray.toList
                clear hh
                generalize wk.setCells h 0 (bv KY).toArray.toList = wk at hk hrg hrh ⊢
                simp only [Act.put]
                refine hK.out _ _ hk (fun _ => ?_)
                clear hK K
                try simp only [Act.put, List.setIfInBounds_toArray, List.set_cons_zero, List.set_cons_succ]
                refine wpAnyH_done (by decide +kernel) ?_ _
                go_wp2_with fail
                go_meet
                case rel => exact ⟨g, h, rfl, rfl, hgh, hgge, hhge, ⟨hk, hrg, hrh⟩⟩
            · rw [if_pos (by rfl)]
              refine wp_alloc_of 86 64 rfl two_zero ?_
              intro cs hcs
              have hg := TR.new (T := 86) (N0 := N0) (wr := wk) hk.size hcs
              have hbA : Below wk.heap.size wk (wk.alloc (.cells cs 86)) := (Below.refl _ _).alloc (Nat.le_refl _) _
              try have hgh := Nat.ne_of_gt hh.lt
              replace hk := hk.step hbA
              try replace hh := hh.step hbA
              clear hbA hcs
              first | (generalize wk.heap.size = g at hg hgh ⊢) | (generalize wk.heap.size = g at hg ⊢)
              first | (generalize wk.alloc (.cells cs 86) = wk at hg hh hk ⊢) | (generalize wk.alloc (.cells cs 86) = wk at hg hk ⊢)
              simp only [Act.put, List.setIfInBounds_toArray, List.set_cons_zero, List.set_cons_succ]
              refine hK.out _ _ hk (fun _ => ?_)
              clear hK K
              try simp only [Act.put, List.setIfInBounds_toArray, List.set_cons_zero, List.set_cons_succ]
              refine wpAnyH_ready (rs := [7]) (by decide +kernel) (by simp) ?_
              refine AllReadyH.cons (o := { dst := some 44, op := Op.call { callee := Callee.value (Operand.func 64), args := #[Operand.tmp 37, Operand.tmp 42, Operand.tmp 43], argTypes := #[42, 42, 4] }, type := 86, pos := "clash.go:78", after := #[{ on := 0, ground := Ground.data }, { on := 5, ground := Ground.data }, { on := 6, ground := Ground.data }], guard := none }) rfl (fun K hK => ?_) AllReadyH.nil
              go_simp
              refine (HKX.out _).mono ?_
              rintro e1 wk ⟨rfl, hb1⟩
              replace hk := hk.step hb1
              try replace hg := hg.step hb1
              try replace hh := hh.step hb1
              clear hb1
              refine hK.out _ _ hk (fun _ => ?_)
              clear hK K
              try simp only [Act.put, List.setIfInBounds_toArray, List.set_cons_zero, List.set_cons_succ]
              refine wpAnyH_ready (rs := [15]) (by decide +kernel) (by simp) ?_
              refine AllReadyH.cons (o := { dst := some 52, op := Op.call { callee := Callee.value (Operand.func 64), args := #[Operand.tmp 45, Operand.tmp 50, Operand.tmp 51], argTypes := #[42, 42, 4] }, type := 86, pos := "clash.go:78", after := #[{ on := 8, ground := Ground.data }, { on := 13, ground := Ground.data }, { on := 14, ground := Ground.data }, { on := 7, ground := Ground.chain }], guard := none }) rfl (fun K hK => ?_) AllReadyH.nil
              go_simp
              refine (HKY.out _).mono ?_
              rintro e1 wk ⟨rfl, hb1⟩
              replace hk := hk.step hb1
              try replace hg := hg.step hb1
              try replace hh := hh.step hb1
              clear hb1
              refine hK.out _ _ hk (fun _ => ?_)
              clear hK K
              try simp only [Act.put, List.setIfInBounds_toArray, List.set_cons_zero, List.set_cons_succ]
              refine wpAnyH_ready (rs := [18]) (by decide +kernel) (by simp) ?_
              refine AllReadyH.cons (o := { dst := none, op := Op.store 86 (Operand.tmp 16) (Operand.tmp 44), type := 0, pos := "clash.go:78", after := #[{ on := 16, ground := Ground.data }, { on := 7, ground := Ground.data }, { on := 15, ground := Ground.chain }, { on := 0, ground := Ground.phase }, { on := 1, ground := Ground.phase }, { on := 2, ground := Ground.phase }, { on := 3, ground := Ground.phase }, { on := 4, ground := Ground.phase }, { on := 5, ground := Ground.phase }, { on := 6, ground := Ground.phase }, { on := 7, ground := Ground.phase }, { on := 8, ground := Ground.textOnly Departure.lateStores }, { on := 9, ground := Ground.textOnly Departure.lateStores }, { on := 10, ground := Ground.textOnly Departure.lateStores }, { on := 11, ground := Ground.textOnly Departure.lateStores }, { on := 12, ground := Ground.textOnly Departure.lateStores }, { on := 13, ground := Ground.textOnly Departure.lateStores }, { on := 14, ground := Ground.textOnly Departure.lateStores }, { on := 15, ground := Ground.textOnly Departure.lateStoresUnsure }, { on := 16, ground := Ground.phase }, { on := 17, ground := Ground.phase }], guard := none }) rfl (fun K hK => ?_) AllReadyH.nil
              rw [if_pos (by rfl)]
              refine wp_store_mid 86 (.tmp 16) (.tmp 44) rfl g 0 (bv KX).toArray rfl rfl ?htcl551 HIX.out HOX.out ?_
              case htcl551 => exact hg.there HSX.out
              have hrg := hg.put (D := (bv KX).toArray) HSX.out
              have hgge := hg.ge
              replace hk := hk.but hgge (bv KX).toArray.toList
              replace hh := hh.but (Ne.symm hgh) (bv KX).toArray.toList
              clear hg
              generalize wk.setCells g 0 (bv KX).toArray.toList = wk at hk hrg hh ⊢
              simp only [Act.put]
              refine hK.out _ _ hk (fun _ => ?_)
              clear hK K
              try simp only [Act.put, List.setIfInBounds_toArray, List.set_cons_zero, List.set_cons_succ]
              refine wpAnyH_ready (rs := [19]) (by decide +kernel) (by simp) ?_
              refine AllReadyH.cons (o := { dst := none, op := Op.store 86 (Operand.tmp 17) (Operand.tmp 52), type := 0, pos := "clash.go:78", after := #[{ on := 17, ground := Ground.data }, { on := 15, ground := Ground.data }, { on := 18, ground := Ground.chain }, { on := 0, ground := Ground.phase }, { on := 1, ground := Ground.phase }, { on := 2, ground := Ground.phase }, { on := 3, ground := Ground.phase }, { on := 4, ground := Ground.phase }, { on := 5, ground := Ground.phase }, { on := 6, ground := Ground.phase }, { on := 7, ground := Ground.phase }, { on := 8, ground := Ground.phase }, { on := 9, ground := Ground.phase }, { on := 10, ground := Ground.phase }, { on := 11, ground := Ground.phase }, { on := 12, ground := Ground.phase }, { on := 13, ground := Ground.phase }, { on := 14, ground := Ground.phase }, { on := 15, ground := Ground.phase }, { on := 16, ground := Ground.phase }, { on := 17, ground := Ground.phase }, { on := 18, ground := Ground.phase }], guard := none }) rfl (fun K hK => ?_) AllReadyH.nil
              rw [if_pos (by rfl)]
              refine wp_store_mid 86 (.tmp 17) (.tmp 52) rfl h 0 (bv KY).toArray rfl rfl ?htcl552 HIY.out HOY.out ?_
              case htcl552 => exact hh.there HSY.out
              have hrh := hh.put (D := (bv KY).toArray) HSY.out
              have hhge := hh.ge
              replace hk := hk.but hhge (bv KY).toArray.toList
              replace hrg := row_but hrg hgh (bv KY).toArray.toList
              clear hh
              generalize wk.setCells h 0 (bv KY).toArray.toList = wk at hk hrg hrh ⊢
              simp only [Act.put]
              refine hK.out _ _ hk (fun _ => ?_)
              clear hK K
              try simp only [Act.put, List.setIfInBounds_toArray, List.set_cons_zero, List.set_cons_succ]
              refine wpAnyH_done (by decide +kernel) ?_ _
              go_wp2_with fail
              go_meet
              case rel => exact ⟨g, h, rfl, rfl, hgh, hgge, hhge, ⟨hk, hrg, hrh⟩⟩
        case rest =>
          clear hcb hsd HKX HKY hrp hrq hdp hdq hw1 hs0 hsmI
          obtain ⟨g, h, rfl, rfl, hgh, hgge, hhge, hcd⟩ := hcut
          have HTX : Bx (∀ W, Calls Tryd.prog 65 #[.agg (bv KX).toArray] W fun e w' => ∃ a c, e = .returned (.slice a 65 c) ∧ Bts w' a 65 c (1 :: KX) ∧ Below W.heap.size W w') := ⟨fun W => nodetext_any KX W hKXl hKXb⟩
          have HTY : Bx (∀ W, Calls Tryd.prog 65 #[.agg (bv KY).toArray] W fun e w' => ∃ a c, e = .returned (.slice a 65 c) ∧ Bts w' a 65 c (1 :: KY) ∧ Below W.heap.size W w') := ⟨fun W => nodetext_any KY W hKYl hKYb⟩
          have hdX : (Tryd.prog.info? 86).map (·.size) = some (bv KX).length := by rw [bv_length, hKXl]; exact two_info
          have hdY : (Tryd.prog.info? 86).map (·.size) = some (bv KY).length := by rw [bv_length, hKYl]; exact two_info
          clear HSX HSY HIX HIY HOX HOY
          go_upto_region 6 with fail
          go_cut [18] from 53 to 57 (fun s18 wx => ∃ f a4 c4 a5 c5, s18 = .pointer (some ⟨f, 0, none⟩) ∧ CD N0 R Vx Vy G k SL X Y g h KX KY w wx ∧ wx.heap[f]? = some (.cells #[.slice a4 65 c4, .slice a5 65 c5] 25 (0, 0)) ∧ Bts wx a4 65 c4 (1 :: KX) ∧ Bts wx a5 65 c5 (1 :: KY))
          case first =>
            have hk : CD N0 R Vx Vy G k SL X Y g h KX KY w wc.drew := hcd.drewN 1
            clear hcd
            refine wp_region_held_drew (S := fun W => CD N0 R Vx Vy G k SL X Y g h KX KY w W) (by kernel_rfl) hk (fun _ => ?_)
            generalize wc.drew = wk at hk ⊢
            refine wpAnyH_take (i := 0) (oi := { dst := some 53, op := Op.load 86 (Operand.tmp 16), type := 86, pos := "clash.go:79", after := #[], guard := none }) (v := .agg (bv KX).toArray) rfl (by kernel_rfl) (by kernel_rfl) (by kernel_rfl) (fun _ _ _ h => h) (yieldsIf_load_mid (by rfl) 86 (.tmp 16) rfl g 0 rfl (bv KX) _ (fun W h => range_row h.rg) Tryd.underlying86 rfl hdX) hk ?_
            simp only [Act.put, List.setIfInBounds_toArray, List.set_cons_zero, List.set_cons_succ]
            refine wpAnyH_take (i := 2) (oi := { dst := some 55, op := Op.load 86 (Operand.tmp 17), type := 86, pos := "clash.go:79", after := #[], guard := none }) (v := .agg (bv KY).toArray) rfl (by kernel_rfl) (by kernel_rfl) (by kernel_rfl) (fun _ _ _ h => h) (yieldsIf_load_mid (by rfl) 86 (.tmp 17) rfl h 0 rfl (bv KY) _ (fun W h => range_row h.rh) Tryd.underlying86 rfl hdY) hk ?_
            simp only [Act.put, List.setIfInBounds_toArray, List.set_cons_zero, List.set_cons_succ]
            refine wpAnyH_ready (rs := [1, 5]) (by decide +kernel) (by simp) ?_
            refine (AllReadyH.cons (o := { dst := some 54, op := Op.call { callee := Callee.value (Operand.func 65), args := #[Operand.tmp 53], argTypes := #[86] }, type := 22, pos := "clash.go:79", after := #[{ on := 0, ground := Ground.data }], guard := none }) rfl (fun K hK => ?_) (AllReadyH.cons (o := { dst := some 18, op := Op.alloc 25, type := 0, pos := "clash.go:79", after := #[], guard := none }) rfl (fun K hK => ?_) AllReadyH.nil))
            · go_simp
              refine (HTX.out _).mono ?_
              rintro e1 wk ⟨a4, c4, rfl, hB4, hb1⟩
              replace hk := hk.step hb1
              try replace hf := hf.step hb1
              clear hb1
              refine hK.out _ _ hk (fun _ => ?_)
              clear hK K
              try simp only [Act.put, List.setIfInBounds_toArray, List.set_cons_zero, List.set_cons_succ]
              refine wpAnyH_ready (rs := [3, 5]) (by decide +kernel) (by simp) ?_
              refine (AllReadyH.cons (o := { dst := some 56, op := Op.call { callee := Callee.value (Operand.func 65), args := #[Operand.tmp 55], argTypes := #[86] }, type := 22, pos := "clash.go:79", after := #[{ on := 2, ground := Ground.data }, { on := 1, ground := Ground.chain }], guard := none }) rfl (fun K hK => ?_) (AllReadyH.cons (o := { dst := some 18, op := Op.alloc 25, type := 0, pos := "clash.go:79", after := #[], guard := none }) rfl (fun K hK => ?_) AllReadyH.nil))
              · go_simp
                refine (HTY.out _).mono ?_
                rintro e1 wk ⟨a5, c5, rfl, hB5, hb1⟩
                replace hk := hk.step hb1
                try replace hB4 := hB4.below hb1
                try replace hf := hf.step hb1
                clear hb1
                refine hK.out _ _ hk (fun _ => ?_)
                clear hK K
                try simp only [Act.put, List.setIfInBounds_toArray, List.set_cons_zero, List.set_cons_succ]
                refine wpAnyH_take (i := 4) (oi := { dst := some 57, op := Op.build 25 #[(0, Operand.tmp 54), (1, Operand.tmp 56)], type := 25, pos := "clash.go:79", after := #[{ on := 1, ground := Ground.data }, { on := 3, ground := Ground.data }], guard := none }) (v := ?vcl61) rfl (by kernel_rfl) (by kernel_rfl) (by kernel_rfl) (fun _ _ _ h => h) (Or.inl ⟨by rfl, ?ycl61⟩) hk ?rcl61
                case ycl61 => (intro w hSw; (try dsimp only at hSw); go_simp; first | done | with_reducible rfl)
                simp only [Act.put, List.setIfInBounds_toArray, List.set_cons_zero, List.set_cons_succ]
                refine wpAnyH_ready (rs := [5]) (by decide +kernel) (by simp) ?_
                refine AllReadyH.cons (o := { dst := some 18, op := Op.alloc 25, type := 0, pos := "clash.go:79", after := #[], guard := none }) rfl (fun K hK => ?_) AllReadyH.nil
                rw [if_pos (by rfl)]
                refine wp_alloc_of 25 2 rfl cls_zero ?_
                intro cs hcs
                have hf := TR.new (T := 25) (N0 := N0) (wr := wk) hk.cb.size hcs
                have hbA : Below wk.heap.size wk (wk.alloc (.cells cs 25)) := (Below.refl _ _).alloc (Nat.le_refl _) _
                have hgf : g ≠ wk.heap.size := Nat.ne_of_lt (Array.getElem?_eq_some_iff.1 hk.rg).1
                have hhf : h ≠ wk.heap.size := Nat.ne_of_lt (Array.getElem?_eq_some_iff.1 hk.rh).1
                replace hk := hk.step hbA
                try replace hB4 := hB4.below hbA
                try replace hB5 := hB5.below hbA
                clear hbA hcs
                generalize wk.heap.size = f at hf hgf hhf ⊢
                first | (generalize wk.alloc (.cells cs 25) = wk at hf hk hB4 hB5 ⊢) | (generalize wk.alloc (.cells cs 25) = wk at hf hk hB4 ⊢) | (generalize wk.alloc (.cells cs 25) = wk at hf hk ⊢)
                simp only [Act.put, List.setIfInBounds_toArray, List.set_cons_zero, List.set_cons_succ]
                refine hK.out _ _ hk (fun _ => ?_)
                clear hK K
                try simp only [Act.put, List.setIfInBounds_toArray, List.set_cons_zero, List.set_cons_succ]
                refine wpAnyH_ready (rs := [6]) (by decide +kernel) (by simp) ?_
                refine AllReadyH.cons (o := { dst := none, op := Op.store 25 (Operand.tmp 18) (Operand.tmp 57), type := 0, pos := "clash.go:79", after := #[{ on := 5, ground := Ground.data }, { on := 4, ground := Ground.data }, { on := 3, ground := Ground.chain }, { on := 0, ground := Ground.phase }, { on := 1, ground := Ground.phase }, { on := 2, ground := Ground.phase }, { on := 3, ground := Ground.phase }, { on := 4, ground := Ground.phase }, { on := 5, ground := Ground.phase }], guard := none }) rfl (fun K hK => ?_) AllReadyH.nil
                rw [if_pos (by rfl)]
                refine wp_store_mid 25 (.tmp 18) (.tmp 57) rfl f 0 #[.slice a4 65 c4, .slice a5 65 c5] rfl rfl ?htcl63 cls_info (cls_one ..) ?_
                case htcl63 => exact hf.there rfl
                have hrf := hf.put (D := #[.slice a4 65 c4, .slice a5 65 c5]) rfl
                have hfge := hf.ge
                replace hk := hk.but hfge hgf hhf (#[.slice a4 65 c4, .slice a5 65 c5] : Array Value).toList
                replace hB4 := bts_far hB4 hf (by decide) (#[.slice a4 65 c4, .slice a5 65 c5] : Array Value).toList
                replace hB5 := bts_far hB5 hf (by decide) (#[.slice a4 65 c4, .slice a5 65 c5] : Array Value).toList
                clear hf
                generalize wk.setCells f 0 (#[.slice a4 65 c4, .slice a5 65 c5] : Array Value).toList = wk at hk hrf hB4 hB5 ⊢
                simp only [Act.put]
                refine hK.out _ _ hk (fun _ => ?_)
                clear hK K
                try simp only [Act.put, List.setIfInBounds_toArray, List.set_cons_zero, List.set_cons_succ]
                refine wpAnyH_done (by decide +kernel) ?_ _
                go_wp2_with fail
                go_meet
                case rel => exact ⟨f, a4, c4, a5, c5, rfl, hk, hrf, hB4, hB5⟩
              · rw [if_pos (by rfl)]
                refine wp_alloc_of 25 2 rfl cls_zero ?_
                intro cs hcs
                have hf := TR.new (T := 25) (N0 := N0) (wr := wk) hk.cb.size hcs
                have hbA : Below wk.heap.size wk (wk.alloc (.cells cs 25)) := (Below.refl _ _).alloc (Nat.le_refl _) _
                have hgf : g ≠ wk.heap.size := Nat.ne_of_lt (Array.getElem?_eq_some_iff.1 hk.rg).1
                have hhf : h ≠ wk.heap.size := Nat.ne_of_lt (Array.getElem?_eq_some_iff.1 hk.rh).1
                replace hk := hk.step hbA
                try replace hB4 := hB4.below hbA
                try replace hB5 := hB5.below hbA
                clear hbA hcs
                generalize wk.heap.size = f at hf hgf hhf ⊢
                first | (generalize wk.alloc (.cells cs 25) = wk at hf hk hB4 hB5 ⊢) | (generalize wk.alloc (.cells cs 25) = wk at hf hk hB4 ⊢) | (generalize wk.alloc (.cells cs 25) = wk at hf hk ⊢)
                simp only [Act.put, List.setIfInBounds_toArray, List.set_cons_zero, List.set_cons_succ]
                refine hK.out _ _ hk (fun _ => ?_)
                clear hK K
                try simp only [Act.put, List.setIfInBounds_toArray, List.set_cons_zero, List.set_cons_succ]
                refine wpAnyH_ready (rs := [3]) (by decide +kernel) (by simp) ?_
                refine AllReadyH.cons (o := { dst := some 56, op := Op.call { callee := Callee.value (Operand.func 65), args := #[Operand.tmp 55], argTypes := #[86] }, type := 22, pos := "clash.go:79", after := #[{ on := 2, ground := Ground.data }, { on := 1, ground := Ground.chain }], guard := none }) rfl (fun K hK => ?_) AllReadyH.nil
                go_simp
                refine (HTY.out _).mono ?_
                rintro e1 wk ⟨a5, c5, rfl, hB5, hb1⟩
                replace hk := hk.step hb1
                try replace hB4 := hB4.below hb1
                try replace hf := hf.step hb1
                clear hb1
                refine hK.out _ _ hk (fun _ => ?_)
                clear hK K
                try simp only [Act.put, List.setIfInBounds_toArray, List.set_cons_zero, List.set_cons_succ]
                refine wpAnyH_take (i := 4) (oi := { dst := some 57, op := Op.build 25 #[(0, Operand.tmp 54), (1, Operand.tmp 56)], type := 25, pos := "clash.go:79", after := #[{ on := 1, ground := Ground.data }, { on := 3, ground := Ground.data }], guard := none }) (v := ?vcl65) rfl (by kernel_rfl) (by kernel_rfl) (by kernel_rfl) (fun _ _ _ h => h) (Or.inl ⟨by rfl, ?ycl65⟩) hk ?rcl65
                case ycl65 => (intro w hSw; (try dsimp only at hSw); go_simp; first | done | with_reducible rfl)
                simp only [Act.put, List.setIfInBounds_toArray, List.set_cons_zero, List.set_cons_succ]
                refine wpAnyH_ready (rs := [6]) (by decide +kernel) (by simp) ?_
                refine AllReadyH.cons (o := { dst := none, op := Op.store 25 (Operand.tmp 18) (Operand.tmp 57), type := 0, pos := "clash.go:79", after := #[{ on := 5, ground := Ground.data }, { on := 4, ground := Ground.data }, { on := 3, ground := Ground.chain }, { on := 0, ground := Ground.phase }, { on := 1, ground := Ground.phase }, { on := 2, ground := Ground.phase }, { on := 3, ground := Ground.phase }, { on := 4, ground := Ground.phase }, { on := 5, ground := Ground.phase }], guard := none }) rfl (fun K hK => ?_) AllReadyH.nil
                rw [if_pos (by rfl)]
                refine wp_store_mid 25 (.tmp 18) (.tmp 57) rfl f 0 #[.slice a4 65 c4, .slice a5 65 c5] rfl rfl ?htcl66 cls_info (cls_one ..) ?_
                case htcl66 => exact hf.there rfl
                have hrf := hf.put (D := #[.slice a4 65 c4, .slice a5 65 c5]) rfl
                have hfge := hf.ge
                replace hk := hk.but hfge hgf hhf (#[.slice a4 65 c4, .slice a5 65 c5] : Array Value).toList
                replace hB4 := bts_far hB4 hf (by decide) (#[.slice a4 65 c4, .slice a5 65 c5] : Array Value).toList
                replace hB5 := bts_far hB5 hf (by decide) (#[.slice a4 65 c4, .slice a5 65 c5] : Array Value).toList
                clear hf
                generalize wk.setCells f 0 (#[.slice a4 65 c4, .slice a5 65 c5] : Array Value).toList = wk at hk hrf hB4 hB5 ⊢
                simp only [Act.put]
                refine hK.out _ _ hk (fun _ => ?_)
                clear hK K
                try simp only [Act.put, List.setIfInBounds_toArray, List.set_cons_zero, List.set_cons_succ]
                refine wpAnyH_done (by decide +kernel) ?_ _
                go_wp2_with fail
                go_meet
                case rel => exact ⟨f, a4, c4, a5, c5, rfl, hk, hrf, hB4, hB5⟩
            · rw [if_pos (by rfl)]
              refine wp_alloc_of 25 2 rfl cls_zero ?_
              intro cs hcs
              have hf := TR.new (T := 25) (N0 := N0) (wr := wk) hk.cb.size hcs
              have hbA : Below wk.heap.size wk (wk.alloc (.cells cs 25)) := (Below.refl _ _).alloc (Nat.le_refl _) _
              have hgf : g ≠ wk.heap.size := Nat.ne_of_lt (Array.getElem?_eq_some_iff.1 hk.rg).1
              have hhf : h ≠ wk.heap.size := Nat.ne_of_lt (Array.getElem?_eq_some_iff.1 hk.rh).1
              replace hk := hk.step hbA
              try replace hB4 := hB4.below hbA
              try replace hB5 := hB5.below hbA
              clear hbA hcs
              generalize wk.heap.size = f at hf hgf hhf ⊢
              first | (generalize wk.alloc (.cells cs 25) = wk at hf hk hB4 hB5 ⊢) | (generalize wk.alloc (.cells cs 25) = wk at hf hk hB4 ⊢) | (generalize wk.alloc (.cells cs 25) = wk at hf hk ⊢)
              simp only [Act.put, List.setIfInBounds_toArray, List.set_cons_zero, List.set_cons_succ]
              refine hK.out _ _ hk (fun _ => ?_)
              clear hK K
              try simp only [Act.put, List.setIfInBounds_toArray, List.set_cons_zero, List.set_cons_succ]
              refine wpAnyH_ready (rs := [1]) (by decide +kernel) (by simp) ?_
              refine AllReadyH.cons (o := { dst := some 54, op := Op.call { callee := Callee.value (Operand.func 65), args := #[Operand.tmp 53], argTypes := #[86] }, type := 22, pos := "clash.go:79", after := #[{ on := 0, ground := Ground.data }], guard := none }) rfl (fun K hK => ?_) AllReadyH.nil
              go_simp
              refine (HTX.out _).mono ?_
              rintro e1 wk ⟨a4, c4, rfl, hB4, hb1⟩
              replace hk := hk.step hb1
              try replace hf := hf.step hb1
              clear hb1
              refine hK.out _ _ hk (fun _ => ?_)
              clear hK K
              try simp only [Act.put, List.setIfInBounds_toArray, List.set_cons_zero, List.set_cons_succ]
              refine wpAnyH_ready (rs := [3]) (by decide +kernel) (by simp) ?_
              refine AllReadyH.cons (o := { dst := some 56, op := Op.call { callee := Callee.value (Operand.func 65), args := #[Operand.tmp 55], argTypes := #[86] }, type := 22, pos := "clash.go:79", after := #[{ on := 2, ground := Ground.data }, { on := 1, ground := Ground.chain }], guard := none }) rfl (fun K hK => ?_) AllReadyH.nil
              go_simp
              refine (HTY.out _).mono ?_
              rintro e1 wk ⟨a5, c5, rfl, hB5, hb1⟩
              replace hk := hk.step hb1
              try replace hB4 := hB4.below hb1
              try replace hf := hf.step hb1
              clear hb1
              refine hK.out _ _ hk (fun _ => ?_)
              clear hK K
              try simp only [Act.put, List.setIfInBounds_toArray, List.set_cons_zero, List.set_cons_succ]
              refine wpAnyH_take (i := 4) (oi := { dst := some 57, op := Op.build 25 #[(0, Operand.tmp 54), (1, Operand.tmp 56)], type := 25, pos := "clash.go:79", after := #[{ on := 1, ground := Ground.data }, { on := 3, ground := Ground.data }], guard := none }) (v := ?vcl68) rfl (by kernel_rfl) (by kernel_rfl) (by kernel_rfl) (fun _ _ _ h => h) (Or.inl ⟨by rfl, ?ycl68⟩) hk ?rcl68
              case ycl68 => (intro w hSw; (try dsimp only at hSw); go_simp; first | done | with_reducible rfl)
              simp only [Act.put, List.setIfInBounds_toArray, List.set_cons_zero, List.set_cons_succ]
              refine wpAnyH_ready (rs := [6]) (by decide +kernel) (by simp) ?_
              refine AllReadyH.cons (o := { dst := none, op := Op.store 25 (Operand.tmp 18) (Operand.tmp 57), type := 0, pos := "clash.go:79", after := #[{ on := 5, ground := Ground.data }, { on := 4, ground := Ground.data }, { on := 3, ground := Ground.chain }, { on := 0, ground := Ground.phase }, { on := 1, ground := Ground.phase }, { on := 2, ground := Ground.phase }, { on := 3, ground := Ground.phase }, { on := 4, ground := Ground.phase }, { on := 5, ground := Ground.phase }], guard := none }) rfl (fun K hK => ?_) AllReadyH.nil
              rw [if_pos (by rfl)]
              refine wp_store_mid 25 (.tmp 18) (.tmp 57) rfl f 0 #[.slice a4 65 c4, .slice a5 65 c5] rfl rfl ?htcl69 cls_info (cls_one ..) ?_
              case htcl69 => exact hf.there rfl
              have hrf := hf.put (D := #[.slice a4 65 c4, .slice a5 65 c5]) rfl
              have hfge := hf.ge
              replace hk := hk.but hfge hgf hhf (#[.slice a4 65 c4, .slice a5 65 c5] : Array Value).toList
              replace hB4 := bts_far hB4 hf (by decide) (#[.slice a4 65 c4, .slice a5 65 c5] : Array Value).toList
              replace hB5 := bts_far hB5 hf (by decide) (#[.slice a4 65 c4, .slice a5 65 c5] : Array Value).toList
              clear hf
              generalize wk.setCells f 0 (#[.slice a4 65 c4, .slice a5 65 c5] : Array Value).toList = wk at hk hrf hB4 hB5 ⊢
              simp only [Act.put]
              refine hK.out _ _ hk (fun _ => ?_)
              clear hK K
              try simp only [Act.put, List.setIfInBounds_toArray, List.set_cons_zero, List.set_cons_succ]
              refine wpAnyH_done (by decide +kernel) ?_ _
              go_wp2_with fail
              go_meet
              case rel => exact ⟨f, a4, c4, a5, c5, rfl, hk, hrf, hB4, hB5⟩
          case rest =>
            clear hcd HTX HTY hdX hdY
            obtain ⟨f, a4, c4, a5, c5, rfl, hcd, hrf, hB4, hB5⟩ := hcut
            have hT := htab.below hcd.cb.low
            have HRF : Bx _ := ⟨hrf⟩
            have HIS : Bx (∀ W, Bts W a4 65 c4 (1 :: KX) → Bts W a5 65 c5 (1 :: KY) → Tab W → Calls Tryd.prog 9 #[.agg #[.slice a4 65 c4, .slice a5 65 c5], .int .i64 x] W fun e w' => e = .returned (.bool (clashB (1 :: KX) (1 :: KY) x)) ∧ Below W.heap.size W w') := ⟨fun W h1 h2 h3 => is_any a4 a5 65 65 c4 c5 (1 :: KX) (1 :: KY) x W h1 h2 h3 (by decide) (by decide)⟩
            cases hcl : clashB (1 :: KX) (1 :: KY) x with
            | true =>
              have HAB : Bx (1 :: KX = A ∧ 1 :: KY = B) := ⟨by
                have h := HCL.out
                rw [climb_yes x b _ p q _ _ X Y (by rw [← HEX.out, ← HEY.out]; exact hcl), ← HEX.out, ← HEY.out] at h
                have h2 := Option.some.inj h
                exact ⟨congrArg Prod.fst h2, congrArg Prod.snd h2⟩⟩
              rw [hcl] at HIS
              clear hrf hcl HCL
              go_wp2_with (refine wpList_load_row rfl 25 (.tmp 18) rfl f rfl 25 #[.slice a4 65 c4, .slice a5 65 c5] (0, 0) _ HRF.out Tryd.underlying25 rfl cls_info ?_)
              refine (HIS.out _ hB4 hB5 hT).mono ?_
              rintro e w9 ⟨rfl, hb9⟩
              have hcd9 := hcd.step hb9
              have HRF9 : Bx _ := ⟨row_step HRF.out hb9⟩
              replace hB4 := hB4.below hb9
              replace hB5 := hB5.below hb9
              have hres : TR 25 2 0 R w9 := ⟨Nat.zero_le _, hcd9.cb.res⟩
              have HTH : Bx _ := ⟨hres.there (D := #[.slice a4 65 c4, .slice a5 65 c5]) rfl⟩
              have HST : Bx _ := ⟨hres.put (D := #[.slice a4 65 c4, .slice a5 65 c5]) rfl⟩
              replace hB4 := bts_far hB4 hres (by decide) (#[.slice a4 65 c4, .slice a5 65 c5] : Array Value).toList
              replace hB5 := bts_far hB5 hres (by decide) (#[.slice a4 65 c4, .slice a5 65 c5] : Array Value).toList
              have hlow := below_setCells hcd9.cb.low R hcd9.cb.ord.1 (#[.slice a4 65 c4, .slice a5 65 c5] : Array Value).toList 0
              have HB4 : Bx _ := ⟨hB4⟩
              have HB5 : Bx _ := ⟨hB5⟩
              have HLW : Bx _ := ⟨hlow⟩
              clear hcd hcd9 hb9 HRF hres hT HIS hlow hB4 hB5
              go_wp2_with (first
                | (refine wpList_load_row rfl 25 (.tmp 18) rfl f rfl 25 #[.slice a4 65 c4, .slice a5 65 c5] (0, 0) _ HRF9.out Tryd.underlying25 rfl cls_info ?_)
                | (refine wpList_store_mid rfl 25 (.tmp 10) (.tmp 61) rfl R 0 #[.slice a4 65 c4, .slice a5 65 c5] rfl rfl ?ht cls_info (cls_one ..) ?_; (case ht => exact HTH.out)))
              exact bodyPost_ret (v := .tuple #[.agg #[.slice a4 65 c4, .slice a5 65 c5], .bool true]) (results_ct25 rfl _ _ R #[.slice a4 65 c4, .slice a5 65 c5] _ rfl rfl HST.out cls_info) rfl ⟨a4, c4, a5, c5, rfl, by rw [← HAB.out.1]; exact HB4.out, by rw [← HAB.out.2]; exact HB5.out, HLW.out⟩
            | false =>
              have HCN : Bx (climbL x (SL.drop (s + 1)) (ps.drop (s + 1)) (qs.drop (s + 1)) (cutL (sumL (1 :: KX)) x) (cutL (sumL (1 :: KY)) x) = some (A, B)) := ⟨by
                have h := HCL.out
                rw [climb_no x b _ p q _ _ X Y (by rw [← HEX.out, ← HEY.out]; exact hcl), ← HEX.out, ← HEY.out] at h
                exact h⟩
              rw [hcl] at HIS
              have hZXd := cutL_dg (sum_byt (1 :: KX)) x
              have hZYd := cutL_dg (sum_byt (1 :: KY)) x
              have hx0 := half_dg KX hKXb 0 (by omega)
              have hx1 := half_dg KX hKXb 32 (by omega)
              have hy0 := half_dg KY hKYb 0 (by omega)
              have hy1 := half_dg KY hKYb 32 (by omega)
              have HNX : Bx (∀ W, CE N0 R Vx Vy G k SL g h KX KY w W → Calls Tryd.prog 61 #[.agg (bv ((KX.drop 0).take 32)).toArray, .agg (bv ((KX.drop 32).take 32)).toArray, .int .i64 x] W fun e w' => e = .returned (.agg (bv (cutL (sumL (1 :: KX)) x)).toArray) ∧ Below W.heap.size W w') := ⟨fun W hW => by rw [← halves KX hKXl x]; exact node_any _ _ x W hx0 hx1 (htab.below hW.low)⟩
              have HNY : Bx (∀ W, CE N0 R Vx Vy G k SL g h KX KY w W → Calls Tryd.prog 61 #[.agg (bv ((KY.drop 0).take 32)).toArray, .agg (bv ((KY.drop 32).take 32)).toArray, .int .i64 x] W fun e w' => e = .returned (.agg (bv (cutL (sumL (1 :: KY)) x)).toArray) ∧ Below W.heap.size W w') := ⟨fun W hW => by rw [← halves KY hKYl x]; exact node_any _ _ x W hy0 hy1 (htab.below hW.low)⟩
              generalize cutL (sumL (1 :: KX)) x = ZX at HCN hZXd HNX
              generalize cutL (sumL (1 :: KY)) x = ZY at HCN hZYd HNY
              have hdx0 : (Tryd.prog.info? 42).map (·.size) = some (bv ((KX.drop 0).take 32)).length := by rw [bv_length, hx0.1]; exact dig_info
              have hdx1 : (Tryd.prog.info? 42).map (·.size) = some (bv ((KX.drop 32).take 32)).length := by rw [bv_length, hx1.1]; exact dig_info
              have hdy0 : (Tryd.prog.info? 42).map (·.size) = some (bv ((KY.drop 0).take 32)).length := by rw [bv_length, hy0.1]; exact dig_info
              have hdy1 : (Tryd.prog.info? 42).map (·.size) = some (bv ((KY.drop 32).take 32)).length := by rw [bv_length, hy1.1]; exact dig_info
              have HSZX : Bx ((bv ZX).toArray.size = 32) := ⟨by rw [List.size_toArray, bv_length, hZXd.1]⟩
              have HSZY : Bx ((bv ZY).toArray.size = 32) := ⟨by rw [List.size_toArray, bv_length, hZYd.1]⟩
              have HIZX : Bx ((Tryd.prog.info? 42).map (·.size) = some (bv ZX).toArray.size) := ⟨by rw [HSZX.out]; exact dig_info⟩
              have HIZY : Bx ((Tryd.prog.info? 42).map (·.size) = some (bv ZY).toArray.size) := ⟨by rw [HSZY.out]; exact dig_info⟩
              have HOZX : Bx ((bv ZX).toArray.all (·.oneCell') = true) := ⟨all_oneCell_toArray (bv_one _)⟩
              have HOZY : Bx ((bv ZY).toArray.all (·.oneCell') = true) := ⟨all_oneCell_toArray (bv_one _)⟩
              clear hrf hcl HCL hx0 hx1 hy0 hy1
              go_wp2_with (refine wpList_load_row rfl 25 (.tmp 18) rfl f rfl 25 #[.slice a4 65 c4, .slice a5 65 c5] (0, 0) _ HRF.out Tryd.underlying25 rfl cls_info ?_)
              refine (HIS.out _ hB4 hB5 hT).mono ?_
              rintro e w9 ⟨rfl, hb9⟩
              have hce := CE.of (hcd.step hb9) hX.1 hY.1 hgge hhge
              have hVV := hce.ord.2.2.2.1
              clear hcd hb9 HRF hT HIS hB4 hB5
              go_wp2_with fail
              have hk : CE N0 R Vx Vy G k SL g h KX KY w w9.drew := ⟨below_drewN hce.low 1, hce.size, hce.ord, hce.res, hce.ex, hce.ey, hce.sid, hce.rg, hce.rh⟩
              clear hce
              refine wp_region_held_drew (S := fun W => CE N0 R Vx Vy G k SL g h KX KY w W) (by kernel_rfl) hk (fun _ => ?_)
              generalize w9.drew = wk at hk ⊢
              refine wpAnyH_take (i := 0) (oi := { dst := some 62, op := Op.indexAddr 86 (Operand.tmp 16) (Operand.const (Value.int IntKind.i64 0)), type := 0, pos := "clash.go:82", after := #[], guard := none }) (v := ?vcl91) rfl (by kernel_rfl) (by kernel_rfl) (by kernel_rfl) (fun _ _ _ h => h) (Or.inl ⟨by rfl, ?ycl91⟩) hk ?rcl91
              case ycl91 => (intro w hSw; (try dsimp only at hSw); go_simp; first | done | with_reducible rfl)
              simp only [Act.put, List.setIfInBounds_toArray, List.set_cons_zero, List.set_cons_succ]
              refine wpAnyH_take (i := 1) (oi := { dst := some 63, op := Op.load 42 (Operand.tmp 62), type := 42, pos := "clash.go:82", after := #[{ on := 0, ground := Ground.data }], guard := none }) (v := .agg (bv ((KX.drop 0).take 32)).toArray) rfl (by kernel_rfl) (by kernel_rfl) (by kernel_rfl) (fun _ _ _ h => h) (yieldsIf_load_mid (by rfl) 42 (.tmp 62) rfl g 0 rfl (bv ((KX.drop 0).take 32)) _ (fun W h => range_half h.rg) Tryd.underlying42 rfl hdx0) hk ?_
              simp only [Act.put, List.setIfInBounds_toArray, List.set_cons_zero, List.set_cons_succ]
              refine wpAnyH_take (i := 2) (oi := { dst := some 64, op := Op.indexAddr 86 (Operand.tmp 16) (Operand.const (Value.int IntKind.i64 1)), type := 0, pos := "clash.go:82", after := #[], guard := none }) (v := ?vcl92) rfl (by kernel_rfl) (by kernel_rfl) (by kernel_rfl) (fun _ _ _ h => h) (Or.inl ⟨by rfl, ?ycl92⟩) hk ?rcl92
              case ycl92 => (intro w hSw; (try dsimp only at hSw); go_simp; first | done | with_reducible rfl)
              simp only [Act.put, List.setIfInBounds_toArray, List.set_cons_zero, List.set_cons_succ]
              refine wpAnyH_take (i := 3) (oi := { dst := some 65, op := Op.load 42 (Operand.tmp 64), type := 42, pos := "clash.go:82", after := #[{ on := 2, ground := Ground.data }], guard := none }) (v := .agg (bv ((KX.drop 32).take 32)).toArray) rfl (by kernel_rfl) (by kernel_rfl) (by kernel_rfl) (fun _ _ _ h => h) (yieldsIf_load_mid (by rfl) 42 (.tmp 64) rfl g 32 rfl (bv ((KX.drop 32).take 32)) _ (fun W h => range_half h.rg) Tryd.underlying42 rfl hdx1) hk ?_
              simp only [Act.put, List.setIfInBounds_toArray, List.set_cons_zero, List.set_cons_succ]
              refine wpAnyH_take (i := 4) (oi := { dst := some 66, op := Op.move (Operand.tmp 4), type := 3, pos := "clash.go:82", after := #[], guard := none }) (v := ?vcl93) rfl (by kernel_rfl) (by kernel_rfl) (by kernel_rfl) (fun _ _ _ h => h) (Or.inl ⟨by rfl, ?ycl93⟩) hk ?rcl93
              case ycl93 => (intro w hSw; (try dsimp only at hSw); go_simp; first | done | with_reducible rfl)
              simp only [Act.put, List.setIfInBounds_toArray, List.set_cons_zero, List.set_cons_succ]
              refine wpAnyH_take (i := 6) (oi := { dst := some 68, op := Op.indexAddr 86 (Operand.tmp 17) (Operand.const (Value.int IntKind.i64 0)), type := 0, pos := "clash.go:82", after := #[], guard := none }) (v := ?vcl94) rfl (by kernel_rfl) (by kernel_rfl) (by kernel_rfl) (fun _ _ _ h => h) (Or.inl ⟨by rfl, ?ycl94⟩) hk ?rcl94
              case ycl94 => (intro w hSw; (try dsimp only at hSw); go_simp; first | done | with_reducible rfl)
              simp only [Act.put, List.setIfInBounds_toArray, List.set_cons_zero, List.set_cons_succ]
              refine wpAnyH_take (i := 7) (oi := { dst := some 69, op := Op.load 42 (Operand.tmp 68), type := 42, pos := "clash.go:82", after := #[{ on := 6, ground := Ground.data }], guard := none }) (v := .agg (bv ((KY.drop 0).take 32)).toArray) rfl (by kernel_rfl) (by kernel_rfl) (by kernel_rfl) (fun _ _ _ h => h) (yieldsIf_load_mid (by rfl) 42 (.tmp 68) rfl h 0 rfl (bv ((KY.drop 0).take 32)) _ (fun W h => range_half h.rh) Tryd.underlying42 rfl hdy0) hk ?_
              simp only [Act.put, List.setIfInBounds_toArray, List.set_cons_zero, List.set_cons_succ]
              refine wpAnyH_take (i := 8) (oi := { dst := some 70, op := Op.indexAddr 86 (Operand.tmp 17) (Operand.const (Value.int IntKind.i64 1)), type := 0, pos := "clash.go:82", after := #[], guard := none }) (v := ?vcl95) rfl (by kernel_rfl) (by kernel_rfl) (by kernel_rfl) (fun _ _ _ h => h) (Or.inl ⟨by rfl, ?ycl95⟩) hk ?rcl95
              case ycl95 => (intro w hSw; (try dsimp only at hSw); go_simp; first | done | with_reducible rfl)
              simp only [Act.put, List.setIfInBounds_toArray, List.set_cons_zero, List.set_cons_succ]
              refine wpAnyH_take (i := 9) (oi := { dst := some 71, op := Op.load 42 (Operand.tmp 70), type := 42, pos := "clash.go:82", after := #[{ on := 8, ground := Ground.data }], guard := none }) (v := .agg (bv ((KY.drop 32).take 32)).toArray) rfl (by kernel_rfl) (by kernel_rfl) (by kernel_rfl) (fun _ _ _ h => h) (yieldsIf_load_mid (by rfl) 42 (.tmp 70) rfl h 32 rfl (bv ((KY.drop 32).take 32)) _ (fun W h => range_half h.rh) Tryd.underlying42 rfl hdy1) hk ?_
              simp only [Act.put, List.setIfInBounds_toArray, List.set_cons_zero, List.set_cons_succ]
              refine wpAnyH_take (i := 10) (oi := { dst := some 72, op := Op.move (Operand.tmp 4), type := 3, pos := "clash.go:82", after := #[], guard := none }) (v := ?vcl96) rfl (by kernel_rfl) (by kernel_rfl) (by kernel_rfl) (fun _ _ _ h => h) (Or.inl ⟨by rfl, ?ycl96⟩) hk ?rcl96
              case ycl96 => (intro w hSw; (try dsimp only at hSw); go_simp; first | done | with_reducible rfl)
              simp only [Act.put, List.setIfInBounds_toArray, List.set_cons_zero, List.set_cons_succ]
              refine wpAnyH_ready (rs := [5]) (by decide +kernel) (by simp) ?_
              refine AllReadyH.cons (o := { dst := some 67, op := Op.call { callee := Callee.value (Operand.func 61), args := #[Operand.tmp 63, Operand.tmp 65, Operand.tmp 66], argTypes := #[42, 42, 3] }, type := 42, pos := "clash.go:82", after := #[{ on := 1, ground := Ground.data }, { on := 3, ground := Ground.data }, { on := 4, ground := Ground.data }], guard := none }) rfl (fun K hK => ?_) AllReadyH.nil
              go_simp
              refine (HNX.out _ hk).mono ?_
              rintro e1 wk ⟨rfl, hb1⟩
              replace hk := hk.step hb1
              clear hb1
              refine hK.out _ _ hk (fun _ => ?_)
              clear hK K
              try simp only [Act.put, List.setIfInBounds_toArray, List.set_cons_zero, List.set_cons_succ]
              refine wpAnyH_ready (rs := [11]) (by decide +kernel) (by simp) ?_
              refine AllReadyH.cons (o := { dst := some 73, op := Op.call { callee := Callee.value (Operand.func 61), args := #[Operand.tmp 69, Operand.tmp 71, Operand.tmp 72], argTypes := #[42, 42, 3] }, type := 42, pos := "clash.go:82", after := #[{ on := 7, ground := Ground.data }, { on := 9, ground := Ground.data }, { on := 10, ground := Ground.data }, { on := 5, ground := Ground.chain }], guard := none }) rfl (fun K hK => ?_) AllReadyH.nil
              go_simp
              refine (HNY.out _ hk).mono ?_
              rintro e1 wk ⟨rfl, hb1⟩
              replace hk := hk.step hb1
              clear hb1
              refine hK.out _ _ hk (fun _ => ?_)
              clear hK K
              try simp only [Act.put, List.setIfInBounds_toArray, List.set_cons_zero, List.set_cons_succ]
              refine wpAnyH_ready (rs := [12]) (by decide +kernel) (by simp) ?_
              refine AllReadyH.cons (o := { dst := none, op := Op.store 42 (Operand.tmp 12) (Operand.tmp 67), type := 0, pos := "clash.go:82", after := #[{ on := 5, ground := Ground.data }, { on := 11, ground := Ground.chain }, { on := 0, ground := Ground.phase }, { on := 1, ground := Ground.phase }, { on := 2, ground := Ground.phase }, { on := 3, ground := Ground.phase }, { on := 4, ground := Ground.phase }, { on := 5, ground := Ground.phase }, { on := 6, ground := Ground.textOnly Departure.lateStores }, { on := 7, ground := Ground.textOnly Departure.lateStores }, { on := 8, ground := Ground.textOnly Departure.lateStores }, { on := 9, ground := Ground.textOnly Departure.lateStores }, { on := 10, ground := Ground.textOnly Departure.lateStores }, { on := 11, ground := Ground.textOnly Departure.lateStoresUnsure }], guard := none }) rfl (fun K hK => ?_) AllReadyH.nil
              rw [if_pos (by rfl)]
              obtain ⟨htx, hk2, hrx⟩ := hk.putx HSZX.out
              refine wp_store_mid 42 (.tmp 12) (.tmp 67) rfl Vx 0 (bv ZX).toArray rfl rfl ?htcl97 HIZX.out HOZX.out ?_
              case htcl97 => exact htx
              replace hk := hk2
              clear hk2 htx
              generalize wk.setCells Vx 0 (bv ZX).toArray.toList = wk at hk hrx ⊢
              simp only [Act.put]
              refine hK.out _ _ hk (fun _ => ?_)
              clear hK K
              try simp only [Act.put, List.setIfInBounds_toArray, List.set_cons_zero, List.set_cons_succ]
              refine wpAnyH_ready (rs := [13]) (by decide +kernel) (by simp) ?_
              refine AllReadyH.cons (o := { dst := none, op := Op.store 42 (Operand.tmp 13) (Operand.tmp 73), type := 0, pos := "clash.go:82", after := #[{ on := 11, ground := Ground.data }, { on := 12, ground := Ground.chain }, { on := 0, ground := Ground.phase }, { on := 1, ground := Ground.phase }, { on := 2, ground := Ground.phase }, { on := 3, ground := Ground.phase }, { on := 4, ground := Ground.phase }, { on := 5, ground := Ground.phase }, { on := 6, ground := Ground.phase }, { on := 7, ground := Ground.phase }, { on := 8, ground := Ground.phase }, { on := 9, ground := Ground.phase }, { on := 10, ground := Ground.phase }, { on := 11, ground := Ground.phase }, { on := 12, ground := Ground.phase }], guard := none }) rfl (fun K hK => ?_) AllReadyH.nil
              rw [if_pos (by rfl)]
              obtain ⟨hty, hk2, hry⟩ := hk.puty HSZY.out
              refine wp_store_mid 42 (.tmp 13) (.tmp 73) rfl Vy 0 (bv ZY).toArray rfl rfl ?htcl98 HIZY.out HOZY.out ?_
              case htcl98 => exact hty
              replace hk := hk2
              replace hrx := row_but hrx hVV (bv ZY).toArray.toList
              clear hk2 hty
              generalize wk.setCells Vy 0 (bv ZY).toArray.toList = wk at hk hrx hry ⊢
              simp only [Act.put]
              refine hK.out _ _ hk (fun _ => ?_)
              clear hK K
              try simp only [Act.put, List.setIfInBounds_toArray, List.set_cons_zero, List.set_cons_succ]
              refine wpAnyH_done (by decide +kernel) ?_ _
              have hcbN := hk.back hrx hry
              clear hk hrx hry hdx0 hdx1 hdy0 hdy1
              go_wp2
              go_roundw
              case rel => exact ⟨s + 1, ZX, ZY, by omega, by go_num, hZXd, hZYd, HCN.out, hcbN⟩
              case measure => simp [intOf]; omega
      · obtain rfl : s = k := by omega
        rw [List.drop_of_length_le (by rw [HSLn.out]; exact Nat.le_refl _), climb_end] at hcl
        cases hcl
end Go.Proofs.YtfkloilbjfleeaaDoor
