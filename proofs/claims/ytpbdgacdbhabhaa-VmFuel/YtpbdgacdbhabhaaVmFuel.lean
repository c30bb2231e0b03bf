/- VmFuel: with as much fuel as was used, and with more, a step is the same; with less it lacks. -/
import Derived.Test.YtpbdgacdbhabhaaRows
import Derived.Test.YtpbdgacdbhabhaaCallIn
import Derived.Test.YtpbdgacdbhabhaaVLaw
import Derived.Test.YtpbdgacdbhabhaaCFew
import Derived.Test.YtpbdgacdbhabhaaLeast
import Derived.WalkKit
import Derived.ProofKit
import Derived.OpenShut
import Derived.ShutString
import Derived.ChangeOld
import Derived.Below
namespace Go.Proofs.Ytpbdgacdbhabhaa.vmFuel
open Go.ChangeShapes Go.WideShapes Go.ChangeAt Go.RowKit
open Go.ChangeMaps (open_string shut_string)
set_option linter.unusedVariables false

theorem own : ownKnob Try.prog.godebug = none := by kernel_rfl
theorem laidOut : laidOutB Try.prog = true := by kernel_rfl


set_option maxRecDepth 100000 in
set_option maxHeartbeats 4000000 in
theorem walk (a0 : Option Addr) (len0 cap0 : Nat) (l : List Ic) (c : Cl) (more : Int) (w : World) (hl : IcsI w a0 len0 cap0 l) (hc : ClK c) (hmore : I64 more) :
    Calls Try.prog 4 #[.slice a0 len0 cap0, .agg #[.int .i64 c.s0, .int .i64 c.s1, .int .i64 c.s2, .int .i64 c.s3, .int .i64 c.k, .int .i64 c.f, .int .i64 c.g], .int .i64 more] w fun e w' => e = .returned (.bool true) ∧ Below w.heap.size w w' := by
  have HL := Bx.mk hl.1
  have HLK := Bx.mk hl.2
  have HC := Bx.mk hc
  have hC := cx_new w c
  obtain ⟨gb, HGB⟩ : ∃ gb, Bx (gb = w.heap.size) := ⟨_, ⟨rfl⟩⟩
  rw [← HGB.out] at hC
  have HCX := Bx.mk hC
  clear hc hC hl
  go_enter Try.func4, Try.ntmps4
  go_upto_region 1 with fail
  rw [← HGB.out]
  generalize w.alloc (.cells #[.int .i64 c.s0, .int .i64 c.s1, .int .i64 c.s2, .int .i64 c.s3, .int .i64 c.k, .int .i64 c.f, .int .i64 c.g] 26) = wa at HCX ⊢
  have HL1 := Bx.mk (HL.out.below HCX.out.low)
  go_wp2_with fail
  refine (few15_any a0 len0 cap0 l _ HL1.out).mono ?_
  rintro e w1 ⟨v1, rfl, ho1, hb1⟩
  obtain ⟨L, HLL⟩ : ∃ L, Bx (l.take 210 = L) := ⟨_, ⟨rfl⟩⟩
  have HIK : Bx (IcsK L) := ⟨by rw [← HLL.out]; exact HLK.out.take 210⟩
  rw [HLL.out] at ho1
  obtain ⟨a2, c2, rfl, hE1⟩ := Ls.of_owns icC_len ho1 rfl
  have HE1 := Bx.mk hE1
  have HC1 := Bx.mk (HCX.out.step hb1)
  clear ho1 hE1 hb1 HCX HL HL1 HLK HLL
  go_wp2_with fail
  by_cases hok : (thr L).2.2 = 0
  · refine (vnew_yes _ _ _ _ _ HE1.out hok).mono ?_
    rintro e w0 ⟨gm, gc, cc, rfl, hm, _, _, hb2⟩
    have HM := Bx.mk hm
    have HC2 := Bx.mk (HC1.out.step hb2)
    obtain ⟨kd, z0, z1, z2, z3, rt, us, hform⟩ := stpV_form hok c.s0 c.s1 c.s2 c.s3 c.k c.g (fuC c)
    have HST : Bx (stC (stpV L [c.s0, c.s1, c.s2, c.s3] c.k c.g (fuC c)) = .agg #[.int .i64 kd, .int .i64 z0, .int .i64 z1, .int .i64 z2, .int .i64 z3, .int .i64 rt, .int .i64 us]) := ⟨by rw [hform]; rfl⟩
    have HFU := Bx.mk (stpV_fuel (S := [c.s0, c.s1, c.s2, c.s3]) (k := c.k) (g := c.g) (f := fuC c) hok)
    rw [hform] at HFU
    clear hm hb2 hform hok HC1 HE1
    go_upto_region 4 with fail
    obtain ⟨N, HN⟩ : ∃ N, Bx (N = w0.heap.size) := ⟨_, ⟨rfl⟩⟩
    have HLT : Bx (gb < N ∧ gm < N ∧ gc < N ∧ w.heap.size ≤ N) := ⟨by rw [HN.out]; exact ⟨(Array.getElem?_eq_some_iff.1 HC2.out.row).1, HM.out.lt.1, HM.out.lt.2, HC2.out.low.size⟩⟩
    obtain ⟨Qm, HQ0⟩ : ∃ Qm : World → Prop, Bx (Qm = fun W => Mc W gm gc cc L ∧ N ≤ W.heap.size) := ⟨_, ⟨rfl⟩⟩
    have HQ : Bx (∀ W, Qm W → Mc W gm gc cc L ∧ N ≤ W.heap.size) := ⟨fun W h => by rw [HQ0.out] at h; exact h⟩
    have HQI : Bx (∀ W, Mc W gm gc cc L → N ≤ W.heap.size → Qm W) := ⟨fun W h k => by rw [HQ0.out]; exact ⟨h, k⟩⟩
    have HCQ : Bx (CX Qm gb c w w0) := ⟨HC2.out.more (by rw [HQ0.out]; exact up_mc.and up_size) (HQI.out _ HM.out (by rw [HN.out]; exact Nat.le_refl _))⟩
    clear HQ0 HC2 HM
    go_cut [9] from 24 to 33 (fun s9 wx => ∃ gz, s9 = .pointer (some ⟨gz, 0, none⟩) ∧ Bx (N ≤ gz ∧ wx.heap[gz]? = some (.cells #[.int .i64 kd, .int .i64 z0, .int .i64 z1, .int .i64 z2, .int .i64 z3, .int .i64 rt, .int .i64 us] 38 (0, 0)) ∧ CX Qm gb c w wx))
    case first =>
      have hk : CX Qm gb c w w0.drew := HCQ.out.drew
      clear HCQ HFU
      refine wp_region_held_drew (S := fun W => CX Qm gb c w W) (by kernel_rfl) hk (fun _ => ?_)
      generalize w0.drew = wk at hk ⊢
      refine wpAnyH_take (i := 0) (oi := { dst := some 24, op := Op.move (Operand.tmp 7), type := 28, pos := "law.go:49", after := #[], guard := none }) (v := ?vvst91) rfl (by kernel_rfl) (by kernel_rfl) (by kernel_rfl) (fun _ _ _ h => h) (Or.inl ⟨by rfl, ?yvst91⟩) hk ?rvst91
      case yvst91 => (intro w hSw; (try dsimp only at hSw); go_simp; first | done | with_reducible rfl)
      simp only [Act.put, List.setIfInBounds_toArray, List.set_cons_zero, List.set_cons_succ]
      refine wpAnyH_take (i := 1) (oi := { dst := some 25, op := Op.fieldAddr 26 (Operand.tmp 4) 0, type := 0, pos := "law.go:49", after := #[], guard := none }) (v := ?vvst92) rfl (by kernel_rfl) (by kernel_rfl) (by kernel_rfl) (fun _ _ _ h => h) (Or.inl ⟨by rfl, ?yvst92⟩) hk ?rvst92
      case yvst92 => (intro w hSw; (try dsimp only at hSw); go_simp; first | done | with_reducible rfl)
      simp only [Act.put, List.setIfInBounds_toArray, List.set_cons_zero, List.set_cons_succ]
      refine wpAnyH_take (i := 2) (oi := { dst := some 26, op := Op.load 24 (Operand.tmp 25), type := 24, pos := "law.go:49", after := #[{ on := 1, ground := Ground.data }], guard := none }) (v := .agg #[.int .i64 c.s0, .int .i64 c.s1, .int .i64 c.s2, .int .i64 c.s3]) rfl (by kernel_rfl) (by kernel_rfl) (by kernel_rfl) (fun _ _ _ h => h) (Or.inl ⟨by rfl, ?yvst93⟩) hk ?rvst93
      case yvst93 => (intro w hSw; have q0 := hSw.c0; have q1 := hSw.c1; have q2 := hSw.c2; have q3 := hSw.c3; have q4 := hSw.c4; have q5 := hSw.c5; have q6 := hSw.c6; clear hSw; go_simp; first | done | with_reducible rfl)
      simp only [Act.put, List.setIfInBounds_toArray, List.set_cons_zero, List.set_cons_succ]
      refine wpAnyH_take (i := 3) (oi := { dst := some 27, op := Op.fieldAddr 26 (Operand.tmp 4) 1, type := 0, pos := "law.go:49", after := #[], guard := none }) (v := ?vvst94) rfl (by kernel_rfl) (by kernel_rfl) (by kernel_rfl) (fun _ _ _ h => h) (Or.inl ⟨by rfl, ?yvst94⟩) hk ?rvst94
      case yvst94 => (intro w hSw; (try dsimp only at hSw); go_simp; first | done | with_reducible rfl)
      simp only [Act.put, List.setIfInBounds_toArray, List.set_cons_zero, List.set_cons_succ]
      refine wpAnyH_take (i := 4) (oi := { dst := some 28, op := Op.load 3 (Operand.tmp 27), type := 3, pos := "law.go:49", after := #[{ on := 3, ground := Ground.data }], guard := none }) (v := ?vvst95) rfl (by kernel_rfl) (by kernel_rfl) (by kernel_rfl) (fun _ _ _ h => h) (Or.inl ⟨by rfl, ?yvst95⟩) hk ?rvst95
      case yvst95 => (intro w hSw; have hcw := hSw.c4; clear hSw; go_simp; first | done | with_reducible rfl)
      simp only [Act.put, List.setIfInBounds_toArray, List.set_cons_zero, List.set_cons_succ]
      refine wpAnyH_take (i := 5) (oi := { dst := some 29, op := Op.fieldAddr 26 (Operand.tmp 4) 3, type := 0, pos := "law.go:49", after := #[], guard := none }) (v := ?vvst96) rfl (by kernel_rfl) (by kernel_rfl) (by kernel_rfl) (fun _ _ _ h => h) (Or.inl ⟨by rfl, ?yvst96⟩) hk ?rvst96
      case yvst96 => (intro w hSw; (try dsimp only at hSw); go_simp; first | done | with_reducible rfl)
      simp only [Act.put, List.setIfInBounds_toArray, List.set_cons_zero, List.set_cons_succ]
      refine wpAnyH_take (i := 6) (oi := { dst := some 30, op := Op.load 2 (Operand.tmp 29), type := 2, pos := "law.go:49", after := #[{ on := 5, ground := Ground.data }], guard := none }) (v := ?vvst97) rfl (by kernel_rfl) (by kernel_rfl) (by kernel_rfl) (fun _ _ _ h => h) (Or.inl ⟨by rfl, ?yvst97⟩) hk ?rvst97
      case yvst97 => (intro w hSw; have hcw := hSw.c6; clear hSw; go_simp; first | done | with_reducible rfl)
      simp only [Act.put, List.setIfInBounds_toArray, List.set_cons_zero, List.set_cons_succ]
      refine wpAnyH_take (i := 7) (oi := { dst := some 31, op := Op.load 26 (Operand.tmp 4), type := 26, pos := "law.go:49", after := #[], guard := none }) (v := .agg #[.int .i64 c.s0, .int .i64 c.s1, .int .i64 c.s2, .int .i64 c.s3, .int .i64 c.k, .int .i64 c.f, .int .i64 c.g]) rfl (by kernel_rfl) (by kernel_rfl) (by kernel_rfl) (fun _ _ _ h => h) (Or.inl ⟨by rfl, ?yvst98⟩) hk ?rvst98
      case yvst98 => (intro w hSw; have q0 := hSw.c0; have q1 := hSw.c1; have q2 := hSw.c2; have q3 := hSw.c3; have q4 := hSw.c4; have q5 := hSw.c5; have q6 := hSw.c6; clear hSw; go_simp; first | done | with_reducible rfl)
      simp only [Act.put, List.setIfInBounds_toArray, List.set_cons_zero, List.set_cons_succ]
      refine wpAnyH_ready (rs := [8, 10]) (by decide +kernel) (by simp) ?_
      refine (AllReadyH.cons (o := { dst := some 32, op := Op.call { callee := Callee.value (Operand.func 14), args := #[Operand.tmp 31], argTypes := #[26] }, type := 3, pos := "law.go:49", after := #[{ on := 7, ground := Ground.data }], guard := none }) rfl (fun K hK => ?_) (AllReadyH.cons (o := { dst := some 9, op := Op.alloc 38, type := 0, pos := "law.go:49", after := #[], guard := none }) rfl (fun K hK => ?_) AllReadyH.nil))
      · go_simp
        refine (fuel_any c _).mono ?_
        rintro e1 wk ⟨rfl, hb1⟩
        replace hk := hk.step hb1
        try replace hz := hz.step hb1
        clear hb1
        refine hK.out _ _ hk (fun _ => ?_)
        clear hK K
        try simp only [Act.put, List.setIfInBounds_toArray, List.set_cons_zero, List.set_cons_succ]
        refine wpAnyH_ready (rs := [9, 10]) (by decide +kernel) (by simp) ?_
        refine (AllReadyH.cons (o := { dst := some 33, op := Op.call { callee := Callee.value (Operand.func 13), args := #[Operand.tmp 24, Operand.tmp 26, Operand.tmp 28, Operand.tmp 30, Operand.tmp 32], argTypes := #[28, 24, 3, 2, 3] }, type := 38, pos := "law.go:49", after := #[{ on := 0, ground := Ground.data }, { on := 2, ground := Ground.data }, { on := 4, ground := Ground.data }, { on := 6, ground := Ground.data }, { on := 8, ground := Ground.data }, { on := 8, ground := Ground.chain }], guard := none }) rfl (fun K hK => ?_) (AllReadyH.cons (o := { dst := some 9, op := Op.alloc 38, type := 0, pos := "law.go:49", after := #[], guard := none }) rfl (fun K hK => ?_) AllReadyH.nil))
        · go_simp
          refine (step_any gm gc cc L c.s0 c.s1 c.s2 c.s3 c.k c.g (fuC c) _ (HQ.out _ hk.q).1 HIK.out HC.out.s HC.out.k HC.out.g (fuC_in c)).mono ?_
          rintro e1 wk ⟨rfl, hb1⟩
          rw [HST.out]
          replace hk := hk.step hb1
          try replace hz := hz.step hb1
          clear hb1
          refine hK.out _ _ hk (fun _ => ?_)
          clear hK K
          try simp only [Act.put, List.setIfInBounds_toArray, List.set_cons_zero, List.set_cons_succ]
          refine wpAnyH_ready (rs := [10]) (by decide +kernel) (by simp) ?_
          refine AllReadyH.cons (o := { dst := some 9, op := Op.alloc 38, type := 0, pos := "law.go:49", after := #[], guard := none }) rfl (fun K hK => ?_) AllReadyH.nil
          rw [if_pos (by rfl)]
          refine wp_alloc_of 38 7 rfl st_zero ?_
          intro cs hcs
          have hz := NV.new (T := 38) (N0 := N) (wr := wk) (HQ.out _ hk.q).2 hcs
          have hbA : Below wk.heap.size wk (wk.alloc (.cells cs 38)) := (Below.refl _ _).alloc (Nat.le_refl _) _
          replace hk := hk.step hbA
          clear hbA hcs
          generalize wk.heap.size = gz at hz ⊢
          generalize wk.alloc (.cells cs 38) = wk at hz hk ⊢
          simp only [Act.put, List.setIfInBounds_toArray, List.set_cons_zero, List.set_cons_succ]
          refine hK.out _ _ hk (fun _ => ?_)
          clear hK K
          try simp only [Act.put, List.setIfInBounds_toArray, List.set_cons_zero, List.set_cons_succ]
          refine wpAnyH_ready (rs := [11]) (by decide +kernel) (by simp) ?_
          refine AllReadyH.cons (o := { dst := none, op := Op.store 38 (Operand.tmp 9) (Operand.tmp 33), type := 0, pos := "law.go:49", after := #[{ on := 10, ground := Ground.data }, { on := 9, ground := Ground.data }, { on := 9, ground := Ground.chain }, { on := 0, ground := Ground.phase }, { on := 1, ground := Ground.phase }, { on := 2, ground := Ground.phase }, { on := 3, ground := Ground.phase }, { on := 4, ground := Ground.phase }, { on := 5, ground := Ground.phase }, { on := 6, ground := Ground.phase }, { on := 7, ground := Ground.phase }, { on := 8, ground := Ground.phase }, { on := 9, ground := Ground.phase }, { on := 10, ground := Ground.phase }], guard := none }) rfl (fun K hK => ?_) AllReadyH.nil
          rw [if_pos (by rfl)]
          refine wp_store_mid 38 (.tmp 9) (.tmp 33) rfl gz 0 #[.int .i64 kd, .int .i64 z0, .int .i64 z1, .int .i64 z2, .int .i64 z3, .int .i64 rt, .int .i64 us] rfl rfl ?htvst910 st_info (st_one kd z0 z1 z2 z3 rt us) ?_
          case htvst910 => exact hz.there rfl
          have hrz := hz.put (D := #[.int .i64 kd, .int .i64 z0, .int .i64 z1, .int .i64 z2, .int .i64 z3, .int .i64 rt, .int .i64 us]) rfl
          have hzge := hz.ge
          have hqq := HQ.out _ hk.q
          have hlt := HLT.out
          replace hk := hk.put (z := gz) (vs := #[.int .i64 kd, .int .i64 z0, .int .i64 z1, .int .i64 z2, .int .i64 z3, .int .i64 rt, .int .i64 us].toList) (by omega) (by omega) (HQI.out _ (hqq.1.put (by omega) (by omega)) (by rw [setCells_size]; exact hqq.2))
          clear hz hqq hlt
          generalize wk.setCells gz 0 #[.int .i64 kd, .int .i64 z0, .int .i64 z1, .int .i64 z2, .int .i64 z3, .int .i64 rt, .int .i64 us].toList = wk at hk hrz ⊢
          simp only [Act.put]
          refine hK.out _ _ hk (fun _ => ?_)
          clear hK K
          try simp only [Act.put, List.setIfInBounds_toArray, List.set_cons_zero, List.set_cons_succ]
          refine wpAnyH_done (by decide +kernel) ?_ _
          go_wp2_with fail
          go_meet
          case rel => exact ⟨gz, rfl, ⟨hzge, hrz, hk⟩⟩
        · rw [if_pos (by rfl)]
          refine wp_alloc_of 38 7 rfl st_zero ?_
          intro cs hcs
          have hz := NV.new (T := 38) (N0 := N) (wr := wk) (HQ.out _ hk.q).2 hcs
          have hbA : Below wk.heap.size wk (wk.alloc (.cells cs 38)) := (Below.refl _ _).alloc (Nat.le_refl _) _
          replace hk := hk.step hbA
          clear hbA hcs
          generalize wk.heap.size = gz at hz ⊢
          generalize wk.alloc (.cells cs 38) = wk at hz hk ⊢
          simp only [Act.put, List.setIfInBounds_toArray, List.set_cons_zero, List.set_cons_succ]
          refine hK.out _ _ hk (fun _ => ?_)
          clear hK K
          try simp only [Act.put, List.setIfInBounds_toArray, List.set_cons_zero, List.set_cons_succ]
          refine wpAnyH_ready (rs := [9]) (by decide +kernel) (by simp) ?_
          refine AllReadyH.cons (o := { dst := some 33, op := Op.call { callee := Callee.value (Operand.func 13), args := #[Operand.tmp 24, Operand.tmp 26, Operand.tmp 28, Operand.tmp 30, Operand.tmp 32], argTypes := #[28, 24, 3, 2, 3] }, type := 38, pos := "law.go:49", after := #[{ on := 0, ground := Ground.data }, { on := 2, ground := Ground.data }, { on := 4, ground := Ground.data }, { on := 6, ground := Ground.data }, { on := 8, ground := Ground.data }, { on := 8, ground := Ground.chain }], guard := none }) rfl (fun K hK => ?_) AllReadyH.nil
          go_simp
          refine (step_any gm gc cc L c.s0 c.s1 c.s2 c.s3 c.k c.g (fuC c) _ (HQ.out _ hk.q).1 HIK.out HC.out.s HC.out.k HC.out.g (fuC_in c)).mono ?_
          rintro e1 wk ⟨rfl, hb1⟩
          rw [HST.out]
          replace hk := hk.step hb1
          try replace hz := hz.step hb1
          clear hb1
          refine hK.out _ _ hk (fun _ => ?_)
          clear hK K
          try simp only [Act.put, List.setIfInBounds_toArray, List.set_cons_zero, List.set_cons_succ]
          refine wpAnyH_ready (rs := [11]) (by decide +kernel) (by simp) ?_
          refine AllReadyH.cons (o := { dst := none, op := Op.store 38 (Operand.tmp 9) (Operand.tmp 33), type := 0, pos := "law.go:49", after := #[{ on := 10, ground := Ground.data }, { on := 9, ground := Ground.data }, { on := 9, ground := Ground.chain }, { on := 0, ground := Ground.phase }, { on := 1, ground := Ground.phase }, { on := 2, ground := Ground.phase }, { on := 3, ground := Ground.phase }, { on := 4, ground := Ground.phase }, { on := 5, ground := Ground.phase }, { on := 6, ground := Ground.phase }, { on := 7, ground := Ground.phase }, { on := 8, ground := Ground.phase }, { on := 9, ground := Ground.phase }, { on := 10, ground := Ground.phase }], guard := none }) rfl (fun K hK => ?_) AllReadyH.nil
          rw [if_pos (by rfl)]
          refine wp_store_mid 38 (.tmp 9) (.tmp 33) rfl gz 0 #[.int .i64 kd, .int .i64 z0, .int .i64 z1, .int .i64 z2, .int .i64 z3, .int .i64 rt, .int .i64 us] rfl rfl ?htvst912 st_info (st_one kd z0 z1 z2 z3 rt us) ?_
          case htvst912 => exact hz.there rfl
          have hrz := hz.put (D := #[.int .i64 kd, .int .i64 z0, .int .i64 z1, .int .i64 z2, .int .i64 z3, .int .i64 rt, .int .i64 us]) rfl
          have hzge := hz.ge
          have hqq := HQ.out _ hk.q
          have hlt := HLT.out
          replace hk := hk.put (z := gz) (vs := #[.int .i64 kd, .int .i64 z0, .int .i64 z1, .int .i64 z2, .int .i64 z3, .int .i64 rt, .int .i64 us].toList) (by omega) (by omega) (HQI.out _ (hqq.1.put (by omega) (by omega)) (by rw [setCells_size]; exact hqq.2))
          clear hz hqq hlt
          generalize wk.setCells gz 0 #[.int .i64 kd, .int .i64 z0, .int .i64 z1, .int .i64 z2, .int .i64 z3, .int .i64 rt, .int .i64 us].toList = wk at hk hrz ⊢
          simp only [Act.put]
          refine hK.out _ _ hk (fun _ => ?_)
          clear hK K
          try simp only [Act.put, List.setIfInBounds_toArray, List.set_cons_zero, List.set_cons_succ]
          refine wpAnyH_done (by decide +kernel) ?_ _
          go_wp2_with fail
          go_meet
          case rel => exact ⟨gz, rfl, ⟨hzge, hrz, hk⟩⟩
      · rw [if_pos (by rfl)]
        refine wp_alloc_of 38 7 rfl st_zero ?_
        intro cs hcs
        have hz := NV.new (T := 38) (N0 := N) (wr := wk) (HQ.out _ hk.q).2 hcs
        have hbA : Below wk.heap.size wk (wk.alloc (.cells cs 38)) := (Below.refl _ _).alloc (Nat.le_refl _) _
        replace hk := hk.step hbA
        clear hbA hcs
        generalize wk.heap.size = gz at hz ⊢
        generalize wk.alloc (.cells cs 38) = wk at hz hk ⊢
        simp only [Act.put, List.setIfInBounds_toArray, List.set_cons_zero, List.set_cons_succ]
        refine hK.out _ _ hk (fun _ => ?_)
        clear hK K
        try simp only [Act.put, List.setIfInBounds_toArray, List.set_cons_zero, List.set_cons_succ]
        refine wpAnyH_ready (rs := [8]) (by decide +kernel) (by simp) ?_
        refine AllReadyH.cons (o := { dst := some 32, op := Op.call { callee := Callee.value (Operand.func 14), args := #[Operand.tmp 31], argTypes := #[26] }, type := 3, pos := "law.go:49", after := #[{ on := 7, ground := Ground.data }], guard := none }) rfl (fun K hK => ?_) AllReadyH.nil
        go_simp
        refine (fuel_any c _).mono ?_
        rintro e1 wk ⟨rfl, hb1⟩
        replace hk := hk.step hb1
        try replace hz := hz.step hb1
        clear hb1
        refine hK.out _ _ hk (fun _ => ?_)
        clear hK K
        try simp only [Act.put, List.setIfInBounds_toArray, List.set_cons_zero, List.set_cons_succ]
        refine wpAnyH_ready (rs := [9]) (by decide +kernel) (by simp) ?_
        refine AllReadyH.cons (o := { dst := some 33, op := Op.call { callee := Callee.value (Operand.func 13), args := #[Operand.tmp 24, Operand.tmp 26, Operand.tmp 28, Operand.tmp 30, Operand.tmp 32], argTypes := #[28, 24, 3, 2, 3] }, type := 38, pos := "law.go:49", after := #[{ on := 0, ground := Ground.data }, { on := 2, ground := Ground.data }, { on := 4, ground := Ground.data }, { on := 6, ground := Ground.data }, { on := 8, ground := Ground.data }, { on := 8, ground := Ground.chain }], guard := none }) rfl (fun K hK => ?_) AllReadyH.nil
        go_simp
        refine (step_any gm gc cc L c.s0 c.s1 c.s2 c.s3 c.k c.g (fuC c) _ (HQ.out _ hk.q).1 HIK.out HC.out.s HC.out.k HC.out.g (fuC_in c)).mono ?_
        rintro e1 wk ⟨rfl, hb1⟩
        rw [HST.out]
        replace hk := hk.step hb1
        try replace hz := hz.step hb1
        clear hb1
        refine hK.out _ _ hk (fun _ => ?_)
        clear hK K
        try simp only [Act.put, List.setIfInBounds_toArray, List.set_cons_zero, List.set_cons_succ]
        refine wpAnyH_ready (rs := [11]) (by decide +kernel) (by simp) ?_
        refine AllReadyH.cons (o := { dst := none, op := Op.store 38 (Operand.tmp 9) (Operand.tmp 33), type := 0, pos := "law.go:49", after := #[{ on := 10, ground := Ground.data }, { on := 9, ground := Ground.data }, { on := 9, ground := Ground.chain }, { on := 0, ground := Ground.phase }, { on := 1, ground := Ground.phase }, { on := 2, ground := Ground.phase }, { on := 3, ground := Ground.phase }, { on := 4, ground := Ground.phase }, { on := 5, ground := Ground.phase }, { on := 6, ground := Ground.phase }, { on := 7, ground := Ground.phase }, { on := 8, ground := Ground.phase }, { on := 9, ground := Ground.phase }, { on := 10, ground := Ground.phase }], guard := none }) rfl (fun K hK => ?_) AllReadyH.nil
        rw [if_pos (by rfl)]
        refine wp_store_mid 38 (.tmp 9) (.tmp 33) rfl gz 0 #[.int .i64 kd, .int .i64 z0, .int .i64 z1, .int .i64 z2, .int .i64 z3, .int .i64 rt, .int .i64 us] rfl rfl ?htvst914 st_info (st_one kd z0 z1 z2 z3 rt us) ?_
        case htvst914 => exact hz.there rfl
        have hrz := hz.put (D := #[.int .i64 kd, .int .i64 z0, .int .i64 z1, .int .i64 z2, .int .i64 z3, .int .i64 rt, .int .i64 us]) rfl
        have hzge := hz.ge
        have hqq := HQ.out _ hk.q
        have hlt := HLT.out
        replace hk := hk.put (z := gz) (vs := #[.int .i64 kd, .int .i64 z0, .int .i64 z1, .int .i64 z2, .int .i64 z3, .int .i64 rt, .int .i64 us].toList) (by omega) (by omega) (HQI.out _ (hqq.1.put (by omega) (by omega)) (by rw [setCells_size]; exact hqq.2))
        clear hz hqq hlt
        generalize wk.setCells gz 0 #[.int .i64 kd, .int .i64 z0, .int .i64 z1, .int .i64 z2, .int .i64 z3, .int .i64 rt, .int .i64 us].toList = wk at hk hrz ⊢
        simp only [Act.put]
        refine hK.out _ _ hk (fun _ => ?_)
        clear hK K
        try simp only [Act.put, List.setIfInBounds_toArray, List.set_cons_zero, List.set_cons_succ]
        refine wpAnyH_done (by decide +kernel) ?_ _
        go_wp2_with fail
        go_meet
        case rel => exact ⟨gz, rfl, ⟨hzge, hrz, hk⟩⟩
    case rest =>
      obtain ⟨gz, rfl, HZ⟩ := hcut
      obtain ⟨w5, hw5⟩ : ∃ w5, w5 = wc := ⟨_, rfl⟩
      subst hw5
      obtain ⟨Qx, HQX0⟩ : ∃ Qx : World → Prop, Bx (Qx = fun W => Mc W gm gc cc L ∧ W.heap[gz]? = some (.cells #[.int .i64 kd, .int .i64 z0, .int .i64 z1, .int .i64 z2, .int .i64 z3, .int .i64 rt, .int .i64 us] 38 (0, 0))) := ⟨_, ⟨rfl⟩⟩
      have HQX : Bx (∀ W, Qx W → W.heap[gz]? = some (.cells #[.int .i64 kd, .int .i64 z0, .int .i64 z1, .int .i64 z2, .int .i64 z3, .int .i64 rt, .int .i64 us] 38 (0, 0))) := ⟨fun W h => by rw [HQX0.out] at h; exact h.2⟩
      have HQM : Bx (∀ W, Qx W → Mc W gm gc cc L) := ⟨fun W h => by rw [HQX0.out] at h; exact h.1⟩
      have HHK : Bx (CX Qx gb c w w5) := ⟨HZ.out.2.2.more (by rw [HQX0.out]; exact up_mc.and up_row) (by rw [HQX0.out]; exact ⟨(HQ.out _ HZ.out.2.2.q).1, HZ.out.2.1⟩)⟩
      have hfu := least_bd c.f (-3) 3000 (by decide)
      obtain ⟨fu, HFC⟩ : ∃ fu, Bx (fuC c = fu) := ⟨_, ⟨rfl⟩⟩
      rw [show leastV c.f (-3) 3000 = fu from HFC.out] at hfu
      have HF3 : Bx ((kd = 3 ∧ z0 = c.s0 ∧ z1 = c.s1 ∧ z2 = c.s2 ∧ z3 = c.s3 ∧ rt = 0 ∧ us = (fu.toNat : Int)) ∨ (kd ≠ 3 ∧ 1 ≤ us ∧ us ≤ fu ∧ (∀ e : Int, us ≤ e → stC (stpV L [c.s0, c.s1, c.s2, c.s3] c.k c.g e) = .agg #[.int .i64 kd, .int .i64 z0, .int .i64 z1, .int .i64 z2, .int .i64 z3, .int .i64 rt, .int .i64 us]) ∧ stC (stpV L [c.s0, c.s1, c.s2, c.s3] c.k c.g (us - 1)) = .agg #[.int .i64 3, .int .i64 c.s0, .int .i64 c.s1, .int .i64 c.s2, .int .i64 c.s3, .int .i64 0, .int .i64 (us - 1)])) := ⟨by
        have h := HFU.out
        rw [HFC.out] at h
        simp only [Prod.mk.injEq, List.cons.injEq, and_true] at h
        rcases h with ⟨e1, _, ⟨e2, e3, e4, e5⟩, e6, e7⟩ | ⟨h1, n, n1, n2, n3, n4, n5⟩
        · exact .inl ⟨e1, e2, e3, e4, e5, e6, e7⟩
        · refine .inr ⟨by omega, by omega, by omega, fun e he => ?_, ?_⟩
          · rw [n4 e (by omega)]; rfl
          · rw [n3, n5]; rfl⟩
      clear HQX0 HZ HQ HQI HST HFU
      have hmx : (if fu < 0 then 0 else fu) = (fu.toNat : Int) := by split <;> omega
      have hus : 0 ≤ us ∧ us ≤ (fu.toNat : Int) := by rcases HF3.out with h | h <;> omega
      obtain ⟨mx, HMX⟩ : ∃ mx : Int, Bx ((fu.toNat : Int) = mx) := ⟨_, ⟨rfl⟩⟩
      rw [HMX.out] at hmx hus
      have hu0 : ¬ us < 0 := by omega
      have hu1 : ¬ mx < us := by omega
      have HUS := Bx.mk hus
      have HFB := Bx.mk hfu
      clear hus hfu
      go_upto_region 5 with fail
      have hk : CX Qx gb c w w5.drew := HHK.out.drew
      clear HHK
      refine wp_region_held_drew (S := fun W => CX Qx gb c w W) (by kernel_rfl) hk (fun _ => ?_)
      generalize w5.drew = wk at hk ⊢
      refine wpAnyH_take (i := 0) (oi := { dst := some 34, op := Op.fieldAddr 38 (Operand.tmp 9) 3, type := 0, pos := "law.go:50", after := #[], guard := none }) (v := ?vvfu51) rfl (by kernel_rfl) (by kernel_rfl) (by kernel_rfl) (fun _ _ _ h => h) (Or.inl ⟨by rfl, ?yvfu51⟩) hk ?rvfu51
      case yvfu51 => (intro w hSw; (try dsimp only at hSw); go_simp; first | done | with_reducible rfl)
      simp only [Act.put, List.setIfInBounds_toArray, List.set_cons_zero, List.set_cons_succ]
      refine wpAnyH_take (i := 1) (oi := { dst := some 35, op := Op.load 3 (Operand.tmp 34), type := 3, pos := "law.go:50", after := #[{ on := 0, ground := Ground.data }], guard := none }) (v := ?vvfu52) rfl (by kernel_rfl) (by kernel_rfl) (by kernel_rfl) (fun _ _ _ h => h) (Or.inl ⟨by rfl, ?yvfu52⟩) hk ?rvfu52
      case yvfu52 => (intro w hSw; have hcw := cell_of_row _ gz 6 _ _ (0, 0) (HQX.out _ hSw.q); clear hSw; go_simp; first | done | with_reducible rfl)
      simp only [Act.put, List.setIfInBounds_toArray, List.set_cons_zero, List.set_cons_succ]
      refine wpAnyH_take (i := 2) (oi := { dst := some 36, op := Op.binOp BinOp.lss 3 (Operand.tmp 35) (Operand.const (Value.int IntKind.i64 0)) 3, type := 4, pos := "law.go:50", after := #[{ on := 1, ground := Ground.data }], guard := none }) (v := ?vvfu53) rfl (by kernel_rfl) (by kernel_rfl) (by kernel_rfl) (fun _ _ _ h => h) (Or.inl ⟨by rfl, ?yvfu53⟩) hk ?rvfu53
      case yvfu53 => (intro w hSw; (try dsimp only at hSw); go_simp; first | done | with_reducible rfl)
      simp only [Act.put, List.setIfInBounds_toArray, List.set_cons_zero, List.set_cons_succ]
      refine wpAnyH_take (i := 3) (oi := { dst := some 37, op := Op.move (Operand.tmp 36), type := 4, pos := "law.go:50", after := #[{ on := 2, ground := Ground.data }], guard := none }) (v := ?vvfu54) rfl (by kernel_rfl) (by kernel_rfl) (by kernel_rfl) (fun _ _ _ h => h) (Or.inl ⟨by rfl, ?yvfu54⟩) hk ?rvfu54
      case yvfu54 => (intro w hSw; (try dsimp only at hSw); go_simp; first | done | with_reducible rfl)
      simp only [Act.put, List.setIfInBounds_toArray, List.set_cons_zero, List.set_cons_succ]
      refine wpAnyH_take (i := 4) (oi := { dst := some 38, op := Op.fieldAddr 38 (Operand.tmp 9) 3, type := 0, pos := "law.go:50", after := #[{ on := 3, ground := Ground.guard }], guard := some (3, false) }) (v := ?vvfu55) rfl (by kernel_rfl) (by kernel_rfl) (by kernel_rfl) (fun _ _ _ h => h) (Or.inl ⟨by rfl, ?yvfu55⟩) hk ?rvfu55
      case yvfu55 => (intro w hSw; (try dsimp only at hSw); go_simp; first | done | with_reducible rfl)
      simp only [Act.put, List.setIfInBounds_toArray, List.set_cons_zero, List.set_cons_succ]
      refine wpAnyH_take (i := 5) (oi := { dst := some 39, op := Op.load 3 (Operand.tmp 38), type := 3, pos := "law.go:50", after := #[{ on := 4, ground := Ground.data }, { on := 3, ground := Ground.guard }], guard := some (3, false) }) (v := ?vvfu56) rfl (by kernel_rfl) (by kernel_rfl) (by kernel_rfl) (fun _ _ _ h => h) (Or.inl ⟨by rfl, ?yvfu56⟩) hk ?rvfu56
      case yvfu56 => (intro w hSw; have hcw := cell_of_row _ gz 6 _ _ (0, 0) (HQX.out _ hSw.q); clear hSw; go_simp; first | done | with_reducible rfl)
      simp only [Act.put, List.setIfInBounds_toArray, List.set_cons_zero, List.set_cons_succ]
      refine wpAnyH_take (i := 6) (oi := { dst := some 40, op := Op.load 26 (Operand.tmp 4), type := 26, pos := "law.go:50", after := #[{ on := 3, ground := Ground.guard }], guard := some (3, false) }) (v := .agg #[.int .i64 c.s0, .int .i64 c.s1, .int .i64 c.s2, .int .i64 c.s3, .int .i64 c.k, .int .i64 c.f, .int .i64 c.g]) rfl (by kernel_rfl) (by kernel_rfl) (by kernel_rfl) (fun _ _ _ h => h) (Or.inl ⟨by rfl, ?yvfu57⟩) hk ?rvfu57
      case yvfu57 => (intro w hSw; have q0 := hSw.c0; have q1 := hSw.c1; have q2 := hSw.c2; have q3 := hSw.c3; have q4 := hSw.c4; have q5 := hSw.c5; have q6 := hSw.c6; clear hSw; go_simp; first | done | with_reducible rfl)
      simp only [Act.put, List.setIfInBounds_toArray, List.set_cons_zero, List.set_cons_succ]
      refine wpAnyH_ready (rs := [7]) (by decide +kernel) (by simp) ?_
      refine AllReadyH.cons (o := { dst := some 41, op := Op.call { callee := Callee.value (Operand.func 14), args := #[Operand.tmp 40], argTypes := #[26] }, type := 3, pos := "law.go:50", after := #[{ on := 6, ground := Ground.data }, { on := 3, ground := Ground.chain }, { on := 3, ground := Ground.guard }], guard := some (3, false) }) rfl (fun K hK => ?_) AllReadyH.nil
      go_simp
      refine (fuel_any c _).mono ?_
      rintro e1 wk ⟨rfl, hb1⟩
      rw [HFC.out]
      replace hk := hk.step hb1
      clear hb1
      refine hK.out _ _ hk (fun _ => ?_)
      clear hK K
      try simp only [Act.put, List.setIfInBounds_toArray, List.set_cons_zero, List.set_cons_succ]
      refine wpAnyH_ready (rs := [8]) (by decide +kernel) (by simp) ?_
      refine AllReadyH.cons (o := { dst := some 42, op := Op.call { callee := Callee.builtin Builtin.max, args := #[Operand.tmp 41, Operand.const (Value.int IntKind.i64 0)], argTypes := #[3, 3] }, type := 3, pos := "law.go:50", after := #[{ on := 7, ground := Ground.data }, { on := 3, ground := Ground.guard }], guard := some (3, false) }) rfl (fun K hK => ?_) AllReadyH.nil
      go_simp
      refine hK.out _ _ hk (fun _ => ?_)
      clear hK K
      try simp only [Act.put, List.setIfInBounds_toArray, List.set_cons_zero, List.set_cons_succ]
      refine wpAnyH_take (i := 9) (oi := { dst := some 43, op := Op.binOp BinOp.gtr 3 (Operand.tmp 39) (Operand.tmp 42) 3, type := 4, pos := "law.go:50", after := #[{ on := 5, ground := Ground.data }, { on := 8, ground := Ground.data }, { on := 3, ground := Ground.guard }], guard := some (3, false) }) (v := ?vvfu58) rfl (by kernel_rfl) (by kernel_rfl) (by kernel_rfl) (fun _ _ _ h => h) (Or.inl ⟨by rfl, ?yvfu58⟩) hk ?rvfu58
      case yvfu58 => (intro w hSw; (try dsimp only at hSw); go_simp; first | done | with_reducible rfl)
      simp only [Act.put, List.setIfInBounds_toArray, List.set_cons_zero, List.set_cons_succ]
      refine wpAnyH_take (i := 10) (oi := { dst := some 44, op := Op.pick (Operand.tmp 37) (Operand.const (Value.bool true)) (Operand.tmp 43), type := 4, pos := "law.go:50", after := #[{ on := 3, ground := Ground.data }, { on := 9, ground := Ground.data }], guard := none }) (v := ?vvfu59) rfl (by kernel_rfl) (by kernel_rfl) (by kernel_rfl) (fun _ _ _ h => h) (Or.inl ⟨by rfl, ?yvfu59⟩) hk ?rvfu59
      case yvfu59 => (intro w hSw; (try dsimp only at hSw); go_simp; first | done | with_reducible rfl)
      simp only [Act.put, List.setIfInBounds_toArray, List.set_cons_zero, List.set_cons_succ]
      refine wpAnyH_done (by decide +kernel) ?_ _
      obtain ⟨w6, hw6⟩ : ∃ w6, w6 = wk := ⟨_, rfl⟩
      subst hw6
      have HHK := Bx.mk hk
      have x0 := cell_of_row _ gz 0 _ _ (0, 0) (HQX.out _ hk.q)
      have x6 := cell_of_row _ gz 6 _ _ (0, 0) (HQX.out _ hk.q)
      have q0 := hk.c0
      have q1 := hk.c1
      have q2 := hk.c2
      have q3 := hk.c3
      have q4 := hk.c4
      have q6 := hk.c6
      clear hk hu0 hu1
      rcases HF3.out with ⟨rfl, rfl, rfl, rfl, rfl, rfl, e7⟩ | ⟨hkd, hu1, hu2, hmo, hle⟩
      · have HUE : Bx (us = mx) := ⟨by rw [e7]; exact HMX.out⟩
        clear e7 HF3
        go_upto_region 8 with fail
        clear x0 x6 q0 q1 q2 q3 q4 q6
        have hk : CX Qx gb c w w6.drew := HHK.out.drew
        clear HHK
        rw [HUE.out] at HQX
        have heq := step_eq 3 c.s0 c.s1 c.s2 c.s3 0 mx
        refine wp_region_held_drew (S := fun W => CX Qx gb c w W) (by kernel_rfl) hk (fun _ => ?_)
        generalize w6.drew = wk at hk ⊢
        refine wpAnyH_take (i := 0) (oi := { dst := some 48, op := Op.load 38 (Operand.tmp 9), type := 38, pos := "law.go:54", after := #[], guard := none }) (v := .agg #[.int .i64 3, .int .i64 c.s0, .int .i64 c.s1, .int .i64 c.s2, .int .i64 c.s3, .int .i64 0, .int .i64 mx]) rfl (by kernel_rfl) (by kernel_rfl) (by kernel_rfl) (fun _ _ _ h => h) (Or.inl ⟨by rfl, ?yvfu81⟩) hk ?rvfu81
        case yvfu81 => (intro w hSw; have hrw := HQX.out _ hSw.q; have q0 := cell_of_row _ gz 0 _ _ (0, 0) hrw; have q1 := cell_of_row _ gz 1 _ _ (0, 0) hrw; have q2 := cell_of_row _ gz 2 _ _ (0, 0) hrw; have q3 := cell_of_row _ gz 3 _ _ (0, 0) hrw; have q4 := cell_of_row _ gz 4 _ _ (0, 0) hrw; have q5 := cell_of_row _ gz 5 _ _ (0, 0) hrw; have q6 := cell_of_row _ gz 6 _ _ (0, 0) hrw; clear hSw hrw; go_simp; first | done | with_reducible rfl)
        simp only [Act.put, List.setIfInBounds_toArray, List.set_cons_zero, List.set_cons_succ]
        refine wpAnyH_take (i := 1) (oi := { dst := some 49, op := Op.fieldAddr 26 (Operand.tmp 4) 0, type := 0, pos := "law.go:54", after := #[], guard := none }) (v := ?vvfu82) rfl (by kernel_rfl) (by kernel_rfl) (by kernel_rfl) (fun _ _ _ h => h) (Or.inl ⟨by rfl, ?yvfu82⟩) hk ?rvfu82
        case yvfu82 => (intro w hSw; (try dsimp only at hSw); go_simp; first | done | with_reducible rfl)
        simp only [Act.put, List.setIfInBounds_toArray, List.set_cons_zero, List.set_cons_succ]
        refine wpAnyH_take (i := 2) (oi := { dst := some 50, op := Op.load 24 (Operand.tmp 49), type := 24, pos := "law.go:54", after := #[{ on := 1, ground := Ground.data }], guard := none }) (v := .agg #[.int .i64 c.s0, .int .i64 c.s1, .int .i64 c.s2, .int .i64 c.s3]) rfl (by kernel_rfl) (by kernel_rfl) (by kernel_rfl) (fun _ _ _ h => h) (Or.inl ⟨by rfl, ?yvfu83⟩) hk ?rvfu83
        case yvfu83 => (intro w hSw; have q0 := hSw.c0; have q1 := hSw.c1; have q2 := hSw.c2; have q3 := hSw.c3; have q4 := hSw.c4; have q5 := hSw.c5; have q6 := hSw.c6; clear hSw; go_simp; first | done | with_reducible rfl)
        simp only [Act.put, List.setIfInBounds_toArray, List.set_cons_zero, List.set_cons_succ]
        refine wpAnyH_take (i := 3) (oi := { dst := some 51, op := Op.load 26 (Operand.tmp 4), type := 26, pos := "law.go:54", after := #[], guard := none }) (v := .agg #[.int .i64 c.s0, .int .i64 c.s1, .int .i64 c.s2, .int .i64 c.s3, .int .i64 c.k, .int .i64 c.f, .int .i64 c.g]) rfl (by kernel_rfl) (by kernel_rfl) (by kernel_rfl) (fun _ _ _ h => h) (Or.inl ⟨by rfl, ?yvfu84⟩) hk ?rvfu84
        case yvfu84 => (intro w hSw; have q0 := hSw.c0; have q1 := hSw.c1; have q2 := hSw.c2; have q3 := hSw.c3; have q4 := hSw.c4; have q5 := hSw.c5; have q6 := hSw.c6; clear hSw; go_simp; first | done | with_reducible rfl)
        simp only [Act.put, List.setIfInBounds_toArray, List.set_cons_zero, List.set_cons_succ]
        refine wpAnyH_ready (rs := [4]) (by decide +kernel) (by simp) ?_
        refine AllReadyH.cons (o := { dst := some 52, op := Op.call { callee := Callee.value (Operand.func 14), args := #[Operand.tmp 51], argTypes := #[26] }, type := 3, pos := "law.go:54", after := #[{ on := 3, ground := Ground.data }], guard := none }) rfl (fun K hK => ?_) AllReadyH.nil
        go_simp
        refine (fuel_any c _).mono ?_
        rintro e1 wk ⟨rfl, hb1⟩
        rw [HFC.out]
        replace hk := hk.step hb1
        clear hb1
        refine hK.out _ _ hk (fun _ => ?_)
        clear hK K
        try simp only [Act.put, List.setIfInBounds_toArray, List.set_cons_zero, List.set_cons_succ]
        refine wpAnyH_ready (rs := [5]) (by decide +kernel) (by simp) ?_
        refine AllReadyH.cons (o := { dst := some 53, op := Op.call { callee := Callee.builtin Builtin.max, args := #[Operand.tmp 52, Operand.const (Value.int IntKind.i64 0)], argTypes := #[3, 3] }, type := 3, pos := "law.go:54", after := #[{ on := 4, ground := Ground.data }], guard := none }) rfl (fun K hK => ?_) AllReadyH.nil
        go_simp
        refine hK.out _ _ hk (fun _ => ?_)
        clear hK K
        try simp only [Act.put, List.setIfInBounds_toArray, List.set_cons_zero, List.set_cons_succ]
        refine wpAnyH_take (i := 6) (oi := { dst := some 54, op := Op.build 38 #[(0, Operand.const (Value.int IntKind.i64 3)), (1, Operand.tmp 50), (3, Operand.tmp 53)], type := 38, pos := "law.go:54", after := #[{ on := 2, ground := Ground.data }, { on := 5, ground := Ground.data }], guard := none }) (v := ?vvfu85) rfl (by kernel_rfl) (by kernel_rfl) (by kernel_rfl) (fun _ _ _ h => h) (Or.inl ⟨by rfl, ?yvfu85⟩) hk ?rvfu85
        case yvfu85 => (intro w hSw; (try dsimp only at hSw); go_simp; first | done | with_reducible rfl)
        simp only [Act.put, List.setIfInBounds_toArray, List.set_cons_zero, List.set_cons_succ]
        refine wpAnyH_take (i := 7) (oi := { dst := some 55, op := Op.binOp BinOp.eql 38 (Operand.tmp 48) (Operand.tmp 54) 38, type := 4, pos := "law.go:54", after := #[{ on := 0, ground := Ground.data }, { on := 6, ground := Ground.data }], guard := none }) (v := ?vvfu86) rfl (by kernel_rfl) (by kernel_rfl) (by kernel_rfl) (fun _ _ _ h => h) (Or.inl ⟨by rfl, ?yvfu86⟩) hk ?rvfu86
        case yvfu86 => (intro w hSw; (try dsimp only at hSw); go_simp; first | done | with_reducible rfl)
        simp only [Act.put, List.setIfInBounds_toArray, List.set_cons_zero, List.set_cons_succ]
        refine wpAnyH_take (i := 8) (oi := { dst := some 56, op := Op.move (Operand.tmp 55), type := 4, pos := "law.go:54", after := #[{ on := 7, ground := Ground.data }, { on := 4, ground := Ground.chain }], guard := none }) (v := ?vvfu87) rfl (by kernel_rfl) (by kernel_rfl) (by kernel_rfl) (fun _ _ _ h => h) (Or.inl ⟨by rfl, ?yvfu87⟩) hk ?rvfu87
        case yvfu87 => (intro w hSw; (try dsimp only at hSw); go_simp; first | done | with_reducible rfl)
        simp only [Act.put, List.setIfInBounds_toArray, List.set_cons_zero, List.set_cons_succ]
        refine wpAnyH_ready (rs := [9]) (by decide +kernel) (by simp) ?_
        refine AllReadyH.cons (o := { dst := some 57, op := Op.call { callee := Callee.value (Operand.func 16), args := #[], argTypes := #[] }, type := 4, pos := "law.go:54", after := #[{ on := 8, ground := Ground.chain }, { on := 8, ground := Ground.guard }], guard := some (8, true) }) rfl (fun K hK => ?_) AllReadyH.nil
        go_simp
        refine (lives16_any _).mono ?_
        rintro e1 wk ⟨rfl, hb1⟩
        replace hk := hk.step hb1
        clear hb1
        refine hK.out _ _ hk (fun _ => ?_)
        clear hK K
        try simp only [Act.put, List.setIfInBounds_toArray, List.set_cons_zero, List.set_cons_succ]
        refine wpAnyH_take (i := 10) (oi := { dst := some 58, op := Op.pick (Operand.tmp 56) (Operand.tmp 57) (Operand.const (Value.bool false)), type := 4, pos := "law.go:54", after := #[{ on := 8, ground := Ground.data }, { on := 9, ground := Ground.data }], guard := none }) (v := ?vvfu88) rfl (by kernel_rfl) (by kernel_rfl) (by kernel_rfl) (fun _ _ _ h => h) (Or.inl ⟨by rfl, ?yvfu88⟩) hk ?rvfu88
        case yvfu88 => (intro w hSw; (try dsimp only at hSw); go_simp; first | done | with_reducible rfl)
        simp only [Act.put, List.setIfInBounds_toArray, List.set_cons_zero, List.set_cons_succ]
        refine wpAnyH_take (i := 11) (oi := { dst := some 6, op := Op.assign (Operand.tmp 58), type := 4, pos := "law.go:54", after := #[{ on := 10, ground := Ground.data }, { on := 9, ground := Ground.chain }, { on := 0, ground := Ground.phase }, { on := 1, ground := Ground.phase }, { on := 2, ground := Ground.phase }, { on := 3, ground := Ground.phase }, { on := 4, ground := Ground.phase }, { on := 5, ground := Ground.phase }, { on := 6, ground := Ground.phase }, { on := 7, ground := Ground.phase }, { on := 8, ground := Ground.phase }, { on := 9, ground := Ground.phase }, { on := 10, ground := Ground.phase }], guard := none }) (v := ?vvfu89) rfl (by kernel_rfl) (by kernel_rfl) (by kernel_rfl) (fun _ _ _ h => h) (Or.inl ⟨by rfl, ?yvfu89⟩) hk ?rvfu89
        case yvfu89 => (intro w hSw; (try dsimp only at hSw); go_simp; first | done | with_reducible rfl)
        simp only [Act.put, List.setIfInBounds_toArray, List.set_cons_zero, List.set_cons_succ]
        refine wpAnyH_done (by decide +kernel) ?_ _
        go_wp2_with fail
        go_ret
        exact ⟨rfl, hk.low⟩
      · have hkb : (kd == 3) = false := by simpa using hkd
        obtain ⟨mo, HMO⟩ : ∃ mo, Bx (leastV more 0 1048576 = mo) := ⟨_, ⟨rfl⟩⟩
        have hmb := least_bd more 0 1048576 (by decide)
        rw [HMO.out] at hmb
        have HSU := Bx.mk (hmo us (Int.le_refl _))
        have HSM := Bx.mk (hmo (fu + mo) (by omega))
        have HSL := Bx.mk hle
        have hfb := HFB.out
        have HVU : Bx (V64 us) := ⟨by unfold V64; omega⟩
        have HVM : Bx (V64 (fu + mo)) := ⟨by unfold V64; omega⟩
        have HVL : Bx (V64 (us - 1)) := ⟨by unfold V64; omega⟩
        have hw1 : IntKind.i64.wrap (us - 1) = us - 1 := IntWalk.i64_in _ (by omega)
        have hw2 : IntKind.i64.wrap (fu + mo) = fu + mo := IntWalk.i64_in _ (by omega)
        have HW1 := Bx.mk hw1
        have HW2 := Bx.mk hw2
        clear hkd hmo hle HF3 hw2 hmb hu1 hu2 hfb hmore
        go_upto_region 10 with (go_at_call 17; refine (least_any _ _ _ _).mono ?_; rintro e wz ⟨rfl, hw⟩; subst hw; rw [HMO.out])
        have HIM := Bx.mk (HQM.out _ HHK.out.q)
        go_wp2_with fail
        refine (step_any gm gc cc L c.s0 c.s1 c.s2 c.s3 c.k c.g (us - 1) _ HIM.out HIK.out HC.out.s HC.out.k HC.out.g HVL.out).mono ?_
        rintro e w7 ⟨rfl, hb7⟩
        rw [HSL.out]
        have HH7 := Bx.mk (HHK.out.step hb7)
        obtain ⟨gl, HGL⟩ : ∃ gl, Bx (gl = w7.heap.size) := ⟨_, ⟨rfl⟩⟩
        have HRL := Bx.mk (heap_alloc_new w7 (.cells #[.int .i64 3, .int .i64 c.s0, .int .i64 c.s1, .int .i64 c.s2, .int .i64 c.s3, .int .i64 0, .int .i64 (us - 1)] 38))
        rw [← HGL.out] at HRL
        have HH8 : Bx (CX Qx gb c w (w7.alloc (.cells #[.int .i64 3, .int .i64 c.s0, .int .i64 c.s1, .int .i64 c.s2, .int .i64 c.s3, .int .i64 0, .int .i64 (us - 1)] 38))) := ⟨HH7.out.step ((Below.refl _ _).alloc (Nat.le_refl _) _)⟩
        clear hb7 HHK HIM x0 x6 q0 q1 q2 q3 q4 q6
        go_upto_region 11 with fail
        rw [← HGL.out]
        generalize w7.alloc (.cells #[.int .i64 3, .int .i64 c.s0, .int .i64 c.s1, .int .i64 c.s2, .int .i64 c.s3, .int .i64 0, .int .i64 (us - 1)] 38) = w8 at HRL HH8 ⊢
        obtain ⟨Ql, HQL0⟩ : ∃ Ql : World → Prop, Bx (Ql = fun W => Mc W gm gc cc L ∧ W.heap[gz]? = some (.cells #[.int .i64 kd, .int .i64 z0, .int .i64 z1, .int .i64 z2, .int .i64 z3, .int .i64 rt, .int .i64 us] 38 (0, 0)) ∧ W.heap[gl]? = some (.cells #[.int .i64 3, .int .i64 c.s0, .int .i64 c.s1, .int .i64 c.s2, .int .i64 c.s3, .int .i64 0, .int .i64 (us - 1)] 38 (0, 0))) := ⟨_, ⟨rfl⟩⟩
        have HLM : Bx (∀ W, Ql W → Mc W gm gc cc L) := ⟨fun W h => by rw [HQL0.out] at h; exact h.1⟩
        have HLX : Bx (∀ W, Ql W → W.heap[gz]? = some (.cells #[.int .i64 kd, .int .i64 z0, .int .i64 z1, .int .i64 z2, .int .i64 z3, .int .i64 rt, .int .i64 us] 38 (0, 0))) := ⟨fun W h => by rw [HQL0.out] at h; exact h.2.1⟩
        have HLL2 : Bx (∀ W, Ql W → W.heap[gl]? = some (.cells #[.int .i64 3, .int .i64 c.s0, .int .i64 c.s1, .int .i64 c.s2, .int .i64 c.s3, .int .i64 0, .int .i64 (us - 1)] 38 (0, 0))) := ⟨fun W h => by rw [HQL0.out] at h; exact h.2.2⟩
        have hk : CX Ql gb c w w8.drew := (HH8.out.more (by rw [HQL0.out]; exact up_mc.and (up_row.and up_row)) (by rw [HQL0.out]; exact ⟨HQM.out _ HH8.out.q, HQX.out _ HH8.out.q, HRL.out⟩)).drew
        have heqx := step_eq kd z0 z1 z2 z3 rt us
        have heql := step_eq 3 c.s0 c.s1 c.s2 c.s3 0 (us - 1)
        have hw2 := HW2.out
        clear HQL0 HH8 HRL HH7 HQM HQX
        refine wp_region_held_drew (S := fun W => CX Ql gb c w W) (by kernel_rfl) hk (fun _ => ?_)
        generalize w8.drew = wk at hk ⊢
        refine wpAnyH_take (i := 0) (oi := { dst := some 72, op := Op.move (Operand.tmp 7), type := 28, pos := "law.go:58", after := #[], guard := none }) (v := ?vvfu111) rfl (by kernel_rfl) (by kernel_rfl) (by kernel_rfl) (fun _ _ _ h => h) (Or.inl ⟨by rfl, ?yvfu111⟩) hk ?rvfu111
        case yvfu111 => (intro w hSw; (try dsimp only at hSw); go_simp; first | done | with_reducible rfl)
        simp only [Act.put, List.setIfInBounds_toArray, List.set_cons_zero, List.set_cons_succ]
        refine wpAnyH_take (i := 1) (oi := { dst := some 73, op := Op.fieldAddr 26 (Operand.tmp 4) 0, type := 0, pos := "law.go:58", after := #[], guard := none }) (v := ?vvfu112) rfl (by kernel_rfl) (by kernel_rfl) (by kernel_rfl) (fun _ _ _ h => h) (Or.inl ⟨by rfl, ?yvfu112⟩) hk ?rvfu112
        case yvfu112 => (intro w hSw; (try dsimp only at hSw); go_simp; first | done | with_reducible rfl)
        simp only [Act.put, List.setIfInBounds_toArray, List.set_cons_zero, List.set_cons_succ]
        refine wpAnyH_take (i := 2) (oi := { dst := some 74, op := Op.load 24 (Operand.tmp 73), type := 24, pos := "law.go:58", after := #[{ on := 1, ground := Ground.data }], guard := none }) (v := .agg #[.int .i64 c.s0, .int .i64 c.s1, .int .i64 c.s2, .int .i64 c.s3]) rfl (by kernel_rfl) (by kernel_rfl) (by kernel_rfl) (fun _ _ _ h => h) (Or.inl ⟨by rfl, ?yvfu113⟩) hk ?rvfu113
        case yvfu113 => (intro w hSw; have q0 := hSw.c0; have q1 := hSw.c1; have q2 := hSw.c2; have q3 := hSw.c3; have q4 := hSw.c4; have q5 := hSw.c5; have q6 := hSw.c6; clear hSw; go_simp; first | done | with_reducible rfl)
        simp only [Act.put, List.setIfInBounds_toArray, List.set_cons_zero, List.set_cons_succ]
        refine wpAnyH_take (i := 3) (oi := { dst := some 75, op := Op.fieldAddr 26 (Operand.tmp 4) 1, type := 0, pos := "law.go:58", after := #[], guard := none }) (v := ?vvfu114) rfl (by kernel_rfl) (by kernel_rfl) (by kernel_rfl) (fun _ _ _ h => h) (Or.inl ⟨by rfl, ?yvfu114⟩) hk ?rvfu114
        case yvfu114 => (intro w hSw; (try dsimp only at hSw); go_simp; first | done | with_reducible rfl)
        simp only [Act.put, List.setIfInBounds_toArray, List.set_cons_zero, List.set_cons_succ]
        refine wpAnyH_take (i := 4) (oi := { dst := some 76, op := Op.load 3 (Operand.tmp 75), type := 3, pos := "law.go:58", after := #[{ on := 3, ground := Ground.data }], guard := none }) (v := ?vvfu115) rfl (by kernel_rfl) (by kernel_rfl) (by kernel_rfl) (fun _ _ _ h => h) (Or.inl ⟨by rfl, ?yvfu115⟩) hk ?rvfu115
        case yvfu115 => (intro w hSw; have hcw := hSw.c4; clear hSw; go_simp; first | done | with_reducible rfl)
        simp only [Act.put, List.setIfInBounds_toArray, List.set_cons_zero, List.set_cons_succ]
        refine wpAnyH_take (i := 5) (oi := { dst := some 77, op := Op.fieldAddr 26 (Operand.tmp 4) 3, type := 0, pos := "law.go:58", after := #[], guard := none }) (v := ?vvfu116) rfl (by kernel_rfl) (by kernel_rfl) (by kernel_rfl) (fun _ _ _ h => h) (Or.inl ⟨by rfl, ?yvfu116⟩) hk ?rvfu116
        case yvfu116 => (intro w hSw; (try dsimp only at hSw); go_simp; first | done | with_reducible rfl)
        simp only [Act.put, List.setIfInBounds_toArray, List.set_cons_zero, List.set_cons_succ]
        refine wpAnyH_take (i := 6) (oi := { dst := some 78, op := Op.load 2 (Operand.tmp 77), type := 2, pos := "law.go:58", after := #[{ on := 5, ground := Ground.data }], guard := none }) (v := ?vvfu117) rfl (by kernel_rfl) (by kernel_rfl) (by kernel_rfl) (fun _ _ _ h => h) (Or.inl ⟨by rfl, ?yvfu117⟩) hk ?rvfu117
        case yvfu117 => (intro w hSw; have hcw := hSw.c6; clear hSw; go_simp; first | done | with_reducible rfl)
        simp only [Act.put, List.setIfInBounds_toArray, List.set_cons_zero, List.set_cons_succ]
        refine wpAnyH_take (i := 7) (oi := { dst := some 79, op := Op.fieldAddr 38 (Operand.tmp 9) 3, type := 0, pos := "law.go:58", after := #[], guard := none }) (v := ?vvfu118) rfl (by kernel_rfl) (by kernel_rfl) (by kernel_rfl) (fun _ _ _ h => h) (Or.inl ⟨by rfl, ?yvfu118⟩) hk ?rvfu118
        case yvfu118 => (intro w hSw; (try dsimp only at hSw); go_simp; first | done | with_reducible rfl)
        simp only [Act.put, List.setIfInBounds_toArray, List.set_cons_zero, List.set_cons_succ]
        refine wpAnyH_take (i := 8) (oi := { dst := some 80, op := Op.load 3 (Operand.tmp 79), type := 3, pos := "law.go:58", after := #[{ on := 7, ground := Ground.data }], guard := none }) (v := ?vvfu119) rfl (by kernel_rfl) (by kernel_rfl) (by kernel_rfl) (fun _ _ _ h => h) (Or.inl ⟨by rfl, ?yvfu119⟩) hk ?rvfu119
        case yvfu119 => (intro w hSw; have hcw := cell_of_row _ gz 6 _ _ (0, 0) (HLX.out _ hSw.q); clear hSw; go_simp; first | done | with_reducible rfl)
        simp only [Act.put, List.setIfInBounds_toArray, List.set_cons_zero, List.set_cons_succ]
        refine wpAnyH_take (i := 10) (oi := { dst := some 82, op := Op.load 38 (Operand.tmp 9), type := 38, pos := "law.go:58", after := #[], guard := none }) (v := .agg #[.int .i64 kd, .int .i64 z0, .int .i64 z1, .int .i64 z2, .int .i64 z3, .int .i64 rt, .int .i64 us]) rfl (by kernel_rfl) (by kernel_rfl) (by kernel_rfl) (fun _ _ _ h => h) (Or.inl ⟨by rfl, ?yvfu1110⟩) hk ?rvfu1110
        case yvfu1110 => (intro w hSw; have hrw := HLX.out _ hSw.q; have q0 := cell_of_row _ gz 0 _ _ (0, 0) hrw; have q1 := cell_of_row _ gz 1 _ _ (0, 0) hrw; have q2 := cell_of_row _ gz 2 _ _ (0, 0) hrw; have q3 := cell_of_row _ gz 3 _ _ (0, 0) hrw; have q4 := cell_of_row _ gz 4 _ _ (0, 0) hrw; have q5 := cell_of_row _ gz 5 _ _ (0, 0) hrw; have q6 := cell_of_row _ gz 6 _ _ (0, 0) hrw; clear hSw hrw; go_simp; first | done | with_reducible rfl)
        simp only [Act.put, List.setIfInBounds_toArray, List.set_cons_zero, List.set_cons_succ]
        refine wpAnyH_ready (rs := [9]) (by decide +kernel) (by simp) ?_
        refine AllReadyH.cons (o := { dst := some 81, op := Op.call { callee := Callee.value (Operand.func 13), args := #[Operand.tmp 72, Operand.tmp 74, Operand.tmp 76, Operand.tmp 78, Operand.tmp 80], argTypes := #[28, 24, 3, 2, 3] }, type := 38, pos := "law.go:58", after := #[{ on := 0, ground := Ground.data }, { on := 2, ground := Ground.data }, { on := 4, ground := Ground.data }, { on := 6, ground := Ground.data }, { on := 8, ground := Ground.data }], guard := none }) rfl (fun K hK => ?_) AllReadyH.nil
        go_simp
        refine (step_any gm gc cc L c.s0 c.s1 c.s2 c.s3 c.k c.g us _ (HLM.out _ hk.q) HIK.out HC.out.s HC.out.k HC.out.g HVU.out).mono ?_
        rintro e1 wk ⟨rfl, hb1⟩
        rw [HSU.out]
        replace hk := hk.step hb1
        clear hb1
        refine hK.out _ _ hk (fun _ => ?_)
        clear hK K
        try simp only [Act.put, List.setIfInBounds_toArray, List.set_cons_zero, List.set_cons_succ]
        refine wpAnyH_take (i := 11) (oi := { dst := some 83, op := Op.binOp BinOp.eql 38 (Operand.tmp 81) (Operand.tmp 82) 38, type := 4, pos := "law.go:58", after := #[{ on := 9, ground := Ground.data }, { on := 10, ground := Ground.data }], guard := none }) (v := ?vvfu1111) rfl (by kernel_rfl) (by kernel_rfl) (by kernel_rfl) (fun _ _ _ h => h) (Or.inl ⟨by rfl, ?yvfu1111⟩) hk ?rvfu1111
        case yvfu1111 => (intro w hSw; (try dsimp only at hSw); go_simp; first | done | with_reducible rfl)
        simp only [Act.put, List.setIfInBounds_toArray, List.set_cons_zero, List.set_cons_succ]
        refine wpAnyH_take (i := 12) (oi := { dst := some 84, op := Op.move (Operand.tmp 83), type := 4, pos := "law.go:58", after := #[{ on := 11, ground := Ground.data }, { on := 9, ground := Ground.chain }], guard := none }) (v := ?vvfu1112) rfl (by kernel_rfl) (by kernel_rfl) (by kernel_rfl) (fun _ _ _ h => h) (Or.inl ⟨by rfl, ?yvfu1112⟩) hk ?rvfu1112
        case yvfu1112 => (intro w hSw; (try dsimp only at hSw); go_simp; first | done | with_reducible rfl)
        simp only [Act.put, List.setIfInBounds_toArray, List.set_cons_zero, List.set_cons_succ]
        refine wpAnyH_take (i := 13) (oi := { dst := some 85, op := Op.move (Operand.tmp 7), type := 28, pos := "law.go:58", after := #[{ on := 12, ground := Ground.guard }], guard := some (12, true) }) (v := ?vvfu1113) rfl (by kernel_rfl) (by kernel_rfl) (by kernel_rfl) (fun _ _ _ h => h) (Or.inl ⟨by rfl, ?yvfu1113⟩) hk ?rvfu1113
        case yvfu1113 => (intro w hSw; (try dsimp only at hSw); go_simp; first | done | with_reducible rfl)
        simp only [Act.put, List.setIfInBounds_toArray, List.set_cons_zero, List.set_cons_succ]
        refine wpAnyH_take (i := 14) (oi := { dst := some 86, op := Op.fieldAddr 26 (Operand.tmp 4) 0, type := 0, pos := "law.go:58", after := #[{ on := 12, ground := Ground.guard }], guard := some (12, true) }) (v := ?vvfu1114) rfl (by kernel_rfl) (by kernel_rfl) (by kernel_rfl) (fun _ _ _ h => h) (Or.inl ⟨by rfl, ?yvfu1114⟩) hk ?rvfu1114
        case yvfu1114 => (intro w hSw; (try dsimp only at hSw); go_simp; first | done | with_reducible rfl)
        simp only [Act.put, List.setIfInBounds_toArray, List.set_cons_zero, List.set_cons_succ]
        refine wpAnyH_take (i := 15) (oi := { dst := some 87, op := Op.load 24 (Operand.tmp 86), type := 24, pos := "law.go:58", after := #[{ on := 14, ground := Ground.data }, { on := 12, ground := Ground.guard }], guard := some (12, true) }) (v := .agg #[.int .i64 c.s0, .int .i64 c.s1, .int .i64 c.s2, .int .i64 c.s3]) rfl (by kernel_rfl) (by kernel_rfl) (by kernel_rfl) (fun _ _ _ h => h) (Or.inl ⟨by rfl, ?yvfu1115⟩) hk ?rvfu1115
        case yvfu1115 => (intro w hSw; have q0 := hSw.c0; have q1 := hSw.c1; have q2 := hSw.c2; have q3 := hSw.c3; have q4 := hSw.c4; have q5 := hSw.c5; have q6 := hSw.c6; clear hSw; go_simp; first | done | with_reducible rfl)
        simp only [Act.put, List.setIfInBounds_toArray, List.set_cons_zero, List.set_cons_succ]
        refine wpAnyH_take (i := 16) (oi := { dst := some 88, op := Op.fieldAddr 26 (Operand.tmp 4) 1, type := 0, pos := "law.go:58", after := #[{ on := 12, ground := Ground.guard }], guard := some (12, true) }) (v := ?vvfu1116) rfl (by kernel_rfl) (by kernel_rfl) (by kernel_rfl) (fun _ _ _ h => h) (Or.inl ⟨by rfl, ?yvfu1116⟩) hk ?rvfu1116
        case yvfu1116 => (intro w hSw; (try dsimp only at hSw); go_simp; first | done | with_reducible rfl)
        simp only [Act.put, List.setIfInBounds_toArray, List.set_cons_zero, List.set_cons_succ]
        refine wpAnyH_take (i := 17) (oi := { dst := some 89, op := Op.load 3 (Operand.tmp 88), type := 3, pos := "law.go:58", after := #[{ on := 16, ground := Ground.data }, { on := 12, ground := Ground.guard }], guard := some (12, true) }) (v := ?vvfu1117) rfl (by kernel_rfl) (by kernel_rfl) (by kernel_rfl) (fun _ _ _ h => h) (Or.inl ⟨by rfl, ?yvfu1117⟩) hk ?rvfu1117
        case yvfu1117 => (intro w hSw; have hcw := hSw.c4; clear hSw; go_simp; first | done | with_reducible rfl)
        simp only [Act.put, List.setIfInBounds_toArray, List.set_cons_zero, List.set_cons_succ]
        refine wpAnyH_take (i := 18) (oi := { dst := some 90, op := Op.fieldAddr 26 (Operand.tmp 4) 3, type := 0, pos := "law.go:58", after := #[{ on := 12, ground := Ground.guard }], guard := some (12, true) }) (v := ?vvfu1118) rfl (by kernel_rfl) (by kernel_rfl) (by kernel_rfl) (fun _ _ _ h => h) (Or.inl ⟨by rfl, ?yvfu1118⟩) hk ?rvfu1118
        case yvfu1118 => (intro w hSw; (try dsimp only at hSw); go_simp; first | done | with_reducible rfl)
        simp only [Act.put, List.setIfInBounds_toArray, List.set_cons_zero, List.set_cons_succ]
        refine wpAnyH_take (i := 19) (oi := { dst := some 91, op := Op.load 2 (Operand.tmp 90), type := 2, pos := "law.go:58", after := #[{ on := 18, ground := Ground.data }, { on := 12, ground := Ground.guard }], guard := some (12, true) }) (v := ?vvfu1119) rfl (by kernel_rfl) (by kernel_rfl) (by kernel_rfl) (fun _ _ _ h => h) (Or.inl ⟨by rfl, ?yvfu1119⟩) hk ?rvfu1119
        case yvfu1119 => (intro w hSw; have hcw := hSw.c6; clear hSw; go_simp; first | done | with_reducible rfl)
        simp only [Act.put, List.setIfInBounds_toArray, List.set_cons_zero, List.set_cons_succ]
        refine wpAnyH_take (i := 20) (oi := { dst := some 92, op := Op.load 26 (Operand.tmp 4), type := 26, pos := "law.go:58", after := #[{ on := 12, ground := Ground.guard }], guard := some (12, true) }) (v := .agg #[.int .i64 c.s0, .int .i64 c.s1, .int .i64 c.s2, .int .i64 c.s3, .int .i64 c.k, .int .i64 c.f, .int .i64 c.g]) rfl (by kernel_rfl) (by kernel_rfl) (by kernel_rfl) (fun _ _ _ h => h) (Or.inl ⟨by rfl, ?yvfu1120⟩) hk ?rvfu1120
        case yvfu1120 => (intro w hSw; have q0 := hSw.c0; have q1 := hSw.c1; have q2 := hSw.c2; have q3 := hSw.c3; have q4 := hSw.c4; have q5 := hSw.c5; have q6 := hSw.c6; clear hSw; go_simp; first | done | with_reducible rfl)
        simp only [Act.put, List.setIfInBounds_toArray, List.set_cons_zero, List.set_cons_succ]
        refine wpAnyH_take (i := 22) (oi := { dst := some 94, op := Op.move (Operand.tmp 2), type := 3, pos := "law.go:58", after := #[{ on := 12, ground := Ground.guard }], guard := some (12, true) }) (v := ?vvfu1121) rfl (by kernel_rfl) (by kernel_rfl) (by kernel_rfl) (fun _ _ _ h => h) (Or.inl ⟨by rfl, ?yvfu1121⟩) hk ?rvfu1121
        case yvfu1121 => (intro w hSw; (try dsimp only at hSw); go_simp; first | done | with_reducible rfl)
        simp only [Act.put, List.setIfInBounds_toArray, List.set_cons_zero, List.set_cons_succ]
        refine wpAnyH_take (i := 25) (oi := { dst := some 97, op := Op.load 38 (Operand.tmp 9), type := 38, pos := "law.go:58", after := #[{ on := 12, ground := Ground.guard }], guard := some (12, true) }) (v := .agg #[.int .i64 kd, .int .i64 z0, .int .i64 z1, .int .i64 z2, .int .i64 z3, .int .i64 rt, .int .i64 us]) rfl (by kernel_rfl) (by kernel_rfl) (by kernel_rfl) (fun _ _ _ h => h) (Or.inl ⟨by rfl, ?yvfu1122⟩) hk ?rvfu1122
        case yvfu1122 => (intro w hSw; have hrw := HLX.out _ hSw.q; have q0 := cell_of_row _ gz 0 _ _ (0, 0) hrw; have q1 := cell_of_row _ gz 1 _ _ (0, 0) hrw; have q2 := cell_of_row _ gz 2 _ _ (0, 0) hrw; have q3 := cell_of_row _ gz 3 _ _ (0, 0) hrw; have q4 := cell_of_row _ gz 4 _ _ (0, 0) hrw; have q5 := cell_of_row _ gz 5 _ _ (0, 0) hrw; have q6 := cell_of_row _ gz 6 _ _ (0, 0) hrw; clear hSw hrw; go_simp; first | done | with_reducible rfl)
        simp only [Act.put, List.setIfInBounds_toArray, List.set_cons_zero, List.set_cons_succ]
        refine wpAnyH_ready (rs := [21]) (by decide +kernel) (by simp) ?_
        refine AllReadyH.cons (o := { dst := some 93, op := Op.call { callee := Callee.value (Operand.func 14), args := #[Operand.tmp 92], argTypes := #[26] }, type := 3, pos := "law.go:58", after := #[{ on := 20, ground := Ground.data }, { on := 12, ground := Ground.chain }, { on := 12, ground := Ground.guard }], guard := some (12, true) }) rfl (fun K hK => ?_) AllReadyH.nil
        go_simp
        refine (fuel_any c _).mono ?_
        rintro e1 wk ⟨rfl, hb1⟩
        rw [HFC.out]
        replace hk := hk.step hb1
        clear hb1
        refine hK.out _ _ hk (fun _ => ?_)
        clear hK K
        try simp only [Act.put, List.setIfInBounds_toArray, List.set_cons_zero, List.set_cons_succ]
        refine wpAnyH_take (i := 23) (oi := { dst := some 95, op := Op.binOp BinOp.add 3 (Operand.tmp 93) (Operand.tmp 94) 3, type := 3, pos := "law.go:58", after := #[{ on := 21, ground := Ground.data }, { on := 22, ground := Ground.data }, { on := 12, ground := Ground.guard }], guard := some (12, true) }) (v := ?vvfu1123) rfl (by kernel_rfl) (by kernel_rfl) (by kernel_rfl) (fun _ _ _ h => h) (Or.inl ⟨by rfl, ?yvfu1123⟩) hk ?rvfu1123
        case yvfu1123 => (intro w hSw; (try dsimp only at hSw); go_simp; first | done | with_reducible rfl)
        simp only [Act.put, List.setIfInBounds_toArray, List.set_cons_zero, List.set_cons_succ]
        refine wpAnyH_ready (rs := [24]) (by decide +kernel) (by simp) ?_
        refine AllReadyH.cons (o := { dst := some 96, op := Op.call { callee := Callee.value (Operand.func 13), args := #[Operand.tmp 85, Operand.tmp 87, Operand.tmp 89, Operand.tmp 91, Operand.tmp 95], argTypes := #[28, 24, 3, 2, 3] }, type := 38, pos := "law.go:58", after := #[{ on := 13, ground := Ground.data }, { on := 15, ground := Ground.data }, { on := 17, ground := Ground.data }, { on := 19, ground := Ground.data }, { on := 23, ground := Ground.data }, { on := 21, ground := Ground.chain }, { on := 12, ground := Ground.guard }], guard := some (12, true) }) rfl (fun K hK => ?_) AllReadyH.nil
        go_simp
        refine (step_any gm gc cc L c.s0 c.s1 c.s2 c.s3 c.k c.g (fu + mo) _ (HLM.out _ hk.q) HIK.out HC.out.s HC.out.k HC.out.g HVM.out).mono ?_
        rintro e1 wk ⟨rfl, hb1⟩
        rw [HSM.out]
        replace hk := hk.step hb1
        clear hb1
        refine hK.out _ _ hk (fun _ => ?_)
        clear hK K
        try simp only [Act.put, List.setIfInBounds_toArray, List.set_cons_zero, List.set_cons_succ]
        refine wpAnyH_take (i := 26) (oi := { dst := some 98, op := Op.binOp BinOp.eql 38 (Operand.tmp 96) (Operand.tmp 97) 38, type := 4, pos := "law.go:58", after := #[{ on := 24, ground := Ground.data }, { on := 25, ground := Ground.data }, { on := 12, ground := Ground.guard }], guard := some (12, true) }) (v := ?vvfu1124) rfl (by kernel_rfl) (by kernel_rfl) (by kernel_rfl) (fun _ _ _ h => h) (Or.inl ⟨by rfl, ?yvfu1124⟩) hk ?rvfu1124
        case yvfu1124 => (intro w hSw; (try dsimp only at hSw); go_simp; first | done | with_reducible rfl)
        simp only [Act.put, List.setIfInBounds_toArray, List.set_cons_zero, List.set_cons_succ]
        refine wpAnyH_take (i := 27) (oi := { dst := some 99, op := Op.pick (Operand.tmp 84) (Operand.tmp 98) (Operand.const (Value.bool false)), type := 4, pos := "law.go:58", after := #[{ on := 12, ground := Ground.data }, { on := 26, ground := Ground.data }], guard := none }) (v := ?vvfu1125) rfl (by kernel_rfl) (by kernel_rfl) (by kernel_rfl) (fun _ _ _ h => h) (Or.inl ⟨by rfl, ?yvfu1125⟩) hk ?rvfu1125
        case yvfu1125 => (intro w hSw; (try dsimp only at hSw); go_simp; first | done | with_reducible rfl)
        simp only [Act.put, List.setIfInBounds_toArray, List.set_cons_zero, List.set_cons_succ]
        refine wpAnyH_take (i := 28) (oi := { dst := some 100, op := Op.move (Operand.tmp 99), type := 4, pos := "law.go:58", after := #[{ on := 27, ground := Ground.data }, { on := 24, ground := Ground.chain }], guard := none }) (v := ?vvfu1126) rfl (by kernel_rfl) (by kernel_rfl) (by kernel_rfl) (fun _ _ _ h => h) (Or.inl ⟨by rfl, ?yvfu1126⟩) hk ?rvfu1126
        case yvfu1126 => (intro w hSw; (try dsimp only at hSw); go_simp; first | done | with_reducible rfl)
        simp only [Act.put, List.setIfInBounds_toArray, List.set_cons_zero, List.set_cons_succ]
        refine wpAnyH_take (i := 29) (oi := { dst := some 101, op := Op.load 38 (Operand.tmp 10), type := 38, pos := "law.go:58", after := #[{ on := 28, ground := Ground.guard }], guard := some (28, true) }) (v := .agg #[.int .i64 3, .int .i64 c.s0, .int .i64 c.s1, .int .i64 c.s2, .int .i64 c.s3, .int .i64 0, .int .i64 (us - 1)]) rfl (by kernel_rfl) (by kernel_rfl) (by kernel_rfl) (fun _ _ _ h => h) (Or.inl ⟨by rfl, ?yvfu1127⟩) hk ?rvfu1127
        case yvfu1127 => (intro w hSw; have hrw := HLL2.out _ hSw.q; have q0 := cell_of_row _ gl 0 _ _ (0, 0) hrw; have q1 := cell_of_row _ gl 1 _ _ (0, 0) hrw; have q2 := cell_of_row _ gl 2 _ _ (0, 0) hrw; have q3 := cell_of_row _ gl 3 _ _ (0, 0) hrw; have q4 := cell_of_row _ gl 4 _ _ (0, 0) hrw; have q5 := cell_of_row _ gl 5 _ _ (0, 0) hrw; have q6 := cell_of_row _ gl 6 _ _ (0, 0) hrw; clear hSw hrw; go_simp; first | done | with_reducible rfl)
        simp only [Act.put, List.setIfInBounds_toArray, List.set_cons_zero, List.set_cons_succ]
        refine wpAnyH_take (i := 30) (oi := { dst := some 102, op := Op.fieldAddr 26 (Operand.tmp 4) 0, type := 0, pos := "law.go:58", after := #[{ on := 28, ground := Ground.guard }], guard := some (28, true) }) (v := ?vvfu1128) rfl (by kernel_rfl) (by kernel_rfl) (by kernel_rfl) (fun _ _ _ h => h) (Or.inl ⟨by rfl, ?yvfu1128⟩) hk ?rvfu1128
        case yvfu1128 => (intro w hSw; (try dsimp only at hSw); go_simp; first | done | with_reducible rfl)
        simp only [Act.put, List.setIfInBounds_toArray, List.set_cons_zero, List.set_cons_succ]
        refine wpAnyH_take (i := 31) (oi := { dst := some 103, op := Op.load 24 (Operand.tmp 102), type := 24, pos := "law.go:58", after := #[{ on := 30, ground := Ground.data }, { on := 28, ground := Ground.guard }], guard := some (28, true) }) (v := .agg #[.int .i64 c.s0, .int .i64 c.s1, .int .i64 c.s2, .int .i64 c.s3]) rfl (by kernel_rfl) (by kernel_rfl) (by kernel_rfl) (fun _ _ _ h => h) (Or.inl ⟨by rfl, ?yvfu1129⟩) hk ?rvfu1129
        case yvfu1129 => (intro w hSw; have q0 := hSw.c0; have q1 := hSw.c1; have q2 := hSw.c2; have q3 := hSw.c3; have q4 := hSw.c4; have q5 := hSw.c5; have q6 := hSw.c6; clear hSw; go_simp; first | done | with_reducible rfl)
        simp only [Act.put, List.setIfInBounds_toArray, List.set_cons_zero, List.set_cons_succ]
        refine wpAnyH_take (i := 32) (oi := { dst := some 104, op := Op.fieldAddr 38 (Operand.tmp 9) 3, type := 0, pos := "law.go:58", after := #[{ on := 28, ground := Ground.guard }], guard := some (28, true) }) (v := ?vvfu1130) rfl (by kernel_rfl) (by kernel_rfl) (by kernel_rfl) (fun _ _ _ h => h) (Or.inl ⟨by rfl, ?yvfu1130⟩) hk ?rvfu1130
        case yvfu1130 => (intro w hSw; (try dsimp only at hSw); go_simp; first | done | with_reducible rfl)
        simp only [Act.put, List.setIfInBounds_toArray, List.set_cons_zero, List.set_cons_succ]
        refine wpAnyH_take (i := 33) (oi := { dst := some 105, op := Op.load 3 (Operand.tmp 104), type := 3, pos := "law.go:58", after := #[{ on := 32, ground := Ground.data }, { on := 28, ground := Ground.guard }], guard := some (28, true) }) (v := ?vvfu1131) rfl (by kernel_rfl) (by kernel_rfl) (by kernel_rfl) (fun _ _ _ h => h) (Or.inl ⟨by rfl, ?yvfu1131⟩) hk ?rvfu1131
        case yvfu1131 => (intro w hSw; have hcw := cell_of_row _ gz 6 _ _ (0, 0) (HLX.out _ hSw.q); clear hSw; go_simp; first | done | with_reducible rfl)
        simp only [Act.put, List.setIfInBounds_toArray, List.set_cons_zero, List.set_cons_succ]
        refine wpAnyH_take (i := 34) (oi := { dst := some 106, op := Op.binOp BinOp.sub 3 (Operand.tmp 105) (Operand.const (Value.int IntKind.i64 1)) 3, type := 3, pos := "law.go:58", after := #[{ on := 33, ground := Ground.data }, { on := 28, ground := Ground.guard }], guard := some (28, true) }) (v := ?vvfu1132) rfl (by kernel_rfl) (by kernel_rfl) (by kernel_rfl) (fun _ _ _ h => h) (Or.inl ⟨by rfl, ?yvfu1132⟩) hk ?rvfu1132
        case yvfu1132 => (intro w hSw; (try dsimp only at hSw); go_simp; first | done | with_reducible rfl)
        simp only [Act.put, List.setIfInBounds_toArray, List.set_cons_zero, List.set_cons_succ]
        refine wpAnyH_take (i := 35) (oi := { dst := some 107, op := Op.build 38 #[(0, Operand.const (Value.int IntKind.i64 3)), (1, Operand.tmp 103), (3, Operand.tmp 106)], type := 38, pos := "law.go:58", after := #[{ on := 31, ground := Ground.data }, { on := 34, ground := Ground.data }, { on := 28, ground := Ground.guard }], guard := some (28, true) }) (v := ?vvfu1133) rfl (by kernel_rfl) (by kernel_rfl) (by kernel_rfl) (fun _ _ _ h => h) (Or.inl ⟨by rfl, ?yvfu1133⟩) hk ?rvfu1133
        case yvfu1133 => (intro w hSw; (try dsimp only at hSw); go_simp; first | done | with_reducible rfl)
        simp only [Act.put, List.setIfInBounds_toArray, List.set_cons_zero, List.set_cons_succ]
        refine wpAnyH_take (i := 36) (oi := { dst := some 108, op := Op.binOp BinOp.eql 38 (Operand.tmp 101) (Operand.tmp 107) 38, type := 4, pos := "law.go:58", after := #[{ on := 29, ground := Ground.data }, { on := 35, ground := Ground.data }, { on := 28, ground := Ground.guard }], guard := some (28, true) }) (v := ?vvfu1134) rfl (by kernel_rfl) (by kernel_rfl) (by kernel_rfl) (fun _ _ _ h => h) (Or.inl ⟨by rfl, ?yvfu1134⟩) hk ?rvfu1134
        case yvfu1134 => (intro w hSw; (try dsimp only at hSw); go_simp; first | done | with_reducible rfl)
        simp only [Act.put, List.setIfInBounds_toArray, List.set_cons_zero, List.set_cons_succ]
        refine wpAnyH_take (i := 37) (oi := { dst := some 109, op := Op.pick (Operand.tmp 100) (Operand.tmp 108) (Operand.const (Value.bool false)), type := 4, pos := "law.go:58", after := #[{ on := 28, ground := Ground.data }, { on := 36, ground := Ground.data }], guard := none }) (v := ?vvfu1135) rfl (by kernel_rfl) (by kernel_rfl) (by kernel_rfl) (fun _ _ _ h => h) (Or.inl ⟨by rfl, ?yvfu1135⟩) hk ?rvfu1135
        case yvfu1135 => (intro w hSw; (try dsimp only at hSw); go_simp; first | done | with_reducible rfl)
        simp only [Act.put, List.setIfInBounds_toArray, List.set_cons_zero, List.set_cons_succ]
        refine wpAnyH_take (i := 38) (oi := { dst := some 110, op := Op.move (Operand.tmp 109), type := 4, pos := "law.go:58", after := #[{ on := 37, ground := Ground.data }, { on := 28, ground := Ground.chain }], guard := none }) (v := ?vvfu1136) rfl (by kernel_rfl) (by kernel_rfl) (by kernel_rfl) (fun _ _ _ h => h) (Or.inl ⟨by rfl, ?yvfu1136⟩) hk ?rvfu1136
        case yvfu1136 => (intro w hSw; (try dsimp only at hSw); go_simp; first | done | with_reducible rfl)
        simp only [Act.put, List.setIfInBounds_toArray, List.set_cons_zero, List.set_cons_succ]
        refine wpAnyH_ready (rs := [39]) (by decide +kernel) (by simp) ?_
        refine AllReadyH.cons (o := { dst := some 111, op := Op.call { callee := Callee.value (Operand.func 16), args := #[], argTypes := #[] }, type := 4, pos := "law.go:58", after := #[{ on := 38, ground := Ground.chain }, { on := 38, ground := Ground.guard }], guard := some (38, true) }) rfl (fun K hK => ?_) AllReadyH.nil
        go_simp
        refine (lives16_any _).mono ?_
        rintro e1 wk ⟨rfl, hb1⟩
        replace hk := hk.step hb1
        clear hb1
        refine hK.out _ _ hk (fun _ => ?_)
        clear hK K
        try simp only [Act.put, List.setIfInBounds_toArray, List.set_cons_zero, List.set_cons_succ]
        refine wpAnyH_take (i := 40) (oi := { dst := some 112, op := Op.pick (Operand.tmp 110) (Operand.tmp 111) (Operand.const (Value.bool false)), type := 4, pos := "law.go:58", after := #[{ on := 38, ground := Ground.data }, { on := 39, ground := Ground.data }], guard := none }) (v := ?vvfu1137) rfl (by kernel_rfl) (by kernel_rfl) (by kernel_rfl) (fun _ _ _ h => h) (Or.inl ⟨by rfl, ?yvfu1137⟩) hk ?rvfu1137
        case yvfu1137 => (intro w hSw; (try dsimp only at hSw); go_simp; first | done | with_reducible rfl)
        simp only [Act.put, List.setIfInBounds_toArray, List.set_cons_zero, List.set_cons_succ]
        refine wpAnyH_take (i := 41) (oi := { dst := some 6, op := Op.assign (Operand.tmp 112), type := 4, pos := "law.go:58", after := #[{ on := 40, ground := Ground.data }, { on := 39, ground := Ground.chain }, { on := 0, ground := Ground.phase }, { on := 1, ground := Ground.phase }, { on := 2, ground := Ground.phase }, { on := 3, ground := Ground.phase }, { on := 4, ground := Ground.phase }, { on := 5, ground := Ground.phase }, { on := 6, ground := Ground.phase }, { on := 7, ground := Ground.phase }, { on := 8, ground := Ground.phase }, { on := 9, ground := Ground.phase }, { on := 10, ground := Ground.phase }, { on := 11, ground := Ground.phase }, { on := 12, ground := Ground.phase }, { on := 13, ground := Ground.phase }, { on := 14, ground := Ground.phase }, { on := 15, ground := Ground.phase }, { on := 16, ground := Ground.phase }, { on := 17, ground := Ground.phase }, { on := 18, ground := Ground.phase }, { on := 19, ground := Ground.phase }, { on := 20, ground := Ground.phase }, { on := 21, ground := Ground.phase }, { on := 22, ground := Ground.phase }, { on := 23, ground := Ground.phase }, { on := 24, ground := Ground.phase }, { on := 25, ground := Ground.phase }, { on := 26, ground := Ground.phase }, { on := 27, ground := Ground.phase }, { on := 28, ground := Ground.phase }, { on := 29, ground := Ground.phase }, { on := 30, ground := Ground.phase }, { on := 31, ground := Ground.phase }, { on := 32, ground := Ground.phase }, { on := 33, ground := Ground.phase }, { on := 34, ground := Ground.phase }, { on := 35, ground := Ground.phase }, { on := 36, ground := Ground.phase }, { on := 37, ground := Ground.phase }, { on := 38, ground := Ground.phase }, { on := 39, ground := Ground.phase }, { on := 40, ground := Ground.phase }], guard := none }) (v := ?vvfu1138) rfl (by kernel_rfl) (by kernel_rfl) (by kernel_rfl) (fun _ _ _ h => h) (Or.inl ⟨by rfl, ?yvfu1138⟩) hk ?rvfu1138
        case yvfu1138 => (intro w hSw; (try dsimp only at hSw); go_simp; first | done | with_reducible rfl)
        simp only [Act.put, List.setIfInBounds_toArray, List.set_cons_zero, List.set_cons_succ]
        refine wpAnyH_done (by decide +kernel) ?_ _
        go_wp2_with fail
        go_ret
        exact ⟨rfl, hk.low⟩
  · refine (vnew_no _ _ _ _ _ HE1.out hok).mono ?_
    rintro e w2 ⟨rfl, hb2⟩
    have HB := Bx.mk (HC1.out.step hb2).low
    have hq : ((thr L).2.2 != 0) = true := by simpa using hok
    generalize (thr L).2.2 = er at hq
    clear hok hb2 HC1 HE1
    go_wp2_with fail
    refine (lives16_any _).mono ?_
    rintro e wL ⟨rfl, hbL⟩
    have hfin := bstep HB.out hbL
    go_wp2_with fail
    go_ret
    exact ⟨rfl, hfin⟩

set_option maxRecDepth 100000 in
theorem lifted (os : Os) (started : os.Started) (H : Type) (enc : TypeId × Value → H) :
    ReturnsInHanded {} Try.checked os 4 .any (Rows.vmFuelSpec.pre6 enc Try.prog Try.f4 Rows.vmFuelRow.domain false) (Rows.vmFuelSpec.post enc Try.prog Try.f4 false true false false) := by
  refine returnsInHanded_of_change (C := Try.checked) own started (by kernel_rfl) Try.func4
    (ChangeSpec.witness6 (enc := enc) (C := Try.checked) false ⟨#[], #[.slice none 0 0, .agg #[.int .i64 0, .int .i64 0, .int .i64 0, .int .i64 0, .int .i64 0, .int .i64 0, .int .i64 0], .int .i64 0], []⟩ 8 (by kernel_rfl) (by kernel_rfl) (by kernel_rfl) (by kernel_rfl)) ?_
  intro W base args ds gs before hval0 hW hcnd _
  have hval : ∀ (j : Nat) t v, Try.f4.params[j]? = some t → args[j]? = some v → Value.okWide Try.prog W .any base t v := hval0
  have hW' := hW
  obtain ⟨p, q, hA0, hV, rfl, hfz, hnd⟩ := hW
  have hA : DataW.TrodAll enc Try.prog W 0 (fun _ => true) true Try.f4.params.toList args.toList ds p := hA0
  rw [Try.params4] at hA hval
  obtain ⟨v0, vs0, d0, ds0, p0, q0, hargs, rfl, rfl, h0, r0⟩ := trodAll_cons hA
  obtain ⟨v1, vs1, d1, ds1, p1, q1, rfl, rfl, rfl, h1, r1⟩ := trodAll_cons r0
  obtain ⟨v2, vs2, d2, ds2, p2, q2, rfl, rfl, rfl, h2, r2⟩ := trodAll_cons r1
  obtain ⟨rfl, rfl, rfl⟩ := trodAll_nil r2
  obtain rfl : args = #[v0, v1, v2] := by cases args; simp_all
  obtain ⟨rfl, rfl⟩ := trodVars_none hV
  obtain ⟨a0, len0, cap0, rfl⟩ := okWide_slice Try.underlying22 (hval 0 22 v0 rfl rfl)
  have k0 := h0
  have lt0 : ∀ x ∈ p0, x.block < W.heap.size := by obtain ⟨m, hm⟩ := k0; exact DataW.trod_lt m _ _ _ hm
  have k1 := h1
  have lt1 : ∀ x ∈ p1, x.block < W.heap.size := by obtain ⟨m, hm⟩ := k1; exact DataW.trod_lt m _ _ _ hm
  have k2 := h2
  have lt2 : ∀ x ∈ p2, x.block < W.heap.size := by obtain ⟨m, hm⟩ := k2; exact DataW.trod_lt m _ _ _ hm
  obtain ⟨l, hl⟩ := open_ics h0
  obtain ⟨c, rfl, hc⟩ := open_cal (hval 1 26 v1 rfl rfl) h1
  obtain ⟨more, rfl, hmore⟩ := open_i64 (hval 2 3 v2 rfl rfl) h2
  clear hA0 hval0
  refine (walk a0 len0 cap0 l c more W hl hc hmore).mono fun e W' ⟨he, bel⟩ => ?_
  subst he
  exact ⟨_, rfl, _, _, _, [], _, [], hW', trodAll_mk1 (shut_bool Try.underlying4 _), (trodAll_cons_mk (Below.trod laidOut (by kernel_rfl) (of_decide_eq_true (by kernel_rfl)) k0 bel lt0) (trodAll_cons_mk (Below.trod laidOut (by kernel_rfl) (of_decide_eq_true (by kernel_rfl)) k1 bel lt1) (trodAll_cons_mk (Below.trod laidOut (by kernel_rfl) (of_decide_eq_true (by kernel_rfl)) k2 bel lt2) trodAll_mk0))), rfl, bel.frame _, fun h => by cases h⟩

theorem over : Rows.vmFuelRow.holds Try.pinned (OpenSpec.ofChange Rows.vmFuelSpec) :=
  OpenClaim.holds_of_wide 4 Try.f4 rfl rfl rfl rfl rfl rfl rfl ⟨rfl, rfl, rfl, rfl, rfl⟩ rfl rfl rfl rfl rfl (by kernel_rfl) Try.func4 (by kernel_rfl)
    (of_decide_eq_true (by kernel_rfl)) (by unfold Func.isWrapper; first | (rw [if_pos (by decide +kernel)]; kernel_rfl) | (rw [if_neg (by decide +kernel)]; exact ⟨rfl, rfl⟩))
    (fun os started H enc _ => lifted os started H enc)

/-- the statement -/
theorem proved : Rows.VmFuelSaid := over
end Go.Proofs.Ytpbdgacdbhabhaa.vmFuel
namespace Go.Proofs.Ytpbdgacdbhabhaa
theorem vmFuel_holds : Rows.VmFuelSaid := vmFuel.proved
#print axioms vmFuel_holds
end Go.Proofs.Ytpbdgacdbhabhaa
