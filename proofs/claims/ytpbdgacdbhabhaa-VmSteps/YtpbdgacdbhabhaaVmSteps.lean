/- VmSteps: what any code does of any operation on any state, with any fuel, or why there is no machine; the code stays, and is nobody else's. -/
import Derived.Test.YtpbdgacdbhabhaaRows
import Derived.Test.YtpbdgacdbhabhaaCallIn
import Derived.Test.YtpbdgacdbhabhaaVLaw
import Derived.Test.YtpbdgacdbhabhaaCFew
import Derived.Test.YtpbdgacdbhabhaaRVStep
import Derived.WalkKit
import Derived.ProofKit
import Derived.OpenShut
import Derived.ShutString
import Derived.ChangeOld
import Derived.Below
namespace Go.Proofs.Ytpbdgacdbhabhaa.vmSteps
open Go.ChangeShapes Go.WideShapes Go.ChangeAt Go.RowKit
open Go.ChangeMaps (open_string shut_string)
set_option linter.unusedVariables false

theorem own : ownKnob Try.prog.godebug = none := by kernel_rfl
theorem laidOut : laidOutB Try.prog = true := by kernel_rfl

theorem own_lt {w : World} {base n c : Nat} {ao : Option Addr} {L : List Ic} (h : w.ownsRow base 36 2 (.slice ao n c) n (L.flatMap icC)) : ∀ p, ao = some p → base ≤ p.block ∧ p.block < w.heap.size := fun p e => by
  subst e
  exact h.lt p.block rfl

set_option maxRecDepth 100000 in
set_option maxHeartbeats 8000000 in
theorem walk (a0 : Option Addr) (len0 cap0 : Nat) (l : List Ic) (c : Cl) (w : World) (hl : IcsI w a0 len0 cap0 l) (hc : ClK c) :
    Calls Try.prog 3 #[.slice a0 len0 cap0, .agg #[.int .i64 c.s0, .int .i64 c.s1, .int .i64 c.s2, .int .i64 c.s3, .int .i64 c.k, .int .i64 c.f, .int .i64 c.g]] w fun e w' => e = .returned (.bool true) ∧ Below w.heap.size w w' := by
  have HL := Bx.mk hl.1
  have HLK := Bx.mk hl.2
  have HC := Bx.mk hc
  have hC := cx_new w c
  obtain ⟨gb, HGB⟩ : ∃ gb, Bx (gb = w.heap.size) := ⟨_, ⟨rfl⟩⟩
  rw [← HGB.out] at hC
  have HCX := Bx.mk hC
  clear hc hC hl
  go_enter Try.func3, Try.ntmps3
  go_upto_region 1 with fail
  rw [← HGB.out]
  generalize w.alloc (.cells #[.int .i64 c.s0, .int .i64 c.s1, .int .i64 c.s2, .int .i64 c.s3, .int .i64 c.k, .int .i64 c.f, .int .i64 c.g] 26) = wa at HCX ⊢
  have HL1 := Bx.mk (HL.out.below HCX.out.low)
  go_wp2_with fail
  refine (few15_any a0 len0 cap0 l _ HL1.out).mono ?_
  rintro e w1 ⟨v1, rfl, ho1, hb1⟩
  obtain ⟨L, HLL⟩ : ∃ L, Bx (l.take 210 = L) := ⟨_, ⟨rfl⟩⟩
  have HIK : Bx (IcsK L) := ⟨by rw [← HLL.out]; exact HLK.out.take 210⟩
  have hL2 : L.length ≤ 210 := by rw [← HLL.out, List.length_take]; omega
  have HT2 : Bx (L.take 210 = L) := ⟨List.take_of_length_le hL2⟩
  rw [HLL.out] at ho1
  obtain ⟨a2, c2, rfl, hE1⟩ := Ls.of_owns icC_len ho1 rfl
  have HA2 := Bx.mk (own_lt ho1)
  have HE1 := Bx.mk hE1
  have HC1 := Bx.mk (HCX.out.step hb1)
  clear ho1 hE1 hb1 HCX HL HL1 HLK HLL
  go_wp2_with fail
  refine (few15_any a2 L.length c2 L _ HE1.out).mono ?_
  rintro e w2 ⟨v2, rfl, ho2, hb2⟩
  rw [HT2.out] at ho2
  obtain ⟨a3, c3, rfl, hE2⟩ := Ls.of_owns icC_len ho2 rfl
  have HO2 := Bx.mk ho2
  have HA3 := Bx.mk (own_lt ho2)
  have HE2 := Bx.mk hE2
  have HE12 := Bx.mk (HE1.out.below hb2)
  have HC2 := Bx.mk (HC1.out.step hb2)
  have HB12 := Bx.mk hb2
  clear ho2 hE2 hb2
  go_wp2_with fail
  by_cases hok : (thr L).2.2 = 0
  · have HOK := Bx.mk hok
    refine (vnew_yes _ _ _ _ _ HE2.out hok).mono ?_
    rintro e w3 ⟨gm, gc, cc, rfl, hm, hgm, hgc, hb3⟩
    have HM3 := Bx.mk hm
    have HGM := Bx.mk (And.intro hgm hgc)
    have HC3 := Bx.mk (HC2.out.step hb3)
    have HE13 := Bx.mk (HE12.out.below hb3)
    have HE23 := Bx.mk (HE2.out.below hb3)
    have HO3 := Bx.mk (owns_below HO2.out hb3)
    clear hm hgm hgc hb3 HO2 HE2 HE12 HC2
    go_wp2_with fail
    refine (refcheck15_any a2 L.length c2 L w3 HE13.out).mono ?_
    rintro e w4 ⟨rfl, hb4⟩
    rw [hok]
    generalize (thr L).2.1 = pl
    have HM4 := Bx.mk (HM3.out.below hb4)
    have HC4 := Bx.mk (HC3.out.step hb4)
    have HE14 := Bx.mk (HE13.out.below hb4)
    have HE24 := Bx.mk (HE23.out.below hb4)
    have HO4' := Bx.mk (owns_below HO3.out hb4)
    have HB24 : Bx (w2.heap.size ≤ w3.heap.size) := ⟨Nat.le_of_lt (Nat.lt_of_le_of_lt HGM.out.1 HM3.out.lt.1)⟩
    clear hb4 HM3 HC3 HE13 HE23 HO3
    go_wp2_with fail
    refine (same15_yes a3 a2 L.length L.length c3 c2 L w4 HE24.out HE14.out).mono ?_
    rintro e w5 ⟨rfl, hb5⟩
    have HM5 := Bx.mk (HM4.out.below hb5)
    have HC5 := Bx.mk (HC4.out.step hb5)
    have HE15 := Bx.mk (HE14.out.below hb5)
    have HO4 := Bx.mk (owns_below HO4'.out hb5)
    clear hb5 HM4 HC4 HE14 HE24 HO4' hok
    go_wp2_with fail
    go_loopw [10] (fun i wx => ∃ (m : Nat) (M : List Ic), m ≤ L.length ∧ i = .int .i64 m ∧ M.length = L.length ∧ Bx (wx.ownsRow w1.heap.size 36 2 (.slice a3 L.length c3) L.length (M.flatMap icC)) ∧ Bx (Kept (fun j => ∃ p, a3 = some p ∧ p.block = j) w5 wx)) (fun i _ => L.length - (intOf i).toNat)
    case atStart => exact ⟨0, L, Nat.zero_le _, rfl, rfl, HO4, ⟨Kept.refl _ _⟩⟩
    case round =>
      obtain ⟨m, M, hm, rfl, hML, HOM, HKP⟩ := hrel
      by_cases hlt : m < L.length
      · have hlt2 := hlt
        have hmI : (m : Int) < ((L.length : Nat) : Int) := by omega
        have hmd : decide (m < L.length) = true := by simpa using hlt
        obtain ⟨gM, cM, e, _, _⟩ := owns_form HOM.out (by omega)
        have e2 : a3 = some ⟨gM, 0, none⟩ ∧ c3 = cM := by cases e; exact ⟨rfl, rfl⟩
        obtain ⟨rfl, rfl⟩ := e2
        have c0 := HOM.out.cellAt (m * 2) (by omega)
        have c1 := HOM.out.cellAt (m * 2 + 1) (by omega)
        have hg0 := flatE_get icC_len M m 0 (by omega) (by decide)
        have hg1 := flatE_get icC_len M m 1 (by omega) (by decide)
        rw [Nat.add_zero] at hg0
        rw [hg0] at c0
        rw [hg1] at c1
        replace c0 : wr.cell? ⟨gM, m * 2, none⟩ = some (.int .i64 (M[m]'(by omega)).o) := c0
        replace c1 : wr.cell? ⟨gM, m * 2 + 1, none⟩ = some (.int .i64 (M[m]'(by omega)).n) := c1
        have f0 := HOM.out.frozenAt (m * 2)
        have f1 := HOM.out.frozenAt (m * 2 + 1)
        have hst := ((HOM.out.stored (m * 2) (.int .i64 99)).1.stored (m * 2 + 1) (.int .i64 0)).1
        rw [ics_set M m 99 0 (by omega)] at hst
        have HST2 := Bx.mk hst
        have HKP2 : Bx (Kept (fun j => ∃ p, some (⟨gM, 0, none⟩ : Addr) = some p ∧ p.block = j) w5 ((wr.setCell ⟨gM, m * 2, none⟩ (.int .i64 99)).setCell ⟨gM, m * 2 + 1, none⟩ (.int .i64 0))) := ⟨(HKP.out.setCell (g := gM) (.inl ⟨_, rfl, rfl⟩) _ _).setCell (g := gM) (.inl ⟨_, rfl, rfl⟩) _ _⟩
        generalize (M[m]'(by omega)).o = x0 at c0
        generalize (M[m]'(by omega)).n = x1 at c1
        clear hst hg0 hg1 e HOM HKP
        go_wp2_with fail
        go_roundw
        case rel => exact ⟨m + 1, _, by omega, by go_num, by rw [List.length_set]; exact hML, HST2, HKP2⟩
        case measure => simp [intOf]; omega
      · have hmI : ¬ (m : Int) < ((L.length : Nat) : Int) := by omega
        have hmd : decide (m < L.length) = false := by simp; omega
        have hsz := HC1.out.low.size
        have hA3 := HA3.out
        have hgbl := (Array.getElem?_eq_some_iff.1 HC1.out.row).1
        obtain ⟨K, z0, z1, z2, z3, rt, us, hform⟩ := stpV_form HOK.out c.s0 c.s1 c.s2 c.s3 c.k c.g (fuC c)
        have HST : Bx (stC (stpV L [c.s0, c.s1, c.s2, c.s3] c.k c.g (fuC c)) = .agg #[.int .i64 K, .int .i64 z0, .int .i64 z1, .int .i64 z2, .int .i64 z3, .int .i64 rt, .int .i64 us]) := ⟨by rw [hform]; rfl⟩
        have heq := step_eq K z0 z1 z2 z3 rt us
        obtain ⟨Qp, HQ0⟩ : ∃ Qp : World → Prop, Bx (Qp = fun W => Mc W gm gc cc L ∧ Ics W a2 L.length c2 L) := ⟨_, ⟨rfl⟩⟩
        have HQM : Bx (∀ W, Qp W → Mc W gm gc cc L) := ⟨fun W h => by rw [HQ0.out] at h; exact h.1⟩
        have HQL : Bx (∀ W, Qp W → Ics W a2 L.length c2 L) := ⟨fun W h => by rw [HQ0.out] at h; exact h.2⟩
        have hk : CX Qp gb c w wr.drew := by
          refine CX.drew ⟨HC5.out.low.trans (HKP.out.low (B := w.heap.size) (fun k ⟨p, e, hp⟩ => ?_) HC5.out.low.size), ?_, ?_, ?_⟩
          · have := (hA3 p e).1; omega
          · refine (HKP.out.block gb (Array.getElem?_eq_some_iff.1 HC5.out.row).1 ?_).trans HC5.out.row
            rintro ⟨p, e, hp⟩
            have := (hA3 p e).1
            omega
          · rw [HQ0.out]
            exact up_mc.and (fun W W' h hb => h.below hb)
          · rw [HQ0.out]
            refine ⟨HM5.out.kept HKP.out ?_ ?_, HE15.out.keep (fun p e hp => HKP.out.block _ hp ?_) HKP.out.size⟩
            · rintro ⟨p, e, hp⟩
              have := (hA3 p e).2
              have := HGM.out.1
              omega
            · rintro ⟨p, e, hp⟩
              have := (hA3 p e).2
              have := HGM.out.2
              omega
            · rintro ⟨p2, e2, hp2⟩
              have := (hA3 p2 e2).1
              have := (HA2.out p e).2
              omega
        clear HQ0 hsz hA3 hgbl hform HOM HKP HM5 HC5 HE15
        go_upto_region 11 with fail
        refine wp_region_held_drew (S := fun W => CX Qp gb c w W) (by kernel_rfl) hk (fun _ => ?_)
        generalize wr.drew = wk at hk ⊢
        refine wpAnyH_take (i := 0) (oi := { dst := some 51, op := Op.move (Operand.tmp 6), type := 28, pos := "law.go:40", after := #[], guard := none }) (v := ?vvspy1) rfl (by kernel_rfl) (by kernel_rfl) (by kernel_rfl) (fun _ _ _ h => h) (Or.inl ⟨by rfl, ?yvspy1⟩) hk ?rvspy1
        case yvspy1 => (intro w hSw; (try dsimp only at hSw); go_simp; first | done | with_reducible rfl)
        simp only [Act.put, List.setIfInBounds_toArray, List.set_cons_zero, List.set_cons_succ]
        refine wpAnyH_take (i := 1) (oi := { dst := some 52, op := Op.fieldAddr 26 (Operand.tmp 3) 0, type := 0, pos := "law.go:40", after := #[], guard := none }) (v := ?vvspy2) rfl (by kernel_rfl) (by kernel_rfl) (by kernel_rfl) (fun _ _ _ h => h) (Or.inl ⟨by rfl, ?yvspy2⟩) hk ?rvspy2
        case yvspy2 => (intro w hSw; (try dsimp only at hSw); go_simp; first | done | with_reducible rfl)
        simp only [Act.put, List.setIfInBounds_toArray, List.set_cons_zero, List.set_cons_succ]
        refine wpAnyH_take (i := 2) (oi := { dst := some 53, op := Op.load 24 (Operand.tmp 52), type := 24, pos := "law.go:40", after := #[{ on := 1, ground := Ground.data }], guard := none }) (v := .agg #[.int .i64 c.s0, .int .i64 c.s1, .int .i64 c.s2, .int .i64 c.s3]) rfl (by kernel_rfl) (by kernel_rfl) (by kernel_rfl) (fun _ _ _ h => h) (Or.inl ⟨by rfl, ?yvspy3⟩) hk ?rvspy3
        case yvspy3 => (intro w hSw; have q0 := hSw.c0; have q1 := hSw.c1; have q2 := hSw.c2; have q3 := hSw.c3; have q4 := hSw.c4; have q5 := hSw.c5; have q6 := hSw.c6; clear hSw; go_simp; first | done | with_reducible rfl)
        simp only [Act.put, List.setIfInBounds_toArray, List.set_cons_zero, List.set_cons_succ]
        refine wpAnyH_take (i := 3) (oi := { dst := some 54, op := Op.fieldAddr 26 (Operand.tmp 3) 1, type := 0, pos := "law.go:40", after := #[], guard := none }) (v := ?vvspy4) rfl (by kernel_rfl) (by kernel_rfl) (by kernel_rfl) (fun _ _ _ h => h) (Or.inl ⟨by rfl, ?yvspy4⟩) hk ?rvspy4
        case yvspy4 => (intro w hSw; (try dsimp only at hSw); go_simp; first | done | with_reducible rfl)
        simp only [Act.put, List.setIfInBounds_toArray, List.set_cons_zero, List.set_cons_succ]
        refine wpAnyH_take (i := 4) (oi := { dst := some 55, op := Op.load 3 (Operand.tmp 54), type := 3, pos := "law.go:40", after := #[{ on := 3, ground := Ground.data }], guard := none }) (v := ?vvspy5) rfl (by kernel_rfl) (by kernel_rfl) (by kernel_rfl) (fun _ _ _ h => h) (Or.inl ⟨by rfl, ?yvspy5⟩) hk ?rvspy5
        case yvspy5 => (intro w hSw; have hcw := hSw.c4; clear hSw; go_simp; first | done | with_reducible rfl)
        simp only [Act.put, List.setIfInBounds_toArray, List.set_cons_zero, List.set_cons_succ]
        refine wpAnyH_take (i := 5) (oi := { dst := some 56, op := Op.fieldAddr 26 (Operand.tmp 3) 3, type := 0, pos := "law.go:40", after := #[], guard := none }) (v := ?vvspy6) rfl (by kernel_rfl) (by kernel_rfl) (by kernel_rfl) (fun _ _ _ h => h) (Or.inl ⟨by rfl, ?yvspy6⟩) hk ?rvspy6
        case yvspy6 => (intro w hSw; (try dsimp only at hSw); go_simp; first | done | with_reducible rfl)
        simp only [Act.put, List.setIfInBounds_toArray, List.set_cons_zero, List.set_cons_succ]
        refine wpAnyH_take (i := 6) (oi := { dst := some 57, op := Op.load 2 (Operand.tmp 56), type := 2, pos := "law.go:40", after := #[{ on := 5, ground := Ground.data }], guard := none }) (v := ?vvspy7) rfl (by kernel_rfl) (by kernel_rfl) (by kernel_rfl) (fun _ _ _ h => h) (Or.inl ⟨by rfl, ?yvspy7⟩) hk ?rvspy7
        case yvspy7 => (intro w hSw; have hcw := hSw.c6; clear hSw; go_simp; first | done | with_reducible rfl)
        simp only [Act.put, List.setIfInBounds_toArray, List.set_cons_zero, List.set_cons_succ]
        refine wpAnyH_take (i := 7) (oi := { dst := some 58, op := Op.load 26 (Operand.tmp 3), type := 26, pos := "law.go:40", after := #[], guard := none }) (v := .agg #[.int .i64 c.s0, .int .i64 c.s1, .int .i64 c.s2, .int .i64 c.s3, .int .i64 c.k, .int .i64 c.f, .int .i64 c.g]) rfl (by kernel_rfl) (by kernel_rfl) (by kernel_rfl) (fun _ _ _ h => h) (Or.inl ⟨by rfl, ?yvspy8⟩) hk ?rvspy8
        case yvspy8 => (intro w hSw; have q0 := hSw.c0; have q1 := hSw.c1; have q2 := hSw.c2; have q3 := hSw.c3; have q4 := hSw.c4; have q5 := hSw.c5; have q6 := hSw.c6; clear hSw; go_simp; first | done | with_reducible rfl)
        simp only [Act.put, List.setIfInBounds_toArray, List.set_cons_zero, List.set_cons_succ]
        refine wpAnyH_take (i := 10) (oi := { dst := some 61, op := Op.move (Operand.tmp 0), type := 22, pos := "law.go:40", after := #[], guard := none }) (v := ?vvspy9) rfl (by kernel_rfl) (by kernel_rfl) (by kernel_rfl) (fun _ _ _ h => h) (Or.inl ⟨by rfl, ?yvspy9⟩) hk ?rvspy9
        case yvspy9 => (intro w hSw; (try dsimp only at hSw); go_simp; first | done | with_reducible rfl)
        simp only [Act.put, List.setIfInBounds_toArray, List.set_cons_zero, List.set_cons_succ]
        refine wpAnyH_take (i := 11) (oi := { dst := some 62, op := Op.fieldAddr 26 (Operand.tmp 3) 0, type := 0, pos := "law.go:40", after := #[], guard := none }) (v := ?vvspy10) rfl (by kernel_rfl) (by kernel_rfl) (by kernel_rfl) (fun _ _ _ h => h) (Or.inl ⟨by rfl, ?yvspy10⟩) hk ?rvspy10
        case yvspy10 => (intro w hSw; (try dsimp only at hSw); go_simp; first | done | with_reducible rfl)
        simp only [Act.put, List.setIfInBounds_toArray, List.set_cons_zero, List.set_cons_succ]
        refine wpAnyH_take (i := 12) (oi := { dst := some 63, op := Op.load 24 (Operand.tmp 62), type := 24, pos := "law.go:40", after := #[{ on := 11, ground := Ground.data }], guard := none }) (v := .agg #[.int .i64 c.s0, .int .i64 c.s1, .int .i64 c.s2, .int .i64 c.s3]) rfl (by kernel_rfl) (by kernel_rfl) (by kernel_rfl) (fun _ _ _ h => h) (Or.inl ⟨by rfl, ?yvspy11⟩) hk ?rvspy11
        case yvspy11 => (intro w hSw; have q0 := hSw.c0; have q1 := hSw.c1; have q2 := hSw.c2; have q3 := hSw.c3; have q4 := hSw.c4; have q5 := hSw.c5; have q6 := hSw.c6; clear hSw; go_simp; first | done | with_reducible rfl)
        simp only [Act.put, List.setIfInBounds_toArray, List.set_cons_zero, List.set_cons_succ]
        refine wpAnyH_take (i := 13) (oi := { dst := some 64, op := Op.fieldAddr 26 (Operand.tmp 3) 1, type := 0, pos := "law.go:40", after := #[], guard := none }) (v := ?vvspy12) rfl (by kernel_rfl) (by kernel_rfl) (by kernel_rfl) (fun _ _ _ h => h) (Or.inl ⟨by rfl, ?yvspy12⟩) hk ?rvspy12
        case yvspy12 => (intro w hSw; (try dsimp only at hSw); go_simp; first | done | with_reducible rfl)
        simp only [Act.put, List.setIfInBounds_toArray, List.set_cons_zero, List.set_cons_succ]
        refine wpAnyH_take (i := 14) (oi := { dst := some 65, op := Op.load 3 (Operand.tmp 64), type := 3, pos := "law.go:40", after := #[{ on := 13, ground := Ground.data }], guard := none }) (v := ?vvspy13) rfl (by kernel_rfl) (by kernel_rfl) (by kernel_rfl) (fun _ _ _ h => h) (Or.inl ⟨by rfl, ?yvspy13⟩) hk ?rvspy13
        case yvspy13 => (intro w hSw; have hcw := hSw.c4; clear hSw; go_simp; first | done | with_reducible rfl)
        simp only [Act.put, List.setIfInBounds_toArray, List.set_cons_zero, List.set_cons_succ]
        refine wpAnyH_take (i := 15) (oi := { dst := some 66, op := Op.fieldAddr 26 (Operand.tmp 3) 3, type := 0, pos := "law.go:40", after := #[], guard := none }) (v := ?vvspy14) rfl (by kernel_rfl) (by kernel_rfl) (by kernel_rfl) (fun _ _ _ h => h) (Or.inl ⟨by rfl, ?yvspy14⟩) hk ?rvspy14
        case yvspy14 => (intro w hSw; (try dsimp only at hSw); go_simp; first | done | with_reducible rfl)
        simp only [Act.put, List.setIfInBounds_toArray, List.set_cons_zero, List.set_cons_succ]
        refine wpAnyH_take (i := 16) (oi := { dst := some 67, op := Op.load 2 (Operand.tmp 66), type := 2, pos := "law.go:40", after := #[{ on := 15, ground := Ground.data }], guard := none }) (v := ?vvspy15) rfl (by kernel_rfl) (by kernel_rfl) (by kernel_rfl) (fun _ _ _ h => h) (Or.inl ⟨by rfl, ?yvspy15⟩) hk ?rvspy15
        case yvspy15 => (intro w hSw; have hcw := hSw.c6; clear hSw; go_simp; first | done | with_reducible rfl)
        simp only [Act.put, List.setIfInBounds_toArray, List.set_cons_zero, List.set_cons_succ]
        refine wpAnyH_take (i := 17) (oi := { dst := some 68, op := Op.load 26 (Operand.tmp 3), type := 26, pos := "law.go:40", after := #[], guard := none }) (v := .agg #[.int .i64 c.s0, .int .i64 c.s1, .int .i64 c.s2, .int .i64 c.s3, .int .i64 c.k, .int .i64 c.f, .int .i64 c.g]) rfl (by kernel_rfl) (by kernel_rfl) (by kernel_rfl) (fun _ _ _ h => h) (Or.inl ⟨by rfl, ?yvspy16⟩) hk ?rvspy16
        case yvspy16 => (intro w hSw; have q0 := hSw.c0; have q1 := hSw.c1; have q2 := hSw.c2; have q3 := hSw.c3; have q4 := hSw.c4; have q5 := hSw.c5; have q6 := hSw.c6; clear hSw; go_simp; first | done | with_reducible rfl)
        simp only [Act.put, List.setIfInBounds_toArray, List.set_cons_zero, List.set_cons_succ]
        refine wpAnyH_ready (rs := [8]) (by decide +kernel) (by simp) ?_
        refine AllReadyH.cons (o := { dst := some 59, op := Op.call { callee := Callee.value (Operand.func 14), args := #[Operand.tmp 58], argTypes := #[26] }, type := 3, pos := "law.go:40", after := #[{ on := 7, ground := Ground.data }], guard := none }) rfl (fun K hK => ?_) AllReadyH.nil
        go_simp
        refine (fuel_any c _).mono ?_
        rintro e1 wk ⟨rfl, hb1⟩
        replace hk := hk.step hb1
        clear hb1
        refine hK.out _ _ hk (fun _ => ?_)
        clear hK K
        try simp only [Act.put, List.setIfInBounds_toArray, List.set_cons_zero, List.set_cons_succ]
        refine wpAnyH_ready (rs := [9]) (by decide +kernel) (by simp) ?_
        refine AllReadyH.cons (o := { dst := some 60, op := Op.call { callee := Callee.value (Operand.func 13), args := #[Operand.tmp 51, Operand.tmp 53, Operand.tmp 55, Operand.tmp 57, Operand.tmp 59], argTypes := #[28, 24, 3, 2, 3] }, type := 38, pos := "law.go:40", after := #[{ on := 0, ground := Ground.data }, { on := 2, ground := Ground.data }, { on := 4, ground := Ground.data }, { on := 6, ground := Ground.data }, { on := 8, ground := Ground.data }, { on := 8, ground := Ground.chain }], guard := none }) rfl (fun K hK => ?_) AllReadyH.nil
        go_simp
        refine (step_any gm gc cc L c.s0 c.s1 c.s2 c.s3 c.k c.g (fuC c) _ (HQM.out _ hk.q) HIK.out HC.out.s HC.out.k HC.out.g (fuC_in c)).mono ?_
        rintro e1 wk ⟨rfl, hb1⟩
        rw [HST.out]
        replace hk := hk.step hb1
        clear hb1
        refine hK.out _ _ hk (fun _ => ?_)
        clear hK K
        try simp only [Act.put, List.setIfInBounds_toArray, List.set_cons_zero, List.set_cons_succ]
        refine wpAnyH_ready (rs := [18]) (by decide +kernel) (by simp) ?_
        refine AllReadyH.cons (o := { dst := some 69, op := Op.call { callee := Callee.value (Operand.func 14), args := #[Operand.tmp 68], argTypes := #[26] }, type := 3, pos := "law.go:40", after := #[{ on := 17, ground := Ground.data }, { on := 9, ground := Ground.chain }], guard := none }) rfl (fun K hK => ?_) AllReadyH.nil
        go_simp
        refine (fuel_any c _).mono ?_
        rintro e1 wk ⟨rfl, hb1⟩
        replace hk := hk.step hb1
        clear hb1
        refine hK.out _ _ hk (fun _ => ?_)
        clear hK K
        try simp only [Act.put, List.setIfInBounds_toArray, List.set_cons_zero, List.set_cons_succ]
        refine wpAnyH_ready (rs := [19]) (by decide +kernel) (by simp) ?_
        refine AllReadyH.cons (o := { dst := some 70, op := Op.call { callee := Callee.value (Operand.func 15), args := #[Operand.tmp 61, Operand.tmp 63, Operand.tmp 65, Operand.tmp 67, Operand.tmp 69], argTypes := #[22, 24, 3, 2, 3] }, type := 38, pos := "law.go:40", after := #[{ on := 10, ground := Ground.data }, { on := 12, ground := Ground.data }, { on := 14, ground := Ground.data }, { on := 16, ground := Ground.data }, { on := 18, ground := Ground.data }, { on := 18, ground := Ground.chain }], guard := none }) rfl (fun K hK => ?_) AllReadyH.nil
        go_simp
        refine (refstep_any a2 L.length c2 L c.s0 c.s1 c.s2 c.s3 c.k c.g (fuC c) _ (HQL.out _ hk.q) HIK.out HC.out.s HC.out.k HC.out.g (fuC_in c)).mono ?_
        rintro e1 wk ⟨rfl, hb1⟩
        rw [HST.out]
        replace hk := hk.step hb1
        clear hb1
        refine hK.out _ _ hk (fun _ => ?_)
        clear hK K
        try simp only [Act.put, List.setIfInBounds_toArray, List.set_cons_zero, List.set_cons_succ]
        refine wpAnyH_take (i := 20) (oi := { dst := some 71, op := Op.binOp BinOp.eql 38 (Operand.tmp 60) (Operand.tmp 70) 38, type := 4, pos := "law.go:40", after := #[{ on := 9, ground := Ground.data }, { on := 19, ground := Ground.data }], guard := none }) (v := ?vvspy17) rfl (by kernel_rfl) (by kernel_rfl) (by kernel_rfl) (fun _ _ _ h => h) (Or.inl ⟨by rfl, ?yvspy17⟩) hk ?rvspy17
        case yvspy17 => (intro w hSw; (try dsimp only at hSw); go_simp; first | done | with_reducible rfl)
        simp only [Act.put, List.setIfInBounds_toArray, List.set_cons_zero, List.set_cons_succ]
        refine wpAnyH_take (i := 21) (oi := { dst := some 72, op := Op.move (Operand.tmp 71), type := 4, pos := "law.go:40", after := #[{ on := 20, ground := Ground.data }, { on := 19, ground := Ground.chain }], guard := none }) (v := ?vvspy18) rfl (by kernel_rfl) (by kernel_rfl) (by kernel_rfl) (fun _ _ _ h => h) (Or.inl ⟨by rfl, ?yvspy18⟩) hk ?rvspy18
        case yvspy18 => (intro w hSw; (try dsimp only at hSw); go_simp; first | done | with_reducible rfl)
        simp only [Act.put, List.setIfInBounds_toArray, List.set_cons_zero, List.set_cons_succ]
        refine wpAnyH_ready (rs := [22]) (by decide +kernel) (by simp) ?_
        refine AllReadyH.cons (o := { dst := some 73, op := Op.call { callee := Callee.value (Operand.func 16), args := #[], argTypes := #[] }, type := 4, pos := "law.go:40", after := #[{ on := 21, ground := Ground.chain }, { on := 21, ground := Ground.guard }], guard := some (21, true) }) rfl (fun K hK => ?_) AllReadyH.nil
        go_simp
        refine (lives16_any _).mono ?_
        rintro e1 wk ⟨rfl, hb1⟩
        replace hk := hk.step hb1
        clear hb1
        refine hK.out _ _ hk (fun _ => ?_)
        clear hK K
        try simp only [Act.put, List.setIfInBounds_toArray, List.set_cons_zero, List.set_cons_succ]
        refine wpAnyH_take (i := 23) (oi := { dst := some 74, op := Op.pick (Operand.tmp 72) (Operand.tmp 73) (Operand.const (Value.bool false)), type := 4, pos := "law.go:40", after := #[{ on := 21, ground := Ground.data }, { on := 22, ground := Ground.data }], guard := none }) (v := ?vvspy19) rfl (by kernel_rfl) (by kernel_rfl) (by kernel_rfl) (fun _ _ _ h => h) (Or.inl ⟨by rfl, ?yvspy19⟩) hk ?rvspy19
        case yvspy19 => (intro w hSw; (try dsimp only at hSw); go_simp; first | done | with_reducible rfl)
        simp only [Act.put, List.setIfInBounds_toArray, List.set_cons_zero, List.set_cons_succ]
        refine wpAnyH_take (i := 24) (oi := { dst := some 4, op := Op.assign (Operand.tmp 74), type := 4, pos := "law.go:40", after := #[{ on := 23, ground := Ground.data }, { on := 22, ground := Ground.chain }, { on := 0, ground := Ground.phase }, { on := 1, ground := Ground.phase }, { on := 2, ground := Ground.phase }, { on := 3, ground := Ground.phase }, { on := 4, ground := Ground.phase }, { on := 5, ground := Ground.phase }, { on := 6, ground := Ground.phase }, { on := 7, ground := Ground.phase }, { on := 8, ground := Ground.phase }, { on := 9, ground := Ground.phase }, { on := 10, ground := Ground.phase }, { on := 11, ground := Ground.phase }, { on := 12, ground := Ground.phase }, { on := 13, ground := Ground.phase }, { on := 14, ground := Ground.phase }, { on := 15, ground := Ground.phase }, { on := 16, ground := Ground.phase }, { on := 17, ground := Ground.phase }, { on := 18, ground := Ground.phase }, { on := 19, ground := Ground.phase }, { on := 20, ground := Ground.phase }, { on := 21, ground := Ground.phase }, { on := 22, ground := Ground.phase }, { on := 23, ground := Ground.phase }], guard := none }) (v := ?vvspy20) rfl (by kernel_rfl) (by kernel_rfl) (by kernel_rfl) (fun _ _ _ h => h) (Or.inl ⟨by rfl, ?yvspy20⟩) hk ?rvspy20
        case yvspy20 => (intro w hSw; (try dsimp only at hSw); go_simp; first | done | with_reducible rfl)
        simp only [Act.put, List.setIfInBounds_toArray, List.set_cons_zero, List.set_cons_succ]
        refine wpAnyH_done (by decide +kernel) ?_ _
        go_wp2_with fail
        go_ret
        exact ⟨rfl, hk.low⟩
  · refine (vnew_no _ _ _ _ _ HE2.out hok).mono ?_
    rintro e w3 ⟨rfl, hb3⟩
    have HC3 := Bx.mk (HC2.out.step hb3)
    have HE13 := Bx.mk (HE12.out.below hb3)
    have HE23 := Bx.mk (HE2.out.below hb3)
    have HO3 := Bx.mk (owns_below HO2.out hb3)
    have HST : Bx (stC (stpV L [c.s0, c.s1, c.s2, c.s3] c.k c.g (fuC c)) = .agg #[.int .i64 4, .int .i64 0, .int .i64 0, .int .i64 0, .int .i64 0, .int .i64 0, .int .i64 0]) := ⟨by rw [stpV_no hok]; rfl⟩
    have hq : ((thr L).2.2 != 0) = true := by simpa using hok
    obtain ⟨er, HER⟩ : ∃ er, Bx ((thr L).2.2 = er) := ⟨_, ⟨rfl⟩⟩
    rw [HER.out] at hq ⊢
    have hqq : (er != er) = false := by simp
    clear hb3 HO2 HE2 HE12 HC2 hok
    go_wp2_with fail
    refine (refcheck15_any a2 L.length c2 L w3 HE13.out).mono ?_
    rintro e w4 ⟨rfl, hb4⟩
    rw [HER.out]
    generalize (thr L).2.1 = pl
    have HC4 := Bx.mk (HC3.out.step hb4)
    have HE14 := Bx.mk (HE13.out.below hb4)
    have HE24 := Bx.mk (HE23.out.below hb4)
    have HO4' := Bx.mk (owns_below HO3.out hb4)
    clear hb4 HC3 HE13 HE23 HO3
    go_wp2_with fail
    refine (same15_yes a3 a2 L.length L.length c3 c2 L w4 HE24.out HE14.out).mono ?_
    rintro e w5 ⟨rfl, hb5⟩
    have HC5 := Bx.mk (HC4.out.step hb5)
    have HE15 := Bx.mk (HE14.out.below hb5)
    have HO4 := Bx.mk (owns_below HO4'.out hb5)
    clear hb5 HC4 HE14 HE24 HO4' hq hqq
    go_wp2_with fail
    go_loopw [10] (fun i wx => ∃ (m : Nat) (M : List Ic), m ≤ L.length ∧ i = .int .i64 m ∧ M.length = L.length ∧ Bx (wx.ownsRow w1.heap.size 36 2 (.slice a3 L.length c3) L.length (M.flatMap icC)) ∧ Bx (Kept (fun j => ∃ p, a3 = some p ∧ p.block = j) w5 wx)) (fun i _ => L.length - (intOf i).toNat)
    case atStart => exact ⟨0, L, Nat.zero_le _, rfl, rfl, HO4, ⟨Kept.refl _ _⟩⟩
    case round =>
      obtain ⟨m, M, hm, rfl, hML, HOM, HKP⟩ := hrel
      by_cases hlt : m < L.length
      · have hlt2 := hlt
        have hmI : (m : Int) < ((L.length : Nat) : Int) := by omega
        have hmd : decide (m < L.length) = true := by simpa using hlt
        obtain ⟨gM, cM, e, _, _⟩ := owns_form HOM.out (by omega)
        have e2 : a3 = some ⟨gM, 0, none⟩ ∧ c3 = cM := by cases e; exact ⟨rfl, rfl⟩
        obtain ⟨rfl, rfl⟩ := e2
        have c0 := HOM.out.cellAt (m * 2) (by omega)
        have c1 := HOM.out.cellAt (m * 2 + 1) (by omega)
        have hg0 := flatE_get icC_len M m 0 (by omega) (by decide)
        have hg1 := flatE_get icC_len M m 1 (by omega) (by decide)
        rw [Nat.add_zero] at hg0
        rw [hg0] at c0
        rw [hg1] at c1
        replace c0 : wr.cell? ⟨gM, m * 2, none⟩ = some (.int .i64 (M[m]'(by omega)).o) := c0
        replace c1 : wr.cell? ⟨gM, m * 2 + 1, none⟩ = some (.int .i64 (M[m]'(by omega)).n) := c1
        have f0 := HOM.out.frozenAt (m * 2)
        have f1 := HOM.out.frozenAt (m * 2 + 1)
        have hst := ((HOM.out.stored (m * 2) (.int .i64 99)).1.stored (m * 2 + 1) (.int .i64 0)).1
        rw [ics_set M m 99 0 (by omega)] at hst
        have HST2 := Bx.mk hst
        have HKP2 : Bx (Kept (fun j => ∃ p, some (⟨gM, 0, none⟩ : Addr) = some p ∧ p.block = j) w5 ((wr.setCell ⟨gM, m * 2, none⟩ (.int .i64 99)).setCell ⟨gM, m * 2 + 1, none⟩ (.int .i64 0))) := ⟨(HKP.out.setCell (g := gM) (.inl ⟨_, rfl, rfl⟩) _ _).setCell (g := gM) (.inl ⟨_, rfl, rfl⟩) _ _⟩
        generalize (M[m]'(by omega)).o = x0 at c0
        generalize (M[m]'(by omega)).n = x1 at c1
        clear hst hg0 hg1 e HOM HKP
        go_wp2_with fail
        go_roundw
        case rel => exact ⟨m + 1, _, by omega, by go_num, by rw [List.length_set]; exact hML, HST2, HKP2⟩
        case measure => simp [intOf]; omega
      · have hmI : ¬ (m : Int) < ((L.length : Nat) : Int) := by omega
        have hmd : decide (m < L.length) = false := by simp; omega
        have hsz := HC1.out.low.size
        have hA3 := HA3.out
        have hgbl := (Array.getElem?_eq_some_iff.1 HC1.out.row).1
        have heq := step_eq 4 0 0 0 0 0 0
        obtain ⟨Qp, HQ0⟩ : ∃ Qp : World → Prop, Bx (Qp = fun W => Ics W a2 L.length c2 L) := ⟨_, ⟨rfl⟩⟩
        have HQL : Bx (∀ W, Qp W → Ics W a2 L.length c2 L) := ⟨fun W h => by rw [HQ0.out] at h; exact h⟩
        have hk : CX Qp gb c w wr.drew := by
          refine CX.drew ⟨HC5.out.low.trans (HKP.out.low (B := w.heap.size) (fun k ⟨p, e, hp⟩ => ?_) HC5.out.low.size), ?_, ?_, ?_⟩
          · have := (hA3 p e).1; omega
          · refine (HKP.out.block gb (Array.getElem?_eq_some_iff.1 HC5.out.row).1 ?_).trans HC5.out.row
            rintro ⟨p, e, hp⟩
            have := (hA3 p e).1
            omega
          · rw [HQ0.out]
            exact fun W W' h hb => h.below hb
          · rw [HQ0.out]
            refine HE15.out.keep (fun p e hp => HKP.out.block _ hp ?_) HKP.out.size
            rintro ⟨p2, e2, hp2⟩
            have := (hA3 p2 e2).1
            have := (HA2.out p e).2
            omega
        clear HQ0 hsz hA3 hgbl HOM HKP HC5 HE15
        go_upto_region 11 with fail
        refine wp_region_held_drew (S := fun W => CX Qp gb c w W) (by kernel_rfl) hk (fun _ => ?_)
        generalize wr.drew = wk at hk ⊢
        refine wpAnyH_take (i := 0) (oi := { dst := some 51, op := Op.move (Operand.tmp 6), type := 28, pos := "law.go:40", after := #[], guard := none }) (v := ?vvspn1) rfl (by kernel_rfl) (by kernel_rfl) (by kernel_rfl) (fun _ _ _ h => h) (Or.inl ⟨by rfl, ?yvspn1⟩) hk ?rvspn1
        case yvspn1 => (intro w hSw; (try dsimp only at hSw); go_simp; first | done | with_reducible rfl)
        simp only [Act.put, List.setIfInBounds_toArray, List.set_cons_zero, List.set_cons_succ]
        refine wpAnyH_take (i := 1) (oi := { dst := some 52, op := Op.fieldAddr 26 (Operand.tmp 3) 0, type := 0, pos := "law.go:40", after := #[], guard := none }) (v := ?vvspn2) rfl (by kernel_rfl) (by kernel_rfl) (by kernel_rfl) (fun _ _ _ h => h) (Or.inl ⟨by rfl, ?yvspn2⟩) hk ?rvspn2
        case yvspn2 => (intro w hSw; (try dsimp only at hSw); go_simp; first | done | with_reducible rfl)
        simp only [Act.put, List.setIfInBounds_toArray, List.set_cons_zero, List.set_cons_succ]
        refine wpAnyH_take (i := 2) (oi := { dst := some 53, op := Op.load 24 (Operand.tmp 52), type := 24, pos := "law.go:40", after := #[{ on := 1, ground := Ground.data }], guard := none }) (v := .agg #[.int .i64 c.s0, .int .i64 c.s1, .int .i64 c.s2, .int .i64 c.s3]) rfl (by kernel_rfl) (by kernel_rfl) (by kernel_rfl) (fun _ _ _ h => h) (Or.inl ⟨by rfl, ?yvspn3⟩) hk ?rvspn3
        case yvspn3 => (intro w hSw; have q0 := hSw.c0; have q1 := hSw.c1; have q2 := hSw.c2; have q3 := hSw.c3; have q4 := hSw.c4; have q5 := hSw.c5; have q6 := hSw.c6; clear hSw; go_simp; first | done | with_reducible rfl)
        simp only [Act.put, List.setIfInBounds_toArray, List.set_cons_zero, List.set_cons_succ]
        refine wpAnyH_take (i := 3) (oi := { dst := some 54, op := Op.fieldAddr 26 (Operand.tmp 3) 1, type := 0, pos := "law.go:40", after := #[], guard := none }) (v := ?vvspn4) rfl (by kernel_rfl) (by kernel_rfl) (by kernel_rfl) (fun _ _ _ h => h) (Or.inl ⟨by rfl, ?yvspn4⟩) hk ?rvspn4
        case yvspn4 => (intro w hSw; (try dsimp only at hSw); go_simp; first | done | with_reducible rfl)
        simp only [Act.put, List.setIfInBounds_toArray, List.set_cons_zero, List.set_cons_succ]
        refine wpAnyH_take (i := 4) (oi := { dst := some 55, op := Op.load 3 (Operand.tmp 54), type := 3, pos := "law.go:40", after := #[{ on := 3, ground := Ground.data }], guard := none }) (v := ?vvspn5) rfl (by kernel_rfl) (by kernel_rfl) (by kernel_rfl) (fun _ _ _ h => h) (Or.inl ⟨by rfl, ?yvspn5⟩) hk ?rvspn5
        case yvspn5 => (intro w hSw; have hcw := hSw.c4; clear hSw; go_simp; first | done | with_reducible rfl)
        simp only [Act.put, List.setIfInBounds_toArray, List.set_cons_zero, List.set_cons_succ]
        refine wpAnyH_take (i := 5) (oi := { dst := some 56, op := Op.fieldAddr 26 (Operand.tmp 3) 3, type := 0, pos := "law.go:40", after := #[], guard := none }) (v := ?vvspn6) rfl (by kernel_rfl) (by kernel_rfl) (by kernel_rfl) (fun _ _ _ h => h) (Or.inl ⟨by rfl, ?yvspn6⟩) hk ?rvspn6
        case yvspn6 => (intro w hSw; (try dsimp only at hSw); go_simp; first | done | with_reducible rfl)
        simp only [Act.put, List.setIfInBounds_toArray, List.set_cons_zero, List.set_cons_succ]
        refine wpAnyH_take (i := 6) (oi := { dst := some 57, op := Op.load 2 (Operand.tmp 56), type := 2, pos := "law.go:40", after := #[{ on := 5, ground := Ground.data }], guard := none }) (v := ?vvspn7) rfl (by kernel_rfl) (by kernel_rfl) (by kernel_rfl) (fun _ _ _ h => h) (Or.inl ⟨by rfl, ?yvspn7⟩) hk ?rvspn7
        case yvspn7 => (intro w hSw; have hcw := hSw.c6; clear hSw; go_simp; first | done | with_reducible rfl)
        simp only [Act.put, List.setIfInBounds_toArray, List.set_cons_zero, List.set_cons_succ]
        refine wpAnyH_take (i := 7) (oi := { dst := some 58, op := Op.load 26 (Operand.tmp 3), type := 26, pos := "law.go:40", after := #[], guard := none }) (v := .agg #[.int .i64 c.s0, .int .i64 c.s1, .int .i64 c.s2, .int .i64 c.s3, .int .i64 c.k, .int .i64 c.f, .int .i64 c.g]) rfl (by kernel_rfl) (by kernel_rfl) (by kernel_rfl) (fun _ _ _ h => h) (Or.inl ⟨by rfl, ?yvspn8⟩) hk ?rvspn8
        case yvspn8 => (intro w hSw; have q0 := hSw.c0; have q1 := hSw.c1; have q2 := hSw.c2; have q3 := hSw.c3; have q4 := hSw.c4; have q5 := hSw.c5; have q6 := hSw.c6; clear hSw; go_simp; first | done | with_reducible rfl)
        simp only [Act.put, List.setIfInBounds_toArray, List.set_cons_zero, List.set_cons_succ]
        refine wpAnyH_take (i := 10) (oi := { dst := some 61, op := Op.move (Operand.tmp 0), type := 22, pos := "law.go:40", after := #[], guard := none }) (v := ?vvspn9) rfl (by kernel_rfl) (by kernel_rfl) (by kernel_rfl) (fun _ _ _ h => h) (Or.inl ⟨by rfl, ?yvspn9⟩) hk ?rvspn9
        case yvspn9 => (intro w hSw; (try dsimp only at hSw); go_simp; first | done | with_reducible rfl)
        simp only [Act.put, List.setIfInBounds_toArray, List.set_cons_zero, List.set_cons_succ]
        refine wpAnyH_take (i := 11) (oi := { dst := some 62, op := Op.fieldAddr 26 (Operand.tmp 3) 0, type := 0, pos := "law.go:40", after := #[], guard := none }) (v := ?vvspn10) rfl (by kernel_rfl) (by kernel_rfl) (by kernel_rfl) (fun _ _ _ h => h) (Or.inl ⟨by rfl, ?yvspn10⟩) hk ?rvspn10
        case yvspn10 => (intro w hSw; (try dsimp only at hSw); go_simp; first | done | with_reducible rfl)
        simp only [Act.put, List.setIfInBounds_toArray, List.set_cons_zero, List.set_cons_succ]
        refine wpAnyH_take (i := 12) (oi := { dst := some 63, op := Op.load 24 (Operand.tmp 62), type := 24, pos := "law.go:40", after := #[{ on := 11, ground := Ground.data }], guard := none }) (v := .agg #[.int .i64 c.s0, .int .i64 c.s1, .int .i64 c.s2, .int .i64 c.s3]) rfl (by kernel_rfl) (by kernel_rfl) (by kernel_rfl) (fun _ _ _ h => h) (Or.inl ⟨by rfl, ?yvspn11⟩) hk ?rvspn11
        case yvspn11 => (intro w hSw; have q0 := hSw.c0; have q1 := hSw.c1; have q2 := hSw.c2; have q3 := hSw.c3; have q4 := hSw.c4; have q5 := hSw.c5; have q6 := hSw.c6; clear hSw; go_simp; first | done | with_reducible rfl)
        simp only [Act.put, List.setIfInBounds_toArray, List.set_cons_zero, List.set_cons_succ]
        refine wpAnyH_take (i := 13) (oi := { dst := some 64, op := Op.fieldAddr 26 (Operand.tmp 3) 1, type := 0, pos := "law.go:40", after := #[], guard := none }) (v := ?vvspn12) rfl (by kernel_rfl) (by kernel_rfl) (by kernel_rfl) (fun _ _ _ h => h) (Or.inl ⟨by rfl, ?yvspn12⟩) hk ?rvspn12
        case yvspn12 => (intro w hSw; (try dsimp only at hSw); go_simp; first | done | with_reducible rfl)
        simp only [Act.put, List.setIfInBounds_toArray, List.set_cons_zero, List.set_cons_succ]
        refine wpAnyH_take (i := 14) (oi := { dst := some 65, op := Op.load 3 (Operand.tmp 64), type := 3, pos := "law.go:40", after := #[{ on := 13, ground := Ground.data }], guard := none }) (v := ?vvspn13) rfl (by kernel_rfl) (by kernel_rfl) (by kernel_rfl) (fun _ _ _ h => h) (Or.inl ⟨by rfl, ?yvspn13⟩) hk ?rvspn13
        case yvspn13 => (intro w hSw; have hcw := hSw.c4; clear hSw; go_simp; first | done | with_reducible rfl)
        simp only [Act.put, List.setIfInBounds_toArray, List.set_cons_zero, List.set_cons_succ]
        refine wpAnyH_take (i := 15) (oi := { dst := some 66, op := Op.fieldAddr 26 (Operand.tmp 3) 3, type := 0, pos := "law.go:40", after := #[], guard := none }) (v := ?vvspn14) rfl (by kernel_rfl) (by kernel_rfl) (by kernel_rfl) (fun _ _ _ h => h) (Or.inl ⟨by rfl, ?yvspn14⟩) hk ?rvspn14
        case yvspn14 => (intro w hSw; (try dsimp only at hSw); go_simp; first | done | with_reducible rfl)
        simp only [Act.put, List.setIfInBounds_toArray, List.set_cons_zero, List.set_cons_succ]
        refine wpAnyH_take (i := 16) (oi := { dst := some 67, op := Op.load 2 (Operand.tmp 66), type := 2, pos := "law.go:40", after := #[{ on := 15, ground := Ground.data }], guard := none }) (v := ?vvspn15) rfl (by kernel_rfl) (by kernel_rfl) (by kernel_rfl) (fun _ _ _ h => h) (Or.inl ⟨by rfl, ?yvspn15⟩) hk ?rvspn15
        case yvspn15 => (intro w hSw; have hcw := hSw.c6; clear hSw; go_simp; first | done | with_reducible rfl)
        simp only [Act.put, List.setIfInBounds_toArray, List.set_cons_zero, List.set_cons_succ]
        refine wpAnyH_take (i := 17) (oi := { dst := some 68, op := Op.load 26 (Operand.tmp 3), type := 26, pos := "law.go:40", after := #[], guard := none }) (v := .agg #[.int .i64 c.s0, .int .i64 c.s1, .int .i64 c.s2, .int .i64 c.s3, .int .i64 c.k, .int .i64 c.f, .int .i64 c.g]) rfl (by kernel_rfl) (by kernel_rfl) (by kernel_rfl) (fun _ _ _ h => h) (Or.inl ⟨by rfl, ?yvspn16⟩) hk ?rvspn16
        case yvspn16 => (intro w hSw; have q0 := hSw.c0; have q1 := hSw.c1; have q2 := hSw.c2; have q3 := hSw.c3; have q4 := hSw.c4; have q5 := hSw.c5; have q6 := hSw.c6; clear hSw; go_simp; first | done | with_reducible rfl)
        simp only [Act.put, List.setIfInBounds_toArray, List.set_cons_zero, List.set_cons_succ]
        refine wpAnyH_ready (rs := [8]) (by decide +kernel) (by simp) ?_
        refine AllReadyH.cons (o := { dst := some 59, op := Op.call { callee := Callee.value (Operand.func 14), args := #[Operand.tmp 58], argTypes := #[26] }, type := 3, pos := "law.go:40", after := #[{ on := 7, ground := Ground.data }], guard := none }) rfl (fun K hK => ?_) AllReadyH.nil
        go_simp
        refine (fuel_any c _).mono ?_
        rintro e1 wk ⟨rfl, hb1⟩
        replace hk := hk.step hb1
        clear hb1
        refine hK.out _ _ hk (fun _ => ?_)
        clear hK K
        try simp only [Act.put, List.setIfInBounds_toArray, List.set_cons_zero, List.set_cons_succ]
        refine wpAnyH_ready (rs := [9]) (by decide +kernel) (by simp) ?_
        refine AllReadyH.cons (o := { dst := some 60, op := Op.call { callee := Callee.value (Operand.func 13), args := #[Operand.tmp 51, Operand.tmp 53, Operand.tmp 55, Operand.tmp 57, Operand.tmp 59], argTypes := #[28, 24, 3, 2, 3] }, type := 38, pos := "law.go:40", after := #[{ on := 0, ground := Ground.data }, { on := 2, ground := Ground.data }, { on := 4, ground := Ground.data }, { on := 6, ground := Ground.data }, { on := 8, ground := Ground.data }, { on := 8, ground := Ground.chain }], guard := none }) rfl (fun K hK => ?_) AllReadyH.nil
        go_simp
        refine (step_nil _ _ _ _ _ _ _ _).mono ?_
        rintro e1 wk ⟨rfl, hb1⟩
        replace hk := hk.step hb1
        clear hb1
        refine hK.out _ _ hk (fun _ => ?_)
        clear hK K
        try simp only [Act.put, List.setIfInBounds_toArray, List.set_cons_zero, List.set_cons_succ]
        refine wpAnyH_ready (rs := [18]) (by decide +kernel) (by simp) ?_
        refine AllReadyH.cons (o := { dst := some 69, op := Op.call { callee := Callee.value (Operand.func 14), args := #[Operand.tmp 68], argTypes := #[26] }, type := 3, pos := "law.go:40", after := #[{ on := 17, ground := Ground.data }, { on := 9, ground := Ground.chain }], guard := none }) rfl (fun K hK => ?_) AllReadyH.nil
        go_simp
        refine (fuel_any c _).mono ?_
        rintro e1 wk ⟨rfl, hb1⟩
        replace hk := hk.step hb1
        clear hb1
        refine hK.out _ _ hk (fun _ => ?_)
        clear hK K
        try simp only [Act.put, List.setIfInBounds_toArray, List.set_cons_zero, List.set_cons_succ]
        refine wpAnyH_ready (rs := [19]) (by decide +kernel) (by simp) ?_
        refine AllReadyH.cons (o := { dst := some 70, op := Op.call { callee := Callee.value (Operand.func 15), args := #[Operand.tmp 61, Operand.tmp 63, Operand.tmp 65, Operand.tmp 67, Operand.tmp 69], argTypes := #[22, 24, 3, 2, 3] }, type := 38, pos := "law.go:40", after := #[{ on := 10, ground := Ground.data }, { on := 12, ground := Ground.data }, { on := 14, ground := Ground.data }, { on := 16, ground := Ground.data }, { on := 18, ground := Ground.data }, { on := 18, ground := Ground.chain }], guard := none }) rfl (fun K hK => ?_) AllReadyH.nil
        go_simp
        refine (refstep_any a2 L.length c2 L c.s0 c.s1 c.s2 c.s3 c.k c.g (fuC c) _ (HQL.out _ hk.q) HIK.out HC.out.s HC.out.k HC.out.g (fuC_in c)).mono ?_
        rintro e1 wk ⟨rfl, hb1⟩
        rw [HST.out]
        replace hk := hk.step hb1
        clear hb1
        refine hK.out _ _ hk (fun _ => ?_)
        clear hK K
        try simp only [Act.put, List.setIfInBounds_toArray, List.set_cons_zero, List.set_cons_succ]
        refine wpAnyH_take (i := 20) (oi := { dst := some 71, op := Op.binOp BinOp.eql 38 (Operand.tmp 60) (Operand.tmp 70) 38, type := 4, pos := "law.go:40", after := #[{ on := 9, ground := Ground.data }, { on := 19, ground := Ground.data }], guard := none }) (v := ?vvspn17) rfl (by kernel_rfl) (by kernel_rfl) (by kernel_rfl) (fun _ _ _ h => h) (Or.inl ⟨by rfl, ?yvspn17⟩) hk ?rvspn17
        case yvspn17 => (intro w hSw; (try dsimp only at hSw); go_simp; first | done | with_reducible rfl)
        simp only [Act.put, List.setIfInBounds_toArray, List.set_cons_zero, List.set_cons_succ]
        refine wpAnyH_take (i := 21) (oi := { dst := some 72, op := Op.move (Operand.tmp 71), type := 4, pos := "law.go:40", after := #[{ on := 20, ground := Ground.data }, { on := 19, ground := Ground.chain }], guard := none }) (v := ?vvspn18) rfl (by kernel_rfl) (by kernel_rfl) (by kernel_rfl) (fun _ _ _ h => h) (Or.inl ⟨by rfl, ?yvspn18⟩) hk ?rvspn18
        case yvspn18 => (intro w hSw; (try dsimp only at hSw); go_simp; first | done | with_reducible rfl)
        simp only [Act.put, List.setIfInBounds_toArray, List.set_cons_zero, List.set_cons_succ]
        refine wpAnyH_ready (rs := [22]) (by decide +kernel) (by simp) ?_
        refine AllReadyH.cons (o := { dst := some 73, op := Op.call { callee := Callee.value (Operand.func 16), args := #[], argTypes := #[] }, type := 4, pos := "law.go:40", after := #[{ on := 21, ground := Ground.chain }, { on := 21, ground := Ground.guard }], guard := some (21, true) }) rfl (fun K hK => ?_) AllReadyH.nil
        go_simp
        refine (lives16_any _).mono ?_
        rintro e1 wk ⟨rfl, hb1⟩
        replace hk := hk.step hb1
        clear hb1
        refine hK.out _ _ hk (fun _ => ?_)
        clear hK K
        try simp only [Act.put, List.setIfInBounds_toArray, List.set_cons_zero, List.set_cons_succ]
        refine wpAnyH_take (i := 23) (oi := { dst := some 74, op := Op.pick (Operand.tmp 72) (Operand.tmp 73) (Operand.const (Value.bool false)), type := 4, pos := "law.go:40", after := #[{ on := 21, ground := Ground.data }, { on := 22, ground := Ground.data }], guard := none }) (v := ?vvspn19) rfl (by kernel_rfl) (by kernel_rfl) (by kernel_rfl) (fun _ _ _ h => h) (Or.inl ⟨by rfl, ?yvspn19⟩) hk ?rvspn19
        case yvspn19 => (intro w hSw; (try dsimp only at hSw); go_simp; first | done | with_reducible rfl)
        simp only [Act.put, List.setIfInBounds_toArray, List.set_cons_zero, List.set_cons_succ]
        refine wpAnyH_take (i := 24) (oi := { dst := some 4, op := Op.assign (Operand.tmp 74), type := 4, pos := "law.go:40", after := #[{ on := 23, ground := Ground.data }, { on := 22, ground := Ground.chain }, { on := 0, ground := Ground.phase }, { on := 1, ground := Ground.phase }, { on := 2, ground := Ground.phase }, { on := 3, ground := Ground.phase }, { on := 4, ground := Ground.phase }, { on := 5, ground := Ground.phase }, { on := 6, ground := Ground.phase }, { on := 7, ground := Ground.phase }, { on := 8, ground := Ground.phase }, { on := 9, ground := Ground.phase }, { on := 10, ground := Ground.phase }, { on := 11, ground := Ground.phase }, { on := 12, ground := Ground.phase }, { on := 13, ground := Ground.phase }, { on := 14, ground := Ground.phase }, { on := 15, ground := Ground.phase }, { on := 16, ground := Ground.phase }, { on := 17, ground := Ground.phase }, { on := 18, ground := Ground.phase }, { on := 19, ground := Ground.phase }, { on := 20, ground := Ground.phase }, { on := 21, ground := Ground.phase }, { on := 22, ground := Ground.phase }, { on := 23, ground := Ground.phase }], guard := none }) (v := ?vvspn20) rfl (by kernel_rfl) (by kernel_rfl) (by kernel_rfl) (fun _ _ _ h => h) (Or.inl ⟨by rfl, ?yvspn20⟩) hk ?rvspn20
        case yvspn20 => (intro w hSw; (try dsimp only at hSw); go_simp; first | done | with_reducible rfl)
        simp only [Act.put, List.setIfInBounds_toArray, List.set_cons_zero, List.set_cons_succ]
        refine wpAnyH_done (by decide +kernel) ?_ _
        go_wp2_with fail
        go_ret
        exact ⟨rfl, hk.low⟩

set_option maxRecDepth 100000 in
theorem lifted (os : Os) (started : os.Started) (H : Type) (enc : TypeId × Value → H) :
    ReturnsInHanded {} Try.checked os 3 .any (Rows.vmStepsSpec.pre6 enc Try.prog Try.f3 Rows.vmStepsRow.domain false) (Rows.vmStepsSpec.post enc Try.prog Try.f3 false true false false) := by
  refine returnsInHanded_of_change (C := Try.checked) own started (by kernel_rfl) Try.func3
    (ChangeSpec.witness6 (enc := enc) (C := Try.checked) false ⟨#[], #[.slice none 0 0, .agg #[.int .i64 0, .int .i64 0, .int .i64 0, .int .i64 0, .int .i64 0, .int .i64 0, .int .i64 0]], []⟩ 8 (by kernel_rfl) (by kernel_rfl) (by kernel_rfl) (by kernel_rfl)) ?_
  intro W base args ds gs before hval0 hW hcnd _
  have hval : ∀ (j : Nat) t v, Try.f3.params[j]? = some t → args[j]? = some v → Value.okWide Try.prog W .any base t v := hval0
  have hW' := hW
  obtain ⟨p, q, hA0, hV, rfl, hfz, hnd⟩ := hW
  have hA : DataW.TrodAll enc Try.prog W 0 (fun _ => true) true Try.f3.params.toList args.toList ds p := hA0
  rw [Try.params3] at hA hval
  obtain ⟨v0, vs0, d0, ds0, p0, q0, hargs, rfl, rfl, h0, r0⟩ := trodAll_cons hA
  obtain ⟨v1, vs1, d1, ds1, p1, q1, rfl, rfl, rfl, h1, r1⟩ := trodAll_cons r0
  obtain ⟨rfl, rfl, rfl⟩ := trodAll_nil r1
  obtain rfl : args = #[v0, v1] := by cases args; simp_all
  obtain ⟨rfl, rfl⟩ := trodVars_none hV
  obtain ⟨a0, len0, cap0, rfl⟩ := okWide_slice Try.underlying22 (hval 0 22 v0 rfl rfl)
  have k0 := h0
  have lt0 : ∀ x ∈ p0, x.block < W.heap.size := by obtain ⟨m, hm⟩ := k0; exact DataW.trod_lt m _ _ _ hm
  have k1 := h1
  have lt1 : ∀ x ∈ p1, x.block < W.heap.size := by obtain ⟨m, hm⟩ := k1; exact DataW.trod_lt m _ _ _ hm
  obtain ⟨l, hl⟩ := open_ics h0
  obtain ⟨c, rfl, hc⟩ := open_cal (hval 1 26 v1 rfl rfl) h1
  clear hA0 hval0
  refine (walk a0 len0 cap0 l c W hl hc).mono fun e W' ⟨he, bel⟩ => ?_
  subst he
  exact ⟨_, rfl, _, _, _, [], _, [], hW', trodAll_mk1 (shut_bool Try.underlying4 _), (trodAll_cons_mk (Below.trod laidOut (by kernel_rfl) (of_decide_eq_true (by kernel_rfl)) k0 bel lt0) (trodAll_cons_mk (Below.trod laidOut (by kernel_rfl) (of_decide_eq_true (by kernel_rfl)) k1 bel lt1) trodAll_mk0)), rfl, bel.frame _, fun h => by cases h⟩

theorem over : Rows.vmStepsRow.holds Try.pinned (OpenSpec.ofChange Rows.vmStepsSpec) :=
  OpenClaim.holds_of_wide 3 Try.f3 rfl rfl rfl rfl rfl rfl rfl ⟨rfl, rfl, rfl, rfl, rfl⟩ rfl rfl rfl rfl rfl (by kernel_rfl) Try.func3 (by kernel_rfl)
    (of_decide_eq_true (by kernel_rfl)) (by unfold Func.isWrapper; first | (rw [if_pos (by decide +kernel)]; kernel_rfl) | (rw [if_neg (by decide +kernel)]; exact ⟨rfl, rfl⟩))
    (fun os started H enc _ => lifted os started H enc)

/-- the statement -/
theorem proved : Rows.VmStepsSaid := over
end Go.Proofs.Ytpbdgacdbhabhaa.vmSteps
namespace Go.Proofs.Ytpbdgacdbhabhaa
theorem vmSteps_holds : Rows.VmStepsSaid := vmSteps.proved
#print axioms vmSteps_holds
end Go.Proofs.Ytpbdgacdbhabhaa
