/- LinWhole: a history of a few operations fits just if one of all orders is taken. -/
import Derived.Test.YtbjeeefkbmdmfaaRows
import Derived.Test.YtbjeeefkbmdmfaaOrIn
import Derived.Test.YtbjeeefkbmdmfaaLnm
import Derived.Test.YtbjeeefkbmdmfaaLnh
import Derived.Test.YtbjeeefkbmdmfaaTmEnough
import Derived.Test.YtbjeeefkbmdmfaaLinOrders
import Derived.Test.YtbjeeefkbmdmfaaSma
import Derived.WalkKit
import Derived.ProofKit
import Derived.OpenShut
import Derived.ShutString
import Derived.ChangeOld
import Derived.Below
namespace Go.Proofs.Ytbjeeefkbmdmfaa.linWhole
open Go.ChangeShapes Go.WideShapes Go.ChangeAt Go.RowKit
open Go.ChangeMaps (open_string shut_string)
set_option linter.unusedVariables false

theorem own : ownKnob Try.prog.godebug = none := by kernel_rfl
theorem laidOut : laidOutB Try.prog = true := by kernel_rfl

theorem en_min (n : Nat) : enZ (n : Nat) = ((min (enN n) M62 : Nat) : Int) := by unfold enZ; rw [Int.toNat_natCast]
theorem en_5 : enN 5 = 325 := by decide

set_option maxRecDepth 100000 in
set_option maxHeartbeats 8000000 in
theorem walk (a0 : Option Addr) (len0 cap0 : Nat) (l : List Ic) (fuel : Int) (a2 : Option Addr) (len2 cap2 : Nat) (ops : List Opr) (w : World) (hl : IcsI w a0 len0 cap0 l) (hfuel : I64 fuel) (hops : OrsI w a2 len2 cap2 ops) :
    Calls Try.prog 6 #[.slice a0 len0 cap0, .int .i64 fuel, .slice a2 len2 cap2] w fun e w' => e = .returned (.bool true) ∧ Below w.heap.size w w' := by
  have HL := Bx.mk hl.1
  have HLK := Bx.mk hl.2
  have HOP := Bx.mk hops.1
  have HOPK := Bx.mk hops.2
  clear hl hops
  go_enter Try.func6, Try.ntmps6
  go_wp2_with fail
  refine (few15_any a0 len0 cap0 l _ HL.out).mono ?_
  rintro e w1 ⟨v1, rfl, ho1, hb1⟩
  obtain ⟨L, HLL⟩ : ∃ L, Bx (l.take 210 = L) := ⟨_, ⟨rfl⟩⟩
  have HLK1 : Bx (IcsK L) := ⟨by rw [← HLL.out]; exact HLK.out.take 210⟩
  rw [HLL.out] at ho1
  obtain ⟨aL, cL, rfl, hE1⟩ := Ls.of_owns icC_len ho1 rfl
  have HE1 := Bx.mk hE1
  have HB1 := Bx.mk hb1
  have HOP1 := Bx.mk (HOP.out.below hb1)
  clear ho1 hE1 hb1 HL HLK HLL HOP
  go_wp2_with fail
  refine (few17_any a2 len2 cap2 5 ops _ HOP1.out (by decide) (by decide)).mono ?_
  rintro e w2 ⟨v2, rfl, ho2, hb2⟩
  obtain ⟨O, HOO⟩ : ∃ O, Bx (ops.take 5 = O) := ⟨_, ⟨rfl⟩⟩
  have HOK1 : Bx (OrsK O) := ⟨by rw [← HOO.out]; exact HOPK.out.take 5⟩
  have HON : Bx (O.length ≤ 5) := ⟨by rw [← HOO.out, List.length_take]; omega⟩
  rw [HOO.out] at ho2
  have HOW2 := Bx.mk ho2
  obtain ⟨aO, cO, rfl, hE2⟩ := Ls.of_owns orC_len ho2 rfl
  have HO2 := Bx.mk hE2
  have HE2 := Bx.mk (HE1.out.below hb2)
  have HB2 := Bx.mk (bstep HB1.out hb2)
  clear ho2 hE2 hb2 HE1 HB1 HOP1 HOPK HOO
  go_wp2_with fail
  refine (least_any fuel 0 300 _).mono ?_
  rintro e wq ⟨rfl, hw⟩
  subst hw
  have hfb := least_bd fuel 0 300 (by decide)
  generalize leastV fuel 0 300 = f at hfb ⊢
  have hon := HON.out
  go_wp2_with fail
  refine (enough_any (O.length : Nat) _ (by unfold V64; omega)).mono ?_
  rintro e wq ⟨rfl, hw⟩
  obtain rfl : w2 = wq := hw.symm
  clear hw
  have hen : enN O.length ≤ 325 := by rw [← en_5]; exact enN_mono hon
  have HEN : Bx (enN O.length ≤ (enZ (O.length : Nat)).toNat ∧ 0 ≤ enZ (O.length : Nat) ∧ enZ (O.length : Nat) ≤ 325) := ⟨by
    rw [en_min]
    unfold M62
    omega⟩
  obtain ⟨b, HEB⟩ : ∃ b, Bx (enZ (O.length : Nat) = b) := ⟨_, ⟨rfl⟩⟩
  rw [HEB.out] at HEN ⊢
  clear hen hon
  go_wp2_with fail
  by_cases hne : linE L f b O = 0
  · have HK := Bx.mk (linE_ok hne)
    clear hne
    refine (whole_yes HE2.out HLK1.out HO2.out HOK1.out HK.out).mono ?_
    rintro e w3 ⟨aV, cV, rfl, hoV, hb3⟩
    obtain ⟨R, HR⟩ : ∃ R, Bx (vdR L f b O = R) := ⟨_, ⟨rfl⟩⟩
    have HKI := Bx.mk (vd_kinds (l := L) (fu := f) (bu := b) (ops := O))
    have HWH := Bx.mk (vd_whole (l := L) (fu := f) (bu := b) (ops := O) HK.out.irr HEN.out.1)
    rw [HR.out] at HKI HWH ⊢
    have HE3 := Bx.mk (HE2.out.below hb3)
    have HO3 := Bx.mk (HO2.out.below hb3)
    have HB3 := Bx.mk (bstep HB2.out hb3)
    clear hoV hb3 HE2 HO2 HB2 HR
    have hb4 : Below w3.heap.size w3 (w3.alloc (.cells #[.int .i64 (vdK R : Nat), .slice aV R.o.length cV, .int .i64 (R.t : Nat)] 39)) := (Below.refl _ _).alloc (Nat.le_refl _) _
    have HE4 := Bx.mk (HE3.out.below hb4)
    have HO4 := Bx.mk (HO3.out.below hb4)
    have HB := Bx.mk (bstep HB3.out hb4)
    have HR4 := Bx.mk (heap_alloc_new w3 (.cells #[.int .i64 (vdK R : Nat), .slice aV R.o.length cV, .int .i64 (R.t : Nat)] 39))
    clear hb4 HE3 HO3 HB3
    go_upto_region 4 with fail
    generalize w3.alloc (.cells #[.int .i64 (vdK R : Nat), .slice aV R.o.length cV, .int .i64 (R.t : Nat)] 39) = w4 at HE4 HO4 HB HR4 ⊢
    generalize w3.heap.size = gv at HR4 ⊢
    obtain ⟨kR, HKR⟩ : ∃ kR : Nat, Bx (vdK R = kR) := ⟨_, ⟨rfl⟩⟩
    rw [HKR.out] at HR4
    have HGV : Bx (gv < w4.heap.size) := ⟨(Array.getElem?_eq_some_iff.1 HR4.out).1⟩
    have X0 := Bx.mk (cell_of_row _ gv 0 _ _ (0, 0) HR4.out)
    rcases HKI.out.2.1 with hk | hk | hk | hk
    · have hkR : kR = 2 := by rw [← HKR.out]; unfold vdK; rw [hk]; rfl
      subst hkR
      have HNOT : Bx (¬ OrX L f O []) := ⟨fun ⟨r, hr⟩ => by
        have := (HWH.out.2 (by rw [hk]; decide)).2 ⟨r, hr⟩
        rw [hk] at this; cases this⟩
      clear hk
      have x0 := X0.out
      go_upto_region 11 with fail
      clear x0
      have hk : Below w4.heap.size w4 w4.drew := (Below.refl _ _).drew
      refine wp_region_held_drew (S := fun W => Below w4.heap.size w4 W) (by kernel_rfl) hk (fun _ => ?_)
      generalize w4.drew = wk at hk ⊢
      refine wpAnyH_take (i := 0) (oi := { dst := some 35, op := Op.fieldAddr 39 (Operand.tmp 7) 0, type := 0, pos := "law.go:155", after := #[], guard := none }) (v := ?vlwh11b1) rfl (by kernel_rfl) (by kernel_rfl) (by kernel_rfl) (fun _ _ _ h => h) (Or.inl ⟨by rfl, ?ylwh11b1⟩) hk ?rlwh11b1
      case ylwh11b1 => (intro w hSw; (try dsimp only at hSw); go_simp; first | done | with_reducible rfl)
      simp only [Act.put, List.setIfInBounds_toArray, List.set_cons_zero, List.set_cons_succ]
      refine wpAnyH_take (i := 1) (oi := { dst := some 36, op := Op.load 3 (Operand.tmp 35), type := 3, pos := "law.go:155", after := #[{ on := 0, ground := Ground.data }], guard := none }) (v := ?vlwh11b2) rfl (by kernel_rfl) (by kernel_rfl) (by kernel_rfl) (fun _ _ _ h => h) (Or.inl ⟨by rfl, ?ylwh11b2⟩) hk ?rlwh11b2
      case ylwh11b2 => (intro w hSw; have hcw := (hSw.cell HGV.out).trans X0.out; clear hSw; go_simp; first | done | with_reducible rfl)
      simp only [Act.put, List.setIfInBounds_toArray, List.set_cons_zero, List.set_cons_succ]
      refine wpAnyH_take (i := 2) (oi := { dst := some 37, op := Op.binOp BinOp.eql 3 (Operand.tmp 36) (Operand.const (Value.int IntKind.i64 1)) 3, type := 4, pos := "law.go:155", after := #[{ on := 1, ground := Ground.data }], guard := none }) (v := ?vlwh11b3) rfl (by kernel_rfl) (by kernel_rfl) (by kernel_rfl) (fun _ _ _ h => h) (Or.inl ⟨by rfl, ?ylwh11b3⟩) hk ?rlwh11b3
      case ylwh11b3 => (intro w hSw; (try dsimp only at hSw); go_simp; first | done | with_reducible rfl)
      simp only [Act.put, List.setIfInBounds_toArray, List.set_cons_zero, List.set_cons_succ]
      refine wpAnyH_take (i := 3) (oi := { dst := some 38, op := Op.move (Operand.tmp 0), type := 22, pos := "law.go:155", after := #[], guard := none }) (v := ?vlwh11b4) rfl (by kernel_rfl) (by kernel_rfl) (by kernel_rfl) (fun _ _ _ h => h) (Or.inl ⟨by rfl, ?ylwh11b4⟩) hk ?rlwh11b4
      case ylwh11b4 => (intro w hSw; (try dsimp only at hSw); go_simp; first | done | with_reducible rfl)
      simp only [Act.put, List.setIfInBounds_toArray, List.set_cons_zero, List.set_cons_succ]
      refine wpAnyH_take (i := 4) (oi := { dst := some 39, op := Op.move (Operand.tmp 1), type := 3, pos := "law.go:155", after := #[], guard := none }) (v := ?vlwh11b5) rfl (by kernel_rfl) (by kernel_rfl) (by kernel_rfl) (fun _ _ _ h => h) (Or.inl ⟨by rfl, ?ylwh11b5⟩) hk ?rlwh11b5
      case ylwh11b5 => (intro w hSw; (try dsimp only at hSw); go_simp; first | done | with_reducible rfl)
      simp only [Act.put, List.setIfInBounds_toArray, List.set_cons_zero, List.set_cons_succ]
      refine wpAnyH_take (i := 5) (oi := { dst := some 40, op := Op.move (Operand.tmp 2), type := 23, pos := "law.go:155", after := #[], guard := none }) (v := ?vlwh11b6) rfl (by kernel_rfl) (by kernel_rfl) (by kernel_rfl) (fun _ _ _ h => h) (Or.inl ⟨by rfl, ?ylwh11b6⟩) hk ?rlwh11b6
      case ylwh11b6 => (intro w hSw; (try dsimp only at hSw); go_simp; first | done | with_reducible rfl)
      simp only [Act.put, List.setIfInBounds_toArray, List.set_cons_zero, List.set_cons_succ]
      refine wpAnyH_ready (rs := [6]) (by decide +kernel) (by simp) ?_
      refine AllReadyH.cons (o := { dst := some 41, op := Op.call { callee := Callee.value (Operand.func 26), args := #[Operand.tmp 38, Operand.tmp 39, Operand.tmp 40, Operand.const (Value.slice none 0 0)], argTypes := #[22, 3, 23, 37] }, type := 4, pos := "law.go:155", after := #[{ on := 3, ground := Ground.data }, { on := 4, ground := Ground.data }, { on := 5, ground := Ground.data }], guard := none }) rfl (fun K hK => ?_) AllReadyH.nil
      go_simp
      refine (orders_any aL _ cL L f aO _ cO O HLK1.out HK.out.code HK.out.fuel HOK1.out HK.out.few _ none 0 [] _ (Nat.le_refl _) (by have := rkO_nil O.length; simpa using this) (HE4.out.below hk) (HO4.out.below hk) ⟨rfl, Nat.le_refl _, Nat.zero_le _, fun _ => rfl, fun hp => absurd hp (Nat.lt_irrefl _)⟩).mono ?_
      rintro e1 wk2 ⟨bO, rfl, hiff, hb2⟩
      obtain rfl : bO = false := by cases hb : bO with
        | false => rfl
        | true => exact absurd (hiff.1 hb) HNOT.out
      replace hk := bstep hk hb2
      clear hb2 hiff
      refine hK.out _ _ hk (fun _ => ?_)
      clear hK K
      try simp only [Act.put, List.setIfInBounds_toArray, List.set_cons_zero, List.set_cons_succ]
      refine wpAnyH_take (i := 7) (oi := { dst := some 42, op := Op.binOp BinOp.eql 4 (Operand.tmp 37) (Operand.tmp 41) 4, type := 4, pos := "law.go:155", after := #[{ on := 2, ground := Ground.data }, { on := 6, ground := Ground.data }], guard := none }) (v := ?vlwh11b7) rfl (by kernel_rfl) (by kernel_rfl) (by kernel_rfl) (fun _ _ _ h => h) (Or.inl ⟨by rfl, ?ylwh11b7⟩) hk ?rlwh11b7
      case ylwh11b7 => (intro w hSw; (try dsimp only at hSw); go_simp; first | done | with_reducible rfl)
      simp only [Act.put, List.setIfInBounds_toArray, List.set_cons_zero, List.set_cons_succ]
      refine wpAnyH_take (i := 8) (oi := { dst := some 43, op := Op.move (Operand.tmp 42), type := 4, pos := "law.go:155", after := #[{ on := 7, ground := Ground.data }, { on := 6, ground := Ground.chain }], guard := none }) (v := ?vlwh11b8) rfl (by kernel_rfl) (by kernel_rfl) (by kernel_rfl) (fun _ _ _ h => h) (Or.inl ⟨by rfl, ?ylwh11b8⟩) hk ?rlwh11b8
      case ylwh11b8 => (intro w hSw; (try dsimp only at hSw); go_simp; first | done | with_reducible rfl)
      simp only [Act.put, List.setIfInBounds_toArray, List.set_cons_zero, List.set_cons_succ]
      refine wpAnyH_ready (rs := [9]) (by decide +kernel) (by simp) ?_
      refine AllReadyH.cons (o := { dst := some 44, op := Op.call { callee := Callee.value (Operand.func 15), args := #[], argTypes := #[] }, type := 4, pos := "law.go:155", after := #[{ on := 8, ground := Ground.chain }, { on := 8, ground := Ground.guard }], guard := some (8, true) }) rfl (fun K hK => ?_) AllReadyH.nil
      go_simp
      refine (lives18_any _).mono ?_
      rintro e1 wk3 ⟨rfl, hb3⟩
      replace hk := bstep hk hb3
      clear hb3
      refine hK.out _ _ hk (fun _ => ?_)
      clear hK K
      try simp only [Act.put, List.setIfInBounds_toArray, List.set_cons_zero, List.set_cons_succ]
      refine wpAnyH_take (i := 10) (oi := { dst := some 45, op := Op.pick (Operand.tmp 43) (Operand.tmp 44) (Operand.const (Value.bool false)), type := 4, pos := "law.go:155", after := #[{ on := 8, ground := Ground.data }, { on := 9, ground := Ground.data }], guard := none }) (v := ?vlwh11b9) rfl (by kernel_rfl) (by kernel_rfl) (by kernel_rfl) (fun _ _ _ h => h) (Or.inl ⟨by rfl, ?ylwh11b9⟩) hk ?rlwh11b9
      case ylwh11b9 => (intro w hSw; (try dsimp only at hSw); go_simp; first | done | with_reducible rfl)
      simp only [Act.put, List.setIfInBounds_toArray, List.set_cons_zero, List.set_cons_succ]
      refine wpAnyH_take (i := 11) (oi := { dst := some 6, op := Op.assign (Operand.tmp 45), type := 4, pos := "law.go:155", after := #[{ on := 10, ground := Ground.data }, { on := 9, ground := Ground.chain }, { on := 0, ground := Ground.phase }, { on := 1, ground := Ground.phase }, { on := 2, ground := Ground.phase }, { on := 3, ground := Ground.phase }, { on := 4, ground := Ground.phase }, { on := 5, ground := Ground.phase }, { on := 6, ground := Ground.phase }, { on := 7, ground := Ground.phase }, { on := 8, ground := Ground.phase }, { on := 9, ground := Ground.phase }, { on := 10, ground := Ground.phase }], guard := none }) (v := ?vlwh11b10) rfl (by kernel_rfl) (by kernel_rfl) (by kernel_rfl) (fun _ _ _ h => h) (Or.inl ⟨by rfl, ?ylwh11b10⟩) hk ?rlwh11b10
      case ylwh11b10 => (intro w hSw; (try dsimp only at hSw); go_simp; first | done | with_reducible rfl)
      simp only [Act.put, List.setIfInBounds_toArray, List.set_cons_zero, List.set_cons_succ]
      refine wpAnyH_done (by decide +kernel) ?_ _
      have hfin := bstep HB.out hk
      clear hk
      go_wp2_with fail
      go_ret
      exact ⟨rfl, hfin⟩
    · have hkR : kR = 1 := by rw [← HKR.out]; unfold vdK; rw [hk]; rfl
      subst hkR
      have HYES : Bx (OrX L f O []) := ⟨(HWH.out.2 (by rw [hk]; decide)).1 hk⟩
      clear hk
      have x0 := X0.out
      go_upto_region 11 with fail
      clear x0
      have hk : Below w4.heap.size w4 w4.drew := (Below.refl _ _).drew
      refine wp_region_held_drew (S := fun W => Below w4.heap.size w4 W) (by kernel_rfl) hk (fun _ => ?_)
      generalize w4.drew = wk at hk ⊢
      refine wpAnyH_take (i := 0) (oi := { dst := some 35, op := Op.fieldAddr 39 (Operand.tmp 7) 0, type := 0, pos := "law.go:155", after := #[], guard := none }) (v := ?vlwh11a1) rfl (by kernel_rfl) (by kernel_rfl) (by kernel_rfl) (fun _ _ _ h => h) (Or.inl ⟨by rfl, ?ylwh11a1⟩) hk ?rlwh11a1
      case ylwh11a1 => (intro w hSw; (try dsimp only at hSw); go_simp; first | done | with_reducible rfl)
      simp only [Act.put, List.setIfInBounds_toArray, List.set_cons_zero, List.set_cons_succ]
      refine wpAnyH_take (i := 1) (oi := { dst := some 36, op := Op.load 3 (Operand.tmp 35), type := 3, pos := "law.go:155", after := #[{ on := 0, ground := Ground.data }], guard := none }) (v := ?vlwh11a2) rfl (by kernel_rfl) (by kernel_rfl) (by kernel_rfl) (fun _ _ _ h => h) (Or.inl ⟨by rfl, ?ylwh11a2⟩) hk ?rlwh11a2
      case ylwh11a2 => (intro w hSw; have hcw := (hSw.cell HGV.out).trans X0.out; clear hSw; go_simp; first | done | with_reducible rfl)
      simp only [Act.put, List.setIfInBounds_toArray, List.set_cons_zero, List.set_cons_succ]
      refine wpAnyH_take (i := 2) (oi := { dst := some 37, op := Op.binOp BinOp.eql 3 (Operand.tmp 36) (Operand.const (Value.int IntKind.i64 1)) 3, type := 4, pos := "law.go:155", after := #[{ on := 1, ground := Ground.data }], guard := none }) (v := ?vlwh11a3) rfl (by kernel_rfl) (by kernel_rfl) (by kernel_rfl) (fun _ _ _ h => h) (Or.inl ⟨by rfl, ?ylwh11a3⟩) hk ?rlwh11a3
      case ylwh11a3 => (intro w hSw; (try dsimp only at hSw); go_simp; first | done | with_reducible rfl)
      simp only [Act.put, List.setIfInBounds_toArray, List.set_cons_zero, List.set_cons_succ]
      refine wpAnyH_take (i := 3) (oi := { dst := some 38, op := Op.move (Operand.tmp 0), type := 22, pos := "law.go:155", after := #[], guard := none }) (v := ?vlwh11a4) rfl (by kernel_rfl) (by kernel_rfl) (by kernel_rfl) (fun _ _ _ h => h) (Or.inl ⟨by rfl, ?ylwh11a4⟩) hk ?rlwh11a4
      case ylwh11a4 => (intro w hSw; (try dsimp only at hSw); go_simp; first | done | with_reducible rfl)
      simp only [Act.put, List.setIfInBounds_toArray, List.set_cons_zero, List.set_cons_succ]
      refine wpAnyH_take (i := 4) (oi := { dst := some 39, op := Op.move (Operand.tmp 1), type := 3, pos := "law.go:155", after := #[], guard := none }) (v := ?vlwh11a5) rfl (by kernel_rfl) (by kernel_rfl) (by kernel_rfl) (fun _ _ _ h => h) (Or.inl ⟨by rfl, ?ylwh11a5⟩) hk ?rlwh11a5
      case ylwh11a5 => (intro w hSw; (try dsimp only at hSw); go_simp; first | done | with_reducible rfl)
      simp only [Act.put, List.setIfInBounds_toArray, List.set_cons_zero, List.set_cons_succ]
      refine wpAnyH_take (i := 5) (oi := { dst := some 40, op := Op.move (Operand.tmp 2), type := 23, pos := "law.go:155", after := #[], guard := none }) (v := ?vlwh11a6) rfl (by kernel_rfl) (by kernel_rfl) (by kernel_rfl) (fun _ _ _ h => h) (Or.inl ⟨by rfl, ?ylwh11a6⟩) hk ?rlwh11a6
      case ylwh11a6 => (intro w hSw; (try dsimp only at hSw); go_simp; first | done | with_reducible rfl)
      simp only [Act.put, List.setIfInBounds_toArray, List.set_cons_zero, List.set_cons_succ]
      refine wpAnyH_ready (rs := [6]) (by decide +kernel) (by simp) ?_
      refine AllReadyH.cons (o := { dst := some 41, op := Op.call { callee := Callee.value (Operand.func 26), args := #[Operand.tmp 38, Operand.tmp 39, Operand.tmp 40, Operand.const (Value.slice none 0 0)], argTypes := #[22, 3, 23, 37] }, type := 4, pos := "law.go:155", after := #[{ on := 3, ground := Ground.data }, { on := 4, ground := Ground.data }, { on := 5, ground := Ground.data }], guard := none }) rfl (fun K hK => ?_) AllReadyH.nil
      go_simp
      refine (orders_any aL _ cL L f aO _ cO O HLK1.out HK.out.code HK.out.fuel HOK1.out HK.out.few _ none 0 [] _ (Nat.le_refl _) (by have := rkO_nil O.length; simpa using this) (HE4.out.below hk) (HO4.out.below hk) ⟨rfl, Nat.le_refl _, Nat.zero_le _, fun _ => rfl, fun hp => absurd hp (Nat.lt_irrefl _)⟩).mono ?_
      rintro e1 wk2 ⟨bO, rfl, hiff, hb2⟩
      obtain rfl : bO = true := hiff.2 HYES.out
      replace hk := bstep hk hb2
      clear hb2 hiff
      refine hK.out _ _ hk (fun _ => ?_)
      clear hK K
      try simp only [Act.put, List.setIfInBounds_toArray, List.set_cons_zero, List.set_cons_succ]
      refine wpAnyH_take (i := 7) (oi := { dst := some 42, op := Op.binOp BinOp.eql 4 (Operand.tmp 37) (Operand.tmp 41) 4, type := 4, pos := "law.go:155", after := #[{ on := 2, ground := Ground.data }, { on := 6, ground := Ground.data }], guard := none }) (v := ?vlwh11a7) rfl (by kernel_rfl) (by kernel_rfl) (by kernel_rfl) (fun _ _ _ h => h) (Or.inl ⟨by rfl, ?ylwh11a7⟩) hk ?rlwh11a7
      case ylwh11a7 => (intro w hSw; (try dsimp only at hSw); go_simp; first | done | with_reducible rfl)
      simp only [Act.put, List.setIfInBounds_toArray, List.set_cons_zero, List.set_cons_succ]
      refine wpAnyH_take (i := 8) (oi := { dst := some 43, op := Op.move (Operand.tmp 42), type := 4, pos := "law.go:155", after := #[{ on := 7, ground := Ground.data }, { on := 6, ground := Ground.chain }], guard := none }) (v := ?vlwh11a8) rfl (by kernel_rfl) (by kernel_rfl) (by kernel_rfl) (fun _ _ _ h => h) (Or.inl ⟨by rfl, ?ylwh11a8⟩) hk ?rlwh11a8
      case ylwh11a8 => (intro w hSw; (try dsimp only at hSw); go_simp; first | done | with_reducible rfl)
      simp only [Act.put, List.setIfInBounds_toArray, List.set_cons_zero, List.set_cons_succ]
      refine wpAnyH_ready (rs := [9]) (by decide +kernel) (by simp) ?_
      refine AllReadyH.cons (o := { dst := some 44, op := Op.call { callee := Callee.value (Operand.func 15), args := #[], argTypes := #[] }, type := 4, pos := "law.go:155", after := #[{ on := 8, ground := Ground.chain }, { on := 8, ground := Ground.guard }], guard := some (8, true) }) rfl (fun K hK => ?_) AllReadyH.nil
      go_simp
      refine (lives18_any _).mono ?_
      rintro e1 wk3 ⟨rfl, hb3⟩
      replace hk := bstep hk hb3
      clear hb3
      refine hK.out _ _ hk (fun _ => ?_)
      clear hK K
      try simp only [Act.put, List.setIfInBounds_toArray, List.set_cons_zero, List.set_cons_succ]
      refine wpAnyH_take (i := 10) (oi := { dst := some 45, op := Op.pick (Operand.tmp 43) (Operand.tmp 44) (Operand.const (Value.bool false)), type := 4, pos := "law.go:155", after := #[{ on := 8, ground := Ground.data }, { on := 9, ground := Ground.data }], guard := none }) (v := ?vlwh11a9) rfl (by kernel_rfl) (by kernel_rfl) (by kernel_rfl) (fun _ _ _ h => h) (Or.inl ⟨by rfl, ?ylwh11a9⟩) hk ?rlwh11a9
      case ylwh11a9 => (intro w hSw; (try dsimp only at hSw); go_simp; first | done | with_reducible rfl)
      simp only [Act.put, List.setIfInBounds_toArray, List.set_cons_zero, List.set_cons_succ]
      refine wpAnyH_take (i := 11) (oi := { dst := some 6, op := Op.assign (Operand.tmp 45), type := 4, pos := "law.go:155", after := #[{ on := 10, ground := Ground.data }, { on := 9, ground := Ground.chain }, { on := 0, ground := Ground.phase }, { on := 1, ground := Ground.phase }, { on := 2, ground := Ground.phase }, { on := 3, ground := Ground.phase }, { on := 4, ground := Ground.phase }, { on := 5, ground := Ground.phase }, { on := 6, ground := Ground.phase }, { on := 7, ground := Ground.phase }, { on := 8, ground := Ground.phase }, { on := 9, ground := Ground.phase }, { on := 10, ground := Ground.phase }], guard := none }) (v := ?vlwh11a10) rfl (by kernel_rfl) (by kernel_rfl) (by kernel_rfl) (fun _ _ _ h => h) (Or.inl ⟨by rfl, ?ylwh11a10⟩) hk ?rlwh11a10
      case ylwh11a10 => (intro w hSw; (try dsimp only at hSw); go_simp; first | done | with_reducible rfl)
      simp only [Act.put, List.setIfInBounds_toArray, List.set_cons_zero, List.set_cons_succ]
      refine wpAnyH_done (by decide +kernel) ?_ _
      have hfin := bstep HB.out hk
      clear hk
      go_wp2_with fail
      go_ret
      exact ⟨rfl, hfin⟩
    · have hkR : kR = 3 := by rw [← HKR.out]; unfold vdK; rw [hk]; rfl
      subst hkR
      clear hk
      have x0 := X0.out
      go_wp2_with fail
      refine (lives18_any _).mono ?_
      rintro e wL ⟨rfl, hbL⟩
      have hfin := bstep HB.out hbL
      clear hbL
      go_wp2_with fail
      go_ret
      exact ⟨rfl, hfin⟩
    · exact absurd hk HWH.out.1
  · refine (whole_no HE2.out HO2.out hne).mono ?_
    rintro e w3 ⟨rfl, hb3⟩
    have HB : Bx (Below w.heap.size w (w3.alloc (.cells #[.int .i64 0, .slice none 0 0, .int .i64 0] 39))) := ⟨bstep (bstep HB2.out hb3) ((Below.refl _ _).alloc (Nat.le_refl _) _)⟩
    clear hb3 hne
    go_wp2_with fail
    refine (lives18_any _).mono ?_
    rintro e wL ⟨rfl, hbL⟩
    have hfin := bstep HB.out hbL
    clear hbL
    go_wp2_with fail
    go_ret
    exact ⟨rfl, hfin⟩

set_option maxRecDepth 100000 in
theorem lifted (os : Os) (started : os.Started) (H : Type) (enc : TypeId × Value → H) :
    ReturnsInHanded {} Try.checked os 6 .any (Rows.linWholeSpec.pre6 enc Try.prog Try.f6 Rows.linWholeRow.domain false) (Rows.linWholeSpec.post enc Try.prog Try.f6 false true false false) := by
  refine returnsInHanded_of_change (C := Try.checked) own started (by kernel_rfl) Try.func6
    (ChangeSpec.witness6 (enc := enc) (C := Try.checked) false ⟨#[], #[.slice none 0 0, .int .i64 0, .slice none 0 0], []⟩ 8 (by kernel_rfl) (by kernel_rfl) (by kernel_rfl) (by kernel_rfl)) ?_
  intro W base args ds gs before hval0 hW hcnd _
  have hval : ∀ (j : Nat) t v, Try.f6.params[j]? = some t → args[j]? = some v → Value.okWide Try.prog W .any base t v := hval0
  have hW' := hW
  obtain ⟨p, q, hA0, hV, rfl, hfz, hnd⟩ := hW
  have hA : DataW.TrodAll enc Try.prog W 0 (fun _ => true) true Try.f6.params.toList args.toList ds p := hA0
  rw [Try.params6] at hA hval
  obtain ⟨v0, vs0, d0, ds0, p0, q0, hargs, rfl, rfl, h0, r0⟩ := trodAll_cons hA
  obtain ⟨v1, vs1, d1, ds1, p1, q1, rfl, rfl, rfl, h1, r1⟩ := trodAll_cons r0
  obtain ⟨v2, vs2, d2, ds2, p2, q2, rfl, rfl, rfl, h2, r2⟩ := trodAll_cons r1
  obtain ⟨rfl, rfl, rfl⟩ := trodAll_nil r2
  obtain rfl : args = #[v0, v1, v2] := by cases args; simp_all
  obtain ⟨rfl, rfl⟩ := trodVars_none hV
  obtain ⟨a0, len0, cap0, rfl⟩ := okWide_slice Try.underlying22 (hval 0 22 v0 rfl rfl)
  obtain ⟨a2, len2, cap2, rfl⟩ := okWide_slice Try.underlying23 (hval 2 23 v2 rfl rfl)
  have k0 := h0
  have lt0 : ∀ x ∈ p0, x.block < W.heap.size := by obtain ⟨m, hm⟩ := k0; exact DataW.trod_lt m _ _ _ hm
  have k1 := h1
  have lt1 : ∀ x ∈ p1, x.block < W.heap.size := by obtain ⟨m, hm⟩ := k1; exact DataW.trod_lt m _ _ _ hm
  have k2 := h2
  have lt2 : ∀ x ∈ p2, x.block < W.heap.size := by obtain ⟨m, hm⟩ := k2; exact DataW.trod_lt m _ _ _ hm
  obtain ⟨l, hl⟩ := open_ics h0
  obtain ⟨fuel, rfl, hfuel⟩ := open_i64 (hval 1 3 v1 rfl rfl) h1
  obtain ⟨ops, hops⟩ := open_ors h2
  clear hA0 hval0
  refine (walk a0 len0 cap0 l fuel a2 len2 cap2 ops W hl hfuel hops).mono fun e W' ⟨he, bel⟩ => ?_
  subst he
  exact ⟨_, rfl, _, _, _, [], _, [], hW', trodAll_mk1 (shut_bool Try.underlying4 _), (trodAll_cons_mk (Below.trod laidOut (by kernel_rfl) (of_decide_eq_true (by kernel_rfl)) k0 bel lt0) (trodAll_cons_mk (Below.trod laidOut (by kernel_rfl) (of_decide_eq_true (by kernel_rfl)) k1 bel lt1) (trodAll_cons_mk (Below.trod laidOut (by kernel_rfl) (of_decide_eq_true (by kernel_rfl)) k2 bel lt2) trodAll_mk0))), rfl, bel.frame _, fun h => by cases h⟩

theorem over : Rows.linWholeRow.holds Try.pinned (OpenSpec.ofChange Rows.linWholeSpec) :=
  OpenClaim.holds_of_wide 6 Try.f6 rfl rfl rfl rfl rfl rfl rfl ⟨rfl, rfl, rfl, rfl, rfl⟩ rfl rfl rfl rfl rfl (by kernel_rfl) Try.func6 (by kernel_rfl)
    (of_decide_eq_true (by kernel_rfl)) (by unfold Func.isWrapper; first | (rw [if_pos (by decide +kernel)]; kernel_rfl) | (rw [if_neg (by decide +kernel)]; exact ⟨rfl, rfl⟩))
    (fun os started H enc _ => lifted os started H enc)

/-- the statement -/
theorem proved : Rows.LinWholeSaid := over
end Go.Proofs.Ytbjeeefkbmdmfaa.linWhole
namespace Go.Proofs.Ytbjeeefkbmdmfaa
theorem linWhole_holds : Rows.LinWholeSaid := linWhole.proved
#print axioms linWhole_holds
end Go.Proofs.Ytbjeeefkbmdmfaa
