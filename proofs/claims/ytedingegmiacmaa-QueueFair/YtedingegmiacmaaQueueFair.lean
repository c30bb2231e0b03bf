/- QueueFair: who wants a turn all the time has one within as many turns as there are places. -/
import Derived.Test.YtedingegmiacmaaRows
import Derived.Test.YtedingegmiacmaaQIn
import Derived.Test.YtedingegmiacmaaQRow
import Derived.Test.YtedingegmiacmaaLeast
import Derived.WalkKit
import Derived.ProofKit
import Derived.OpenShut
import Derived.ShutString
import Derived.ChangeOld
import Derived.Below
namespace Go.Proofs.Ytedingegmiacmaa.queueFair
open Go.ChangeShapes Go.WideShapes Go.ChangeAt Go.RowKit
open Go.ChangeMaps (open_string shut_string)
set_option linter.unusedVariables false

theorem own : ownKnob Try.prog.godebug = none := by kernel_rfl
theorem laidOut : laidOutB Try.prog = true := by kernel_rfl

theorem Try.infoB : (Try.prog.info? 4).map (fun i => (i.zero, i.size, i.bytes)) = some (some (.bool false), 1, 1) := by kernel_rfl

set_option maxRecDepth 100000 in
set_option maxHeartbeats 8000000 in
theorem walk (a0 : Option Addr) (len0 cap0 : Nat) (rounds : List (List Bool)) (wh : Int) (last : Int) (n : Int) (w : World) (hrounds : Bbs w a0 len0 cap0 rounds) (hwh : I64 wh) (hlast : I64 last) (hn : I64 n) :
    Calls Try.prog 6 #[.slice a0 len0 cap0, .int .i64 wh, .int .i64 last, .int .i64 n] w fun e w' => e = .returned (.bool true) ∧ Below w.heap.size w w' := by
  have HT := Bx.mk hrounds
  clear hrounds hwh hlast hn
  go_enter Try.func6, Try.ntmps6
  go_wp2_with fail
  refine (least_any n 1 20 _).mono ?_
  rintro e wz ⟨rfl, hw⟩
  subst hw
  have hnb := least_bd n 1 20 (by decide)
  generalize leastV n 1 20 = nv at hnb ⊢
  obtain ⟨m, rfl⟩ : ∃ m : Nat, nv = (m : Int) := ⟨nv.toNat, by omega⟩
  go_wp2_with fail
  refine (least_any wh 0 ((m : Int) - 1) _).mono ?_
  rintro e wz ⟨rfl, hw⟩
  subst hw
  have hwb := least_bd wh 0 ((m : Int) - 1) (by omega)
  generalize leastV wh 0 ((m : Int) - 1) = wv at hwb ⊢
  obtain ⟨who, rfl⟩ : ∃ who : Nat, wv = (who : Int) := ⟨wv.toNat, by omega⟩
  have hwn : who < m := by omega
  have hwnI : (who : Int) < (m : Int) := by omega
  have hm20 : m ≤ 20 := by omega
  have hmk := run_make_row' (P := Try.prog) 45 4 (.bool false) 1 Try.underlying45 Try.infoB rfl .i64 .i64 m (by omega) (by omega)
  have HD0 := Bx.mk (dstW_le hwn last)
  clear hnb hwb
  go_wp2_with fail
  go_loopw [2, 9] (fun l i wr => ∃ (k : Nat) (lst : Int), k ≤ m ∧ l = .int .i64 lst ∧ i = .int .i64 k ∧ Bx (dstW m who lst + (k : Int) < (m : Int)) ∧ Bx (Below w.heap.size w wr)) (fun _ i _ => m - (intOf i).toNat)
  case atStart => exact ⟨0, last, Nat.zero_le _, rfl, rfl, ⟨by have := HD0.out; omega⟩, ⟨Below.refl _ _⟩⟩
  case round =>
    clear HD0
    obtain ⟨k, lst, hk, rfl, rfl, HD, HB⟩ := hrel
    have hkm : k < m := by
      have h1 := HD.out
      have h2 := (dstW_le hwn lst).1
      omega
    have hkI : (k : Int) < (m : Int) := by omega
    obtain ⟨gw, HG⟩ : ∃ gw, Bx (wr.heap.size = gw) := ⟨_, ⟨rfl⟩⟩
    have HR0 : Bx (Bb (wr.alloc (.cells (madeCells #[.bool false] m) 4)) gw m (List.replicate m false)) := ⟨⟨by rw [← HG.out, made_b]; exact heap_alloc_new _ _, List.length_replicate⟩⟩
    have HB0 : Bx (Below w.heap.size w (wr.alloc (.cells (madeCells #[.bool false] m) 4))) := ⟨bstep HB.out ((Below.refl _ _).alloc (Nat.le_refl _) _)⟩
    have HGW : Bx (w.heap.size ≤ gw) := ⟨by rw [← HG.out]; exact HB.out.size⟩
    go_upto_region 7 with fail
    rw [HG.out]
    generalize wr.alloc (.cells (madeCells #[.bool false] m) 4) = w2 at HR0 HB0 ⊢
    clear HB HG
    go_wp2_with fail
    go_loopw [11] (fun i wr => ∃ (q : Nat) (B : List Bool), q ≤ m ∧ i = .int .i64 q ∧ Bx (Bb wr gw m B) ∧ Bx (Below w.heap.size w wr)) (fun i _ => m - (intOf i).toNat)
    case atStart => exact ⟨0, _, Nat.zero_le _, rfl, HR0, HB0⟩
    case round =>
      clear HR0 HB0
      obtain ⟨q, B, hq, rfl, HR, HBW⟩ := hrel
      by_cases hqm : q < m
      · have hqI : (q : Int) < (m : Int) := by omega
        by_cases hkl : k < len0
        · have hklI : (k : Int) < (len0 : Int) := by omega
          obtain ⟨b, off, rfl, _, hc⟩ := (HT.out.below HBW.out).spot (by omega)
          obtain ⟨ai, li, ci, z0, hbv⟩ := hc k hkl
          have HBV := Bx.mk hbv
          clear hc hbv
          by_cases hql : q < li
          · have hqlI : (q : Int) < (li : Int) := by omega
            obtain ⟨b1, o1, rfl, _, z1⟩ := HBV.out.bv q hql
            generalize (rounds.getD k []).getD q false = x at z1
            have x0 := HR.out.cell q hqm
            have f0 := HR.out.froz q
            have HR2 := Bx.mk (HR.out.set q x)
            have HBW2 : Bx (Below w.heap.size w (wr.setCell ⟨gw, q, none⟩ (.bool x))) := ⟨HBW.out.setCell (p := ⟨gw, q, none⟩) HGW.out _⟩
            clear HR HBW HBV
            go_wp2_with fail
            go_roundw
            case rel => exact ⟨q + 1, _, by omega, by go_num, HR2, HBW2⟩
            case measure => simp [intOf]; omega
          · have hqlI : ¬ (q : Int) < (li : Int) := by omega
            clear hql HBV
            go_upto_region 11 with fail
            clear z0
            obtain ⟨B2, HB2⟩ : ∃ B2, Bx (B.set who true = B2) := ⟨_, ⟨rfl⟩⟩
            have HRR := Bx.mk (HR.out.set who true)
            rw [HB2.out] at HRR
            have HBW2 : Bx (Below w.heap.size w (wr.setCell ⟨gw, who, none⟩ (.bool true))) := ⟨HBW.out.setCell (p := ⟨gw, who, none⟩) HGW.out _⟩
            have x0 := HR.out.cell who hwn
            have f0 := HR.out.froz who
            have HWT : Bx (B2.getD who false = true) := ⟨by rw [← HB2.out, List.getD_eq_getElem?_getD, List.getElem?_set_self (by rw [HR.out.len]; exact hwn)]; rfl⟩
            have HLB : Bx (B2.length = m) := ⟨HRR.out.len⟩
            go_upto_region 12 with fail
            generalize wr.setCell ⟨gw, who, none⟩ (.bool true) = w3 at HRR HBW2 ⊢
            clear x0 f0 HR HBW HB2
            go_wp2_with fail
            refine (turn19_any _ _ _ B2 lst _ (HRR.out.bvs (by omega)) (by omega)).mono ?_
            rintro e wz ⟨rfl, hw⟩
            obtain rfl : w3 = wz := hw.symm
            clear hw
            obtain ⟨kk, hkk⟩ := trn_is HWT.out lst
            have HTS := Bx.mk (trn_some hkk)
            have HNR : Bx (kk ≠ who → dstW m who (kk : Int) < dstW m who lst) := ⟨fun hne => by rw [← HLB.out]; exact trn_near (by rw [HLB.out]; exact hwn) HWT.out hkk hne⟩
            rw [(tr_yes19 hkk).1, (tr_yes19 hkk).2]
            have hkm : kk < m := by rw [← HLB.out]; exact HTS.out.1
            have hkmI : ¬ (m : Int) ≤ (kk : Int) := by omega
            have hk0 : ¬ (kk : Int) < 0 := by omega
            have y0 := HRR.out.cell kk hkm
            rw [HTS.out.2] at y0
            clear hkk HTS HWT
            by_cases hkw : kk = who
            · subst hkw
              have hq : ((kk : Int) == (kk : Int)) = true := by simp
              go_wp2_with fail
              refine (lives19_any _).mono ?_
              rintro e wL ⟨rfl, hbL⟩
              have hfin := bstep HBW2.out hbL
              clear hbL
              go_wp2_with fail
              go_ret
              exact ⟨rfl, hfin⟩
            · have hq : ((kk : Int) == (who : Int)) = false := beq_false_of_ne (by omega)
              have HD2 := Bx.mk (HNR.out hkw)
              clear hkw
              go_wp2_with fail
              go_roundw
              case rel => exact ⟨(k + 1 : Nat), (kk : Int), by omega, by go_num, by go_num, ⟨by have := HD2.out; have := HD.out; omega⟩, HBW2⟩
              case measure => simp [intOf]; omega
        · have hklI : ¬ (k : Int) < (len0 : Int) := by omega
          clear hkl
          obtain ⟨B2, HB2⟩ : ∃ B2, Bx (B.set who true = B2) := ⟨_, ⟨rfl⟩⟩
          have HRR := Bx.mk (HR.out.set who true)
          rw [HB2.out] at HRR
          have HBW2 : Bx (Below w.heap.size w (wr.setCell ⟨gw, who, none⟩ (.bool true))) := ⟨HBW.out.setCell (p := ⟨gw, who, none⟩) HGW.out _⟩
          have x0 := HR.out.cell who hwn
          have f0 := HR.out.froz who
          have HWT : Bx (B2.getD who false = true) := ⟨by rw [← HB2.out, List.getD_eq_getElem?_getD, List.getElem?_set_self (by rw [HR.out.len]; exact hwn)]; rfl⟩
          have HLB : Bx (B2.length = m) := ⟨HRR.out.len⟩
          go_upto_region 12 with fail
          generalize wr.setCell ⟨gw, who, none⟩ (.bool true) = w3 at HRR HBW2 ⊢
          clear x0 f0 HR HBW HB2
          go_wp2_with fail
          refine (turn19_any _ _ _ B2 lst _ (HRR.out.bvs (by omega)) (by omega)).mono ?_
          rintro e wz ⟨rfl, hw⟩
          obtain rfl : w3 = wz := hw.symm
          clear hw
          obtain ⟨kk, hkk⟩ := trn_is HWT.out lst
          have HTS := Bx.mk (trn_some hkk)
          have HNR : Bx (kk ≠ who → dstW m who (kk : Int) < dstW m who lst) := ⟨fun hne => by rw [← HLB.out]; exact trn_near (by rw [HLB.out]; exact hwn) HWT.out hkk hne⟩
          rw [(tr_yes19 hkk).1, (tr_yes19 hkk).2]
          have hkm : kk < m := by rw [← HLB.out]; exact HTS.out.1
          have hkmI : ¬ (m : Int) ≤ (kk : Int) := by omega
          have hk0 : ¬ (kk : Int) < 0 := by omega
          have y0 := HRR.out.cell kk hkm
          rw [HTS.out.2] at y0
          clear hkk HTS HWT
          by_cases hkw : kk = who
          · subst hkw
            have hq : ((kk : Int) == (kk : Int)) = true := by simp
            go_wp2_with fail
            refine (lives19_any _).mono ?_
            rintro e wL ⟨rfl, hbL⟩
            have hfin := bstep HBW2.out hbL
            clear hbL
            go_wp2_with fail
            go_ret
            exact ⟨rfl, hfin⟩
          · have hq : ((kk : Int) == (who : Int)) = false := beq_false_of_ne (by omega)
            have HD2 := Bx.mk (HNR.out hkw)
            clear hkw
            go_wp2_with fail
            go_roundw
            case rel => exact ⟨(k + 1 : Nat), (kk : Int), by omega, by go_num, by go_num, ⟨by have := HD2.out; have := HD.out; omega⟩, HBW2⟩
            case measure => simp [intOf]; omega
      · have hqI : ¬ (q : Int) < (m : Int) := by omega
        clear hqm
        obtain ⟨B2, HB2⟩ : ∃ B2, Bx (B.set who true = B2) := ⟨_, ⟨rfl⟩⟩
        have HRR := Bx.mk (HR.out.set who true)
        rw [HB2.out] at HRR
        have HBW2 : Bx (Below w.heap.size w (wr.setCell ⟨gw, who, none⟩ (.bool true))) := ⟨HBW.out.setCell (p := ⟨gw, who, none⟩) HGW.out _⟩
        have x0 := HR.out.cell who hwn
        have f0 := HR.out.froz who
        have HWT : Bx (B2.getD who false = true) := ⟨by rw [← HB2.out, List.getD_eq_getElem?_getD, List.getElem?_set_self (by rw [HR.out.len]; exact hwn)]; rfl⟩
        have HLB : Bx (B2.length = m) := ⟨HRR.out.len⟩
        go_upto_region 12 with fail
        generalize wr.setCell ⟨gw, who, none⟩ (.bool true) = w3 at HRR HBW2 ⊢
        clear x0 f0 HR HBW HB2
        go_wp2_with fail
        refine (turn19_any _ _ _ B2 lst _ (HRR.out.bvs (by omega)) (by omega)).mono ?_
        rintro e wz ⟨rfl, hw⟩
        obtain rfl : w3 = wz := hw.symm
        clear hw
        obtain ⟨kk, hkk⟩ := trn_is HWT.out lst
        have HTS := Bx.mk (trn_some hkk)
        have HNR : Bx (kk ≠ who → dstW m who (kk : Int) < dstW m who lst) := ⟨fun hne => by rw [← HLB.out]; exact trn_near (by rw [HLB.out]; exact hwn) HWT.out hkk hne⟩
        rw [(tr_yes19 hkk).1, (tr_yes19 hkk).2]
        have hkm : kk < m := by rw [← HLB.out]; exact HTS.out.1
        have hkmI : ¬ (m : Int) ≤ (kk : Int) := by omega
        have hk0 : ¬ (kk : Int) < 0 := by omega
        have y0 := HRR.out.cell kk hkm
        rw [HTS.out.2] at y0
        clear hkk HTS HWT
        by_cases hkw : kk = who
        · subst hkw
          have hq : ((kk : Int) == (kk : Int)) = true := by simp
          go_wp2_with fail
          refine (lives19_any _).mono ?_
          rintro e wL ⟨rfl, hbL⟩
          have hfin := bstep HBW2.out hbL
          clear hbL
          go_wp2_with fail
          go_ret
          exact ⟨rfl, hfin⟩
        · have hq : ((kk : Int) == (who : Int)) = false := beq_false_of_ne (by omega)
          have HD2 := Bx.mk (HNR.out hkw)
          clear hkw
          go_wp2_with fail
          go_roundw
          case rel => exact ⟨(k + 1 : Nat), (kk : Int), by omega, by go_num, by go_num, ⟨by have := HD2.out; have := HD.out; omega⟩, HBW2⟩
          case measure => simp [intOf]; omega

set_option maxRecDepth 100000 in
theorem lifted (os : Os) (started : os.Started) (H : Type) (enc : TypeId × Value → H) :
    ReturnsInHanded {} Try.checked os 6 .any (Rows.queueFairSpec.pre6 enc Try.prog Try.f6 Rows.queueFairRow.domain false) (Rows.queueFairSpec.post enc Try.prog Try.f6 false true false false) := by
  refine returnsInHanded_of_change (C := Try.checked) own started (by kernel_rfl) Try.func6
    (ChangeSpec.witness6 (enc := enc) (C := Try.checked) false ⟨#[], #[.slice none 0 0, .int .i64 0, .int .i64 0, .int .i64 0], []⟩ 8 (by kernel_rfl) (by kernel_rfl) (by kernel_rfl) (by kernel_rfl)) ?_
  intro W base args ds gs before hval0 hW hcnd _
  have hval : ∀ (j : Nat) t v, Try.f6.params[j]? = some t → args[j]? = some v → Value.okWide Try.prog W .any base t v := hval0
  have hW' := hW
  obtain ⟨p, q, hA0, hV, rfl, hfz, hnd⟩ := hW
  have hA : DataW.TrodAll enc Try.prog W 0 (fun _ => true) true Try.f6.params.toList args.toList ds p := hA0
  rw [Try.params6] at hA hval
  obtain ⟨v0, vs0, d0, ds0, p0, q0, hargs, rfl, rfl, h0, r0⟩ := trodAll_cons hA
  obtain ⟨v1, vs1, d1, ds1, p1, q1, rfl, rfl, rfl, h1, r1⟩ := trodAll_cons r0
  obtain ⟨v2, vs2, d2, ds2, p2, q2, rfl, rfl, rfl, h2, r2⟩ := trodAll_cons r1
  obtain ⟨v3, vs3, d3, ds3, p3, q3, rfl, rfl, rfl, h3, r3⟩ := trodAll_cons r2
  obtain ⟨rfl, rfl, rfl⟩ := trodAll_nil r3
  obtain rfl : args = #[v0, v1, v2, v3] := by cases args; simp_all
  obtain ⟨rfl, rfl⟩ := trodVars_none hV
  obtain ⟨a0, len0, cap0, rfl⟩ := okWide_slice Try.underlying49 (hval 0 49 v0 rfl rfl)
  have k0 := h0
  have lt0 : ∀ x ∈ p0, x.block < W.heap.size := by obtain ⟨m, hm⟩ := k0; exact DataW.trod_lt m _ _ _ hm
  have k1 := h1
  have lt1 : ∀ x ∈ p1, x.block < W.heap.size := by obtain ⟨m, hm⟩ := k1; exact DataW.trod_lt m _ _ _ hm
  have k2 := h2
  have lt2 : ∀ x ∈ p2, x.block < W.heap.size := by obtain ⟨m, hm⟩ := k2; exact DataW.trod_lt m _ _ _ hm
  have k3 := h3
  have lt3 : ∀ x ∈ p3, x.block < W.heap.size := by obtain ⟨m, hm⟩ := k3; exact DataW.trod_lt m _ _ _ hm
  obtain ⟨rounds, hrounds⟩ := open_bbs h0
  obtain ⟨wh, rfl, hwh⟩ := open_i64 (hval 1 3 v1 rfl rfl) h1
  obtain ⟨last, rfl, hlast⟩ := open_i64 (hval 2 3 v2 rfl rfl) h2
  obtain ⟨n, rfl, hn⟩ := open_i64 (hval 3 3 v3 rfl rfl) h3
  clear hA0 hval0
  refine (walk a0 len0 cap0 rounds wh last n W hrounds hwh hlast hn).mono fun e W' ⟨he, bel⟩ => ?_
  subst he
  exact ⟨_, rfl, _, _, _, [], _, [], hW', trodAll_mk1 (shut_bool Try.underlying4 _), (trodAll_cons_mk (Below.trod laidOut (by kernel_rfl) (of_decide_eq_true (by kernel_rfl)) k0 bel lt0) (trodAll_cons_mk (Below.trod laidOut (by kernel_rfl) (of_decide_eq_true (by kernel_rfl)) k1 bel lt1) (trodAll_cons_mk (Below.trod laidOut (by kernel_rfl) (of_decide_eq_true (by kernel_rfl)) k2 bel lt2) (trodAll_cons_mk (Below.trod laidOut (by kernel_rfl) (of_decide_eq_true (by kernel_rfl)) k3 bel lt3) trodAll_mk0)))), rfl, bel.frame _, fun h => by cases h⟩

theorem over : Rows.queueFairRow.holds Try.pinned (OpenSpec.ofChange Rows.queueFairSpec) :=
  OpenClaim.holds_of_wide 6 Try.f6 rfl rfl rfl rfl rfl rfl rfl ⟨rfl, rfl, rfl, rfl, rfl⟩ rfl rfl rfl rfl rfl (by kernel_rfl) Try.func6 (by kernel_rfl)
    (of_decide_eq_true (by kernel_rfl)) (by unfold Func.isWrapper; first | (rw [if_pos (by decide +kernel)]; kernel_rfl) | (rw [if_neg (by decide +kernel)]; exact ⟨rfl, rfl⟩))
    (fun os started H enc _ => lifted os started H enc)

/-- the statement -/
theorem proved : Rows.QueueFairSaid := over
end Go.Proofs.Ytedingegmiacmaa.queueFair
namespace Go.Proofs.Ytedingegmiacmaa
theorem queueFair_holds : Rows.QueueFairSaid := queueFair.proved
#print axioms queueFair_holds
end Go.Proofs.Ytedingegmiacmaa
