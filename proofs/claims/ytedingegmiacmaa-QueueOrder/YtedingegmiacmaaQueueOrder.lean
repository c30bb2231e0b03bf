/- QueueOrder: they go in the order in which they came. -/
import Derived.Test.YtedingegmiacmaaRows
import Derived.Test.YtedingegmiacmaaIvIn
import Derived.Test.YtedingegmiacmaaQLives
import Derived.Test.YtedingegmiacmaaAppAt
import Derived.WalkKit
import Derived.ProofKit
import Derived.OpenShut
import Derived.ShutString
import Derived.ChangeOld
import Derived.Below
namespace Go.Proofs.Ytedingegmiacmaa.queueOrder
open Go.ChangeShapes Go.WideShapes Go.ChangeAt Go.RowKit
open Go.ChangeMaps (open_string shut_string)
set_option linter.unusedVariables false

theorem own : ownKnob Try.prog.godebug = none := by kernel_rfl
theorem laidOut : laidOutB Try.prog = true := by kernel_rfl

theorem Try.infoI21 : (Try.prog.info? 3).map (fun i => (i.zero, i.size, i.bytes)) = some (some (.int .i64 0), 1, 8) := by kernel_rfl
/-- what holds while they come -/
structure OI (w : World) (g : Nat) (wr : World) (v : Value) (C : List Int) : Prop where
  q : Qm wr g 8 C
  qi : QI 8 C
  own : wr.ownsRow w.heap.size 3 1 v C.length (C.flatMap ivC)
  low : Below w.heap.size w wr
  gN : w.heap.size ≤ g
  off : v.ownBlock ≠ some g
theorem qp_ways (L : List Int) (j : Int) : (∃ e : Int, qPut 8 L j = (L, e) ∧ (e == 0) = false) ∨ qPut 8 L j = (L ++ [j], 0) := by
  unfold qPut
  split
  · exact .inl ⟨2, rfl, rfl⟩
  · split
    · exact .inl ⟨10, rfl, rfl⟩
    · split
      · exact .inl ⟨11, rfl, rfl⟩
      · exact .inr rfl
theorem own_kept19 {g : Nat} {w wr wr1 : World} {v : Value} {n : Nat} {xs : List Value} (h : wr.ownsRow w.heap.size 3 1 v n xs) (hk : Kept (fun k => k = g) wr wr1) (ho : v.ownBlock ≠ some g) : wr1.ownsRow w.heap.size 3 1 v n xs :=
  own_keep h (fun j e => hk.block j (h.lt j e).2 (fun e2 => ho (by rw [e, e2])))
theorem OI.stay {w wr wr1 : World} {g : Nat} {v : Value} {C : List Int} (h : OI w g wr v C) (hq : Qm wr1 g 8 C) (hk : Kept (fun k => k = g) wr wr1) : OI w g wr1 v C :=
  ⟨hq, h.qi, own_kept19 h.own hk h.off, new_low h.low hk h.gN, h.gN, h.off⟩
/-- what holds while they go -/
structure OJ (w : World) (g : Nat) (v : Value) (C : List Int) (k : Nat) (wr : World) : Prop where
  q : Qm wr g 8 (C.drop k)
  own : wr.ownsRow w.heap.size 3 1 v C.length (C.flatMap ivC)
  low : Below w.heap.size w wr
theorem drop_i (C : List Int) (k : Nat) (h : k < C.length) : C.drop k = C.getD k 0 :: C.drop (k + 1) := by
  rw [List.drop_eq_getElem_cons h, List.getD_eq_getElem?_getD, List.getElem?_eq_getElem h]; rfl

set_option maxRecDepth 100000 in
set_option maxHeartbeats 8000000 in
theorem walk (a0 : Option Addr) (len0 cap0 : Nat) (jobs : List Int) (w : World) (hjobs : IvsI w a0 len0 cap0 jobs) :
    Calls Try.prog 5 #[.slice a0 len0 cap0] w fun e w' => e = .returned (.bool true) ∧ Below w.heap.size w w' := by
  have HW := Bx.mk hjobs.1
  have hcl := hjobs.1.le_cap
  have hcm := hjobs.1.cap_le
  unfold maxLen at hcm
  obtain ⟨J, HJ⟩ : ∃ J, Bx (jobs.take 100 = J) := ⟨_, ⟨rfl⟩⟩
  obtain ⟨g, HG⟩ : ∃ g, Bx (w.heap.size = g) := ⟨_, ⟨rfl⟩⟩
  clear hjobs
  go_enter Try.func5, Try.ntmps5
  go_wp2_with fail
  refine (new19_yes 8 (by decide) (by decide) w).mono ?_
  rintro e w1 ⟨rfl, hq1, hb1⟩
  rw [HG.out] at hq1 ⊢
  have HI0 : Bx (OI w g w1 (.slice none 0 0) []) := ⟨⟨hq1, qi_zero 8, World.ownsRow_nil _ _ _ _, hb1, Nat.le_of_eq HG.out, by intro e; cases e⟩⟩
  have HW1 := Bx.mk (HW.out.below hb1)
  clear hq1 hb1
  go_upto_if 18 with fail
  go_cut [0] from 19 to 20 (fun s wx => ∃ (a : Option Addr) (m c : Nat), s = .slice a m c ∧ Bx (Ivs w a m c J) ∧ m ≤ 100 ∧ w1 = wx)
  case first =>
    by_cases hlen : len0 ≤ 100
    · have hlI : ¬ (100 : Int) < (len0 : Int) := by omega
      have H2 : Bx (Ivs w a0 len0 cap0 J) := ⟨HW.out.list (by rw [← HJ.out]; exact (List.take_of_length_le (by rw [HW.out.len_eq]; exact hlen)).symm)⟩
      go_wp2_with fail
      go_meet
      case rel => exact ⟨_, _, _, rfl, H2, hlen, rfl⟩
    · have hlI : (100 : Int) < (len0 : Int) := by omega
      have H2 := Bx.mk (HW.out.take 100 (by omega))
      rw [HJ.out] at H2
      have hc1 : (100 : Int) ≤ (cap0 : Int) := by omega
      obtain ⟨b, off, e, _, _⟩ := HW.out.iv 0 (by omega) 0
      subst e
      go_wp2_with fail
      go_meet
      case rel => exact ⟨_, _, _, rfl, H2, Nat.le_refl _, rfl⟩
  case rest =>
    obtain ⟨a, m, c, rfl, HA, hm, rfl⟩ := hcut
    clear HW hcl hcm HJ HW1
    have HLEN : Bx (J.length = m) := ⟨HA.out.len_eq⟩
    go_wp2_with fail
    go_loopw [5, 6] (fun v i wr => ∃ (k : Nat) (C : List Int), k ≤ m ∧ i = .int .i64 k ∧ Bx (OI w g wr v C)) (fun _ i _ => m - (intOf i).toNat)
    case atStart => exact ⟨0, [], Nat.zero_le _, rfl, HI0⟩
    case round =>
      clear HI0
      obtain ⟨k, C, hk, rfl, HI⟩ := hrel
      obtain ⟨v, hv⟩ : ∃ x, x = u5 := ⟨_, rfl⟩
      subst hv
      by_cases hlt : k < m
      · have hkI : (k : Int) < (m : Int) := by omega
        obtain ⟨b1, o1, rfl, _, x0⟩ := (HA.out.below HI.out.low).iv k hlt 0
        obtain ⟨j, HJK⟩ : ∃ j, Bx (J.getD k 0 = j) := ⟨_, ⟨rfl⟩⟩
        rw [HJK.out] at x0
        go_wp2_with fail
        refine (put19_any g 8 C j _ HI.out.q (by decide) (by decide) HI.out.qi.le).mono ?_
        rintro e w2 ⟨rfl, hq2, hk2⟩
        have HQI := Bx.mk (HI.out.qi.put j)
        rcases qp_ways C j with ⟨er, hr, he⟩ | hr
        · rw [hr] at hq2 ⊢
          have HI2 := Bx.mk (HI.out.stay hq2 hk2)
          clear hq2 hk2 hr x0
          go_wp2_with fail
          go_roundw
          case rel => exact ⟨k + 1, C, by omega, by go_num, HI2⟩
          case measure => simp [intOf]; omega
        · rw [hr] at hq2 HQI ⊢
          have hlow := new_low HI.out.low hk2 HI.out.gN
          have hown := own_kept19 HI.out.own hk2 HI.out.off
          obtain ⟨_, _, e1, _, y0⟩ := (HA.out.below hlow).iv k hlt 0
          cases e1
          rw [HJK.out] at y0
          have hbA : Below w2.heap.size w2 (w2.alloc (.cells #[.int .i64 j] 3)) := (Below.refl _ _).alloc (Nat.le_refl _) _
          have HNW := Bx.mk (World.news_of_block (heap_alloc_new w2 (.cells #[.int .i64 j] 3)))
          have HO3 := Bx.mk (owns_below hown hbA)
          have HQ3 := Bx.mk (hq2.below hbA)
          have HB3 := Bx.mk (bstep hlow hbA)
          have HNS := Bx.mk HB3.out.size
          have hcl8 := HI.out.qi.le
          have HOF := Bx.mk HI.out.off
          have HGN := Bx.mk HI.out.gN
          obtain ⟨i0, hi, hz0, hz1, hz2⟩ := info_parts Try.infoI21
          clear hbA hq2 hk2 hr x0 hlow hown HI
          go_wp2_with (at_builtin; refine wpList_append_at rfl _ _ 36 rfl w.heap.size 3 i0 (.int .i64 0) 1 8 Try.underlying36 hi hz0 hz1 hz2 rfl (by decide) _ C.length (C.flatMap ivC) rfl HO3.out ⟨w2.heap.size, 0, none⟩ 1 1 [.int .i64 j] rfl rfl HNW.out (by simp [Value.oneCell']) (by decide) (by unfold maxLen; omega) (by omega) HNS.out ?_)
          intro v1 w4 ho1 hg1 ha1
          generalize w2.alloc (.cells #[.int .i64 j] 3) = w3 at HQ3 HB3 HNS hg1 ha1 ⊢
          have hgl := HQ3.out.lt
          have HI4 : Bx (OI w g w4 v1 (C ++ [j])) := ⟨⟨HQ3.out.keep (hg1.block g hgl (fun e => HOF.out e.symm)), HQI.out, by rw [List.length_append, List.flatMap_append]; exact ho1, HB3.out.grown hg1 HNS.out (fun i e => (HO3.out.lt i e).1), HGN.out, by
            rcases ha1 with e | e
            · rw [e]; exact HOF.out
            · rw [e]; intro x; cases x; exact absurd hgl (Nat.lt_irrefl _)⟩⟩
          clear ho1 hg1 ha1 hi hz0 hz1 hz2 HQ3 HB3 HNS HO3 HNW y0 hgl
          go_wp2_with fail
          go_roundw
          case rel => exact ⟨k + 1, C ++ [j], by omega, by go_num, HI4⟩
          case measure => simp [intOf]; omega
      · have hkI : ¬ (k : Int) < (m : Int) := by omega
        obtain ⟨aC, cC, rfl, hIv⟩ := Ls.of_owns ivC_len HI.out.own rfl
        have HND := Bx.mk HI.out.qi.nd
        have HOF := Bx.mk HI.out.off
        have HGN := Bx.mk HI.out.gN
        have hc8 := HI.out.qi.le
        have hc8i : ¬ (8 : Int) < (C.length : Int) := by omega
        clear hIv hlt hk HA HLEN
        go_wp2_with fail
        refine (len_yes HI.out.q (by decide)).mono ?_
        rintro e w2 ⟨rfl, hb2⟩
        have HJ0 : Bx (OJ w g (.slice aC C.length cC) C 0 w2) := ⟨⟨HI.out.q.below hb2, owns_below HI.out.own hb2, bstep HI.out.low hb2⟩⟩
        obtain ⟨n, HN⟩ : ∃ n, Bx (C.length = n) := ⟨_, ⟨rfl⟩⟩
        rw [HN.out] at hc8 hc8i HOF HJ0 ⊢
        have hnn : ((n : Int) != (n : Int)) = false := by simp
        clear hb2 HI
        go_wp2_with fail
        go_loopw [7] (fun i wr => ∃ k : Nat, k ≤ n ∧ i = .int .i64 k ∧ Bx (OJ w g (.slice aC n cC) C k wr)) (fun i _ => n - (intOf i).toNat)
        case atStart => exact ⟨0, Nat.zero_le _, rfl, HJ0⟩
        case round =>
          clear HJ0
          obtain ⟨k, hk, rfl, HJJ⟩ := hrel
          by_cases hlt : k < n
          · have hkI : (k : Int) < (n : Int) := by omega
            have HDR := Bx.mk (drop_i C k (by rw [HN.out]; exact hlt))
            obtain ⟨j, HJK⟩ : ∃ j, Bx (C.getD k 0 = j) := ⟨_, ⟨rfl⟩⟩
            rw [HJK.out] at HDR
            have HQ := Bx.mk HJJ.out.q
            have HNJ : Bx ((j :: C.drop (k + 1)).Nodup) := ⟨by rw [← HDR.out]; exact HND.out.sublist (List.drop_sublist _ _)⟩
            have HDF := Bx.mk (done_first HNJ.out)
            rw [HDR.out] at HQ
            go_wp2_with fail
            refine (first_yes HQ.out (by decide)).mono ?_
            rintro e w3 ⟨rfl, hb3⟩
            rw [show (j :: C.drop (k + 1)).getD 0 0 = j from rfl, show decide (0 < (j :: C.drop (k + 1)).length) = true from by simp]
            have HQ3 := Bx.mk (HQ.out.below hb3)
            have HO3 := Bx.mk (owns_below HJJ.out.own hb3)
            have HB3 := Bx.mk (bstep HJJ.out.low hb3)
            clear hb3 HQ HJJ
            obtain ⟨_, _, e1, hIv⟩ := Ls.of_owns ivC_len HO3.out rfl
            rw [HN.out] at e1 hIv
            cases e1
            obtain ⟨b1, o1, rfl, _, x0⟩ := hIv.iv k hlt 0
            rw [HJK.out] at x0
            have hjj : (j != j) = false := by simp
            clear hIv
            go_wp2_with fail
            refine (done19_any g 8 _ j _ HQ3.out (by decide) HNJ.out).mono ?_
            rintro e w4 ⟨rfl, hq4, hk4⟩
            rw [HDF.out.1] at hq4 ⊢
            have HQ4 := Bx.mk hq4
            have HO4 := Bx.mk (own_kept19 HO3.out hk4 HOF.out)
            have HB4 := Bx.mk (new_low HB3.out hk4 HGN.out)
            clear hq4 hk4 HQ3 HO3 HB3 x0
            go_wp2_with fail
            refine (done19_any g 8 _ j _ HQ4.out (by decide) (List.nodup_cons.1 HNJ.out).2).mono ?_
            rintro e w5 ⟨rfl, hq5, hk5⟩
            rw [HDF.out.2] at hq5 ⊢
            have HJ5 : Bx (OJ w g (.slice (some ⟨b1, o1, none⟩) n cC) C (k + 1) w5) := ⟨⟨hq5, own_kept19 HO4.out hk5 HOF.out, new_low HB4.out hk5 HGN.out⟩⟩
            clear hq5 hk5 HQ4 HO4 HB4
            go_wp2_with fail
            go_roundw
            case rel => exact ⟨k + 1, by omega, by go_num, HJ5⟩
            case measure => simp [intOf]; omega
          · have hkI : ¬ (k : Int) < (n : Int) := by omega
            have HQ := Bx.mk HJJ.out.q
            rw [List.drop_eq_nil_of_le (by rw [HN.out]; omega)] at HQ
            go_wp2_with fail
            refine (len_yes HQ.out (by decide)).mono ?_
            rintro e w3 ⟨rfl, hb3⟩
            have HB3 := Bx.mk (bstep HJJ.out.low hb3)
            clear hb3
            go_wp2_with fail
            refine (lives19_any _).mono ?_
            rintro e wL ⟨rfl, hbL⟩
            have hfin := bstep HB3.out hbL
            clear hbL
            go_wp2_with fail
            go_ret
            exact ⟨rfl, hfin⟩

set_option maxRecDepth 100000 in
theorem lifted (os : Os) (started : os.Started) (H : Type) (enc : TypeId × Value → H) :
    ReturnsInHanded {} Try.checked os 5 .any (Rows.queueOrderSpec.pre6 enc Try.prog Try.f5 Rows.queueOrderRow.domain false) (Rows.queueOrderSpec.post enc Try.prog Try.f5 false true false false) := by
  refine returnsInHanded_of_change (C := Try.checked) own started (by kernel_rfl) Try.func5
    (ChangeSpec.witness6 (enc := enc) (C := Try.checked) false ⟨#[], #[.slice none 0 0], []⟩ 8 (by kernel_rfl) (by kernel_rfl) (by kernel_rfl) (by kernel_rfl)) ?_
  intro W base args ds gs before hval0 hW hcnd _
  have hval : ∀ (j : Nat) t v, Try.f5.params[j]? = some t → args[j]? = some v → Value.okWide Try.prog W .any base t v := hval0
  have hW' := hW
  obtain ⟨p, q, hA0, hV, rfl, hfz, hnd⟩ := hW
  have hA : DataW.TrodAll enc Try.prog W 0 (fun _ => true) true Try.f5.params.toList args.toList ds p := hA0
  rw [Try.params5] at hA hval
  obtain ⟨v0, vs0, d0, ds0, p0, q0, hargs, rfl, rfl, h0, r0⟩ := trodAll_cons hA
  obtain ⟨rfl, rfl, rfl⟩ := trodAll_nil r0
  obtain rfl : args = #[v0] := by cases args; simp_all
  obtain ⟨rfl, rfl⟩ := trodVars_none hV
  obtain ⟨a0, len0, cap0, rfl⟩ := okWide_slice Try.underlying36 (hval 0 36 v0 rfl rfl)
  have k0 := h0
  have lt0 : ∀ x ∈ p0, x.block < W.heap.size := by obtain ⟨m, hm⟩ := k0; exact DataW.trod_lt m _ _ _ hm
  obtain ⟨jobs, hjobs⟩ := open_ivs h0
  clear hA0 hval0
  refine (walk a0 len0 cap0 jobs W hjobs).mono fun e W' ⟨he, bel⟩ => ?_
  subst he
  exact ⟨_, rfl, _, _, _, [], _, [], hW', trodAll_mk1 (shut_bool Try.underlying4 _), (trodAll_cons_mk (Below.trod laidOut (by kernel_rfl) (of_decide_eq_true (by kernel_rfl)) k0 bel lt0) trodAll_mk0), rfl, bel.frame _, fun h => by cases h⟩

theorem over : Rows.queueOrderRow.holds Try.pinned (OpenSpec.ofChange Rows.queueOrderSpec) :=
  OpenClaim.holds_of_wide 5 Try.f5 rfl rfl rfl rfl rfl rfl rfl ⟨rfl, rfl, rfl, rfl, rfl⟩ rfl rfl rfl rfl rfl (by kernel_rfl) Try.func5 (by kernel_rfl)
    (of_decide_eq_true (by kernel_rfl)) (by unfold Func.isWrapper; first | (rw [if_pos (by decide +kernel)]; kernel_rfl) | (rw [if_neg (by decide +kernel)]; exact ⟨rfl, rfl⟩))
    (fun os started H enc _ => lifted os started H enc)

/-- the statement -/
theorem proved : Rows.QueueOrderSaid := over
end Go.Proofs.Ytedingegmiacmaa.queueOrder
namespace Go.Proofs.Ytedingegmiacmaa
theorem queueOrder_holds : Rows.QueueOrderSaid := queueOrder.proved
#print axioms queueOrder_holds
end Go.Proofs.Ytedingegmiacmaa
