/- CodeWays: along any way through code that fits together the stack is at each place as deep as Depths says. -/
import Derived.Test.YtcghebgdieilgaaRows
import Derived.Test.YtcghebgdieilgaaInsIn
import Derived.Test.YtcghebgdieilgaaCLiv
import Derived.Test.YtcghebgdieilgaaCFew
import Derived.WalkKit
import Derived.ProofKit
import Derived.OpenShut
import Derived.ShutString
import Derived.ChangeOld
import Derived.Below
namespace Go.Proofs.Ytcghebgdieilgaa.codeWays
open Go.ChangeShapes Go.WideShapes Go.ChangeAt Go.RowKit
open Go.ChangeMaps (open_string shut_string)
set_option linter.unusedVariables false

theorem own : ownKnob Try.prog.godebug = none := by kernel_rfl
theorem laidOut : laidOutB Try.prog = true := by kernel_rfl

theorem th_op {o : Int} (h : isO o = true) : (thO o = 0 → (o == 16) = false ∧ (o == 17) = false ∧ (o == 18) = false ∧ (o == 19) = false) ∧ (thO o = 1 → o = 16) ∧ (thO o = 2 → o = 17) ∧ (thO o = 3 → o = 18 ∨ o = 19) := by
  rcases op_cases h with h | h | h | h | h | h | h | h | h | h | h | h | h | h | h | h | h | h | h | h <;> subst h <;> decide

set_option maxRecDepth 100000 in
set_option maxHeartbeats 4000000 in
theorem walk (a0 : Option Addr) (len0 cap0 : Nat) (l : List Ic) (a1 : Option Addr) (len1 cap1 : Nat) (K : List Bool) (w : World) (hl : IcsI w a0 len0 cap0 l) (hK : Bls w a1 len1 cap1 K) :
    Calls Try.prog 7 #[.slice a0 len0 cap0, .slice a1 len1 cap1] w fun e w' => e = .returned (.bool true) ∧ Below w.heap.size w w' := by
  have HL := Bx.mk hl.1
  have HWY := Bx.mk hK
  clear hl hK
  go_enter Try.func7, Try.ntmps7
  go_wp2_with fail
  refine (few15_any a0 len0 cap0 l _ HL.out).mono ?_
  rintro e w1 ⟨v1, rfl, ho1, hb1⟩
  obtain ⟨L, HLL⟩ : ∃ L, Bx (l.take 210 = L) := ⟨_, ⟨rfl⟩⟩
  rw [HLL.out] at ho1
  obtain ⟨a2, c2, rfl, hE1⟩ := Ls.of_owns icC_len ho1 rfl
  have HE1 := Bx.mk hE1
  have HB1 := Bx.mk hb1
  clear ho1 hE1 hb1
  go_wp2_with fail
  refine (check15_any a2 L.length c2 L _ HE1.out).mono ?_
  rintro e w2 ⟨rfl, hb2⟩
  have HE2 := Bx.mk (HE1.out.below hb2)
  have HB2 := Bx.mk (bstep HB1.out hb2)
  clear hb2 HE1 HB1
  by_cases hok : (thr L).2.2 = 0
  · have HFL := Bx.mk (thr_flow hok)
    rw [hok]
    generalize (thr L).2.1 = pl
    clear hok
    go_wp2_with fail
    refine (depths_any a2 L.length c2 L _ HE2.out).mono ?_
    rintro e w3 ⟨v3, rfl, ho3, hb3⟩
    generalize (thr L).1 = D at HFL ho3
    have HDL : Bx (D.length = L.length) := ⟨HFL.out.2.2.2.dl⟩
    rw [HDL.out] at ho3
    obtain ⟨a3, c3, rfl, hD3⟩ := Ls.of_owns ivC_len ho3 HDL.out
    have HD3 := Bx.mk hD3
    have HE3 := Bx.mk (HE2.out.below hb3)
    have HB3 := Bx.mk (bstep HB2.out hb3)
    have hn1 := HFL.out.1
    have hn2 := HFL.out.2.1
    have hqq : (((L.length : Nat) : Int) != ((L.length : Nat) : Int)) = false := by simp
    clear ho3 hD3 hb3 HE2 HB2
    go_wp2_with fail
    clear hqq
    go_loopw [8, 9, 10] (fun at' dp n wr => ∃ (q k : Nat) (d : Int), q < L.length ∧ k ≤ 500 ∧ 0 ≤ d ∧ d ≤ 8 ∧ at' = .int .i64 q ∧ dp = .int .i64 d ∧ n = .int .i64 k ∧ Bx (D.getD q (-1) = d) ∧ Bx (Below w3.heap.size w3 wr)) (fun _ _ n _ => 500 - (intOf n).toNat)
    case atStart => exact ⟨0, 0, 0, by omega, by omega, by omega, by omega, rfl, rfl, rfl, ⟨HFL.out.2.2.2.d0⟩, ⟨Below.refl _ _⟩⟩
    case round =>
      obtain ⟨q, k, d, hq, hk, hd0, hd8, rfl, rfl, rfl, HD, HBR⟩ := hrel
      by_cases hlt : k < 500
      · have hkI : (k : Int) < 500 := by omega
        have hqI : (q : Int) < ((L.length : Nat) : Int) := by omega
        have hqI2 : ¬ ((L.length : Nat) : Int) ≤ (q : Int) := by omega
        have hqd : decide (L.length ≤ q) = false := by simp; omega
        obtain ⟨b3, o3, rfl, _, y0⟩ := (HD3.out.below HBR.out).iv q hq (-1)
        rw [HD.out] at y0
        obtain ⟨b2, o2, rfl, hbl, x0, x1⟩ := (HE3.out.below HBR.out).ic q hq
        have hcan := HFL.out.2.2.1 q hq
        have his := canI_is hcan
        have hpl := canI_place hcan
        have HGO := Bx.mk (HFL.out.2.2.2.go hq his hd0 HD.out)
        have hthb := tbl_bd his
        have hto := th_op his
        have htp := th_place his
        have htk := tkA_is his
        have hpt := ptA_is his
        generalize L.getD q ic0 = x at x0 x1 his hpl HGO hthb hto htp htk hpt
        obtain ⟨o, n⟩ := x
        simp only at x0 x1 his hpl HGO hthb hto htp htk hpt
        generalize thO o = th at HGO hthb hto htp
        rw [← htk] at HGO hthb
        rw [← hpt] at HGO hthb
        obtain ⟨tk, HTK⟩ : ∃ tk, Bx (tkA o = tk) := ⟨_, ⟨rfl⟩⟩
        obtain ⟨pt, HPT⟩ : ∃ pt, Bx (ptA o = pt) := ⟨_, ⟨rfl⟩⟩
        rw [HTK.out, HPT.out] at HGO hthb
        clear htk hpt
        have hg1 := HGO.out.1
        have hg2 := HGO.out.2.1
        have hdq : (d != d) = false := by simp
        obtain ⟨g, HG⟩ : ∃ g, Bx (g = wr.heap.size) := ⟨_, ⟨rfl⟩⟩
        have hba : Below wr.heap.size wr (wr.alloc (.cells #[.int .i64 o, .int .i64 n] 52)) := (Below.refl _ _).alloc (Nat.le_refl _) _
        have hra := heap_alloc_new wr (.cells #[.int .i64 o, .int .i64 n] 52)
        rw [← HG.out] at hra
        have HRA := Bx.mk hra
        have HB4 := Bx.mk (bstep HBR.out hba)
        clear hba hra hcan HBR
        go_upto_region 15 with fail
        rw [← HG.out]
        generalize wr.alloc (.cells #[.int .i64 o, .int .i64 n] 52) = w4 at HRA HB4 ⊢
        clear x0 x1 y0 hbl hdq hqd
        have k0 := cell_of_row _ g 0 _ _ (0, 0) HRA.out
        have k1 := cell_of_row _ g 1 _ _ (0, 0) HRA.out
        go_upto_region 21 with (first | (go_at_call 9; refine (takes_any _ _).mono ?_; rintro e wz ⟨rfl, hw⟩; replace hw := hw.symm; subst hw; rw [HTK.out]) | (go_at_call 11; refine (puts_any _ _).mono ?_; rintro e wz ⟨rfl, hw⟩; replace hw := hw.symm; subst hw; rw [HPT.out]))
        obtain ⟨r, HR⟩ : ∃ r, Bx (d - tk + pt = r) := ⟨_, ⟨rfl⟩⟩
        rw [HR.out]
        rw [HR.out] at HGO
        have hr0 : 0 ≤ r ∧ r ≤ 8 := by rw [← HR.out]; omega
        by_cases t0 : th = 0
        · subst t0
          obtain ⟨q16, q17, q18, q19⟩ := hto.1 rfl
          obtain ⟨hq1, HD1⟩ : q + 1 < L.length ∧ Bx _ := ⟨(HGO.out.2.2.1 (.inl rfl)).1, ⟨(HGO.out.2.2.1 (.inl rfl)).2⟩⟩
          clear hto htp hpl his
          go_wp2_with fail
          go_roundw
          case rel => exact ⟨q + 1, k + 1, r, hq1, by omega, hr0.1, hr0.2, by go_num, rfl, by go_num, HD1, HB4⟩
          case measure => simp [intOf]; omega
        by_cases t1 : th = 1
        · subst t1
          have ho := hto.2.1 rfl
          subst ho
          obtain ⟨t, rfl⟩ : ∃ t : Nat, n = (t : Int) := ⟨n.toNat, by have := hpl (htp.1 (.inl rfl)); omega⟩
          obtain ⟨hq1, HD1⟩ : t < L.length ∧ Bx (D.getD t (-1) = r) := ⟨by have := (HGO.out.2.2.2 (.inl rfl)).1; simpa using this, ⟨by have := (HGO.out.2.2.2 (.inl rfl)).2; simpa using this⟩⟩
          clear hto htp hpl his t0
          go_wp2_with fail
          go_roundw
          case rel => exact ⟨t, k + 1, r, hq1, by omega, hr0.1, hr0.2, rfl, rfl, by go_num, HD1, HB4⟩
          case measure => simp [intOf]; omega
        by_cases t2 : th = 2
        · subst t2
          have ho := hto.2.2.1 rfl
          subst ho
          obtain ⟨t, rfl⟩ : ∃ t : Nat, n = (t : Int) := ⟨n.toNat, by have := hpl (htp.1 (.inr rfl)); omega⟩
          obtain ⟨hq1, HD1⟩ : t < L.length ∧ Bx (D.getD t (-1) = r) := ⟨by have := (HGO.out.2.2.2 (.inr rfl)).1; simpa using this, ⟨by have := (HGO.out.2.2.2 (.inr rfl)).2; simpa using this⟩⟩
          obtain ⟨hq2, HD2⟩ : q + 1 < L.length ∧ Bx _ := ⟨(HGO.out.2.2.1 (.inr rfl)).1, ⟨(HGO.out.2.2.1 (.inr rfl)).2⟩⟩
          clear hto htp hpl his t0 t1
          have hwl := Nat.le_trans HWY.out.le_cap HWY.out.cap_le
          unfold maxLen at hwl
          by_cases hw0 : len1 = 0
          · subst hw0
            go_wp2_with fail
            go_roundw
            case rel => exact ⟨q + 1, k + 1, r, hq2, by omega, hr0.1, hr0.2, by go_num, rfl, by go_num, HD2, HB4⟩
            case measure => simp [intOf]; omega
          · have hwI : (0 : Int) < (len1 : Int) := by omega
            have hwd : decide ((0 : Int) < (len1 : Int)) = true := by simpa using hwI
            obtain ⟨j, HJ⟩ : ∃ j : Nat, Bx (k % len1 = j) := ⟨_, ⟨rfl⟩⟩
            have hj : j < len1 := by rw [← HJ.out]; exact Nat.mod_lt _ (by omega)
            have hjm : (k : Int) % (len1 : Int) = (j : Int) := by rw [← HJ.out]; omega
            have hjI : (j : Int) < (len1 : Int) := by omega
            obtain ⟨bw, ow, rfl, _, hcw⟩ := ((HWY.out.below HB3.out).below HB4.out).spot (by omega)
            have hjK : j < K.length := by rw [HWY.out.len_eq]; exact hj
            have z0 := hcw j hjK 0 (by decide)
            rw [Nat.mul_one, Nat.add_zero] at z0
            replace z0 : w4.cell? ⟨bw, ow + j, none⟩ = some (.bool (K.getD j true)) := by rw [z0, List.getD_eq_getElem?_getD, List.getElem?_eq_getElem hjK]; rfl
            generalize K.getD j true = kb at z0
            clear hcw hjK
            cases kb with
            | true =>
              go_wp2_with fail
              go_roundw
              case rel => exact ⟨t, k + 1, r, hq1, by omega, hr0.1, hr0.2, rfl, rfl, by go_num, HD1, HB4⟩
              case measure => simp [intOf]; omega
            | false =>
              go_wp2_with fail
              go_roundw
              case rel => exact ⟨q + 1, k + 1, r, hq2, by omega, hr0.1, hr0.2, by go_num, rfl, by go_num, HD2, HB4⟩
              case measure => simp [intOf]; omega
        · have t3 : th = 3 := by omega
          have ho := hto.2.2.2 t3
          have hq3 : (o == 18) = true ∨ ((o == 18) = false ∧ (o == 19) = true) := by rcases ho with e | e <;> subst e <;> simp
          clear hto htp hpl his t0 t1 t2 t3 ho
          have HB5 := Bx.mk (bstep HB3.out HB4.out)
          rcases hq3 with h18 | ⟨h18, h19⟩
          · go_wp2_with fail
            refine (lives15_any _).mono ?_
            rintro e wL ⟨rfl, hbL⟩
            have hfin := bstep HB5.out hbL
            go_wp2_with fail
            go_ret
            exact ⟨rfl, hfin⟩
          · go_wp2_with fail
            refine (lives15_any _).mono ?_
            rintro e wL ⟨rfl, hbL⟩
            have hfin := bstep HB5.out hbL
            go_wp2_with fail
            go_ret
            exact ⟨rfl, hfin⟩
      · have hkI : ¬ (k : Int) < 500 := by omega
        have HB5 := Bx.mk (bstep HB3.out HBR.out)
        go_wp2_with fail
        refine (lives15_any _).mono ?_
        rintro e wL ⟨rfl, hbL⟩
        have hfin := bstep HB5.out hbL
        go_wp2_with fail
        go_ret
        exact ⟨rfl, hfin⟩
  · have HE0 := Bx.mk (thr_err hok)
    have hq : ((thr L).2.2 != 0) = true := by simpa using hok
    generalize (thr L).2.1 = pl
    generalize (thr L).2.2 = er at hq
    clear hok
    go_wp2_with fail
    refine (depths_any a2 L.length c2 L _ HE2.out).mono ?_
    rintro e w3 ⟨v3, rfl, ho3, hb3⟩
    rw [HE0.out] at ho3
    obtain ⟨a3, c3, rfl, _⟩ := Ls.of_owns ivC_len ho3 rfl
    have HB3 := Bx.mk (bstep HB2.out hb3)
    simp only [List.length_nil]
    clear ho3 hb3
    go_wp2_with fail
    refine (lives15_any _).mono ?_
    rintro e wL ⟨rfl, hbL⟩
    have hfin := bstep HB3.out hbL
    go_wp2_with fail
    go_ret
    exact ⟨rfl, hfin⟩

set_option maxRecDepth 100000 in
theorem lifted (os : Os) (started : os.Started) (H : Type) (enc : TypeId × Value → H) :
    ReturnsInHanded {} Try.checked os 7 .any (Rows.codeWaysSpec.pre6 enc Try.prog Try.f7 Rows.codeWaysRow.domain false) (Rows.codeWaysSpec.post enc Try.prog Try.f7 false true false false) := by
  refine returnsInHanded_of_change (C := Try.checked) own started (by kernel_rfl) Try.func7
    (ChangeSpec.witness6 (enc := enc) (C := Try.checked) false ⟨#[], #[.slice none 0 0, .slice none 0 0], []⟩ 8 (by kernel_rfl) (by kernel_rfl) (by kernel_rfl) (by kernel_rfl)) ?_
  intro W base args ds gs before hval0 hW hcnd _
  have hval : ∀ (j : Nat) t v, Try.f7.params[j]? = some t → args[j]? = some v → Value.okWide Try.prog W .any base t v := hval0
  have hW' := hW
  obtain ⟨p, q, hA0, hV, rfl, hfz, hnd⟩ := hW
  have hA : DataW.TrodAll enc Try.prog W 0 (fun _ => true) true Try.f7.params.toList args.toList ds p := hA0
  rw [Try.params7] at hA hval
  obtain ⟨v0, vs0, d0, ds0, p0, q0, hargs, rfl, rfl, h0, r0⟩ := trodAll_cons hA
  obtain ⟨v1, vs1, d1, ds1, p1, q1, rfl, rfl, rfl, h1, r1⟩ := trodAll_cons r0
  obtain ⟨rfl, rfl, rfl⟩ := trodAll_nil r1
  obtain rfl : args = #[v0, v1] := by cases args; simp_all
  obtain ⟨rfl, rfl⟩ := trodVars_none hV
  obtain ⟨a0, len0, cap0, rfl⟩ := okWide_slice Try.underlying25 (hval 0 25 v0 rfl rfl)
  obtain ⟨a1, len1, cap1, rfl⟩ := okWide_slice Try.underlying50 (hval 1 50 v1 rfl rfl)
  have k0 := h0
  have lt0 : ∀ x ∈ p0, x.block < W.heap.size := by obtain ⟨m, hm⟩ := k0; exact DataW.trod_lt m _ _ _ hm
  have k1 := h1
  have lt1 : ∀ x ∈ p1, x.block < W.heap.size := by obtain ⟨m, hm⟩ := k1; exact DataW.trod_lt m _ _ _ hm
  obtain ⟨l, hl⟩ := open_ics h0
  obtain ⟨K, hK⟩ := open_bls h1
  clear hA0 hval0
  refine (walk a0 len0 cap0 l a1 len1 cap1 K W hl hK).mono fun e W' ⟨he, bel⟩ => ?_
  subst he
  exact ⟨_, rfl, _, _, _, [], _, [], hW', trodAll_mk1 (shut_bool Try.underlying4 _), (trodAll_cons_mk (Below.trod laidOut (by kernel_rfl) (of_decide_eq_true (by kernel_rfl)) k0 bel lt0) (trodAll_cons_mk (Below.trod laidOut (by kernel_rfl) (of_decide_eq_true (by kernel_rfl)) k1 bel lt1) trodAll_mk0)), rfl, bel.frame _, fun h => by cases h⟩

theorem over : Rows.codeWaysRow.holds Try.pinned (OpenSpec.ofChange Rows.codeWaysSpec) :=
  OpenClaim.holds_of_wide 7 Try.f7 rfl rfl rfl rfl rfl rfl rfl ⟨rfl, rfl, rfl, rfl, rfl⟩ rfl rfl rfl rfl rfl (by kernel_rfl) Try.func7 (by kernel_rfl)
    (of_decide_eq_true (by kernel_rfl)) (by unfold Func.isWrapper; first | (rw [if_pos (by decide +kernel)]; kernel_rfl) | (rw [if_neg (by decide +kernel)]; exact ⟨rfl, rfl⟩))
    (fun os started H enc _ => lifted os started H enc)

/-- the statement -/
theorem proved : Rows.CodeWaysSaid := over
end Go.Proofs.Ytcghebgdieilgaa.codeWays
namespace Go.Proofs.Ytcghebgdieilgaa
theorem codeWays_holds : Rows.CodeWaysSaid := codeWays.proved
#print axioms codeWays_holds
end Go.Proofs.Ytcghebgdieilgaa
