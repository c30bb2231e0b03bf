/- For every entry and every two numbers the law LedgerNobody returns true and what came in reads as it did (P21.2, P21.3): what a ledger answers that no call made. The package's table is as the program's text lays it (the card ties it). -/
import Derived.Test.YtbednfacipphhaaDoorDoor
import Derived.Test.YtbednfacipphhaaDoorAuax
import Derived.Test.YtbednfacipphhaaDoorLdLives
import Derived.Test.YtbednfacipphhaaDoorEnIn
import Derived.Test.YtbednfacipphhaaDoorEnCut
import Derived.Test.YtbednfacipphhaaDoorHdEq
import Derived.WalkKit
import Derived.ShutString
import Derived.ChangeOld
import Derived.Below
namespace Go.Proofs.YtbednfacipphhaaDoor.ledgerNobody
open Go.ChangeShapes Go.WideShapes Go.ChangeAt Go.RowKit
open Go.ChangeMaps (open_string shut_string)
set_option linter.unusedVariables false

theorem laidOut : laidOutB Tryd.prog = true := by kernel_rfl

theorem nolg_nil (w : World) : NoLg w none := .inl rfl
/-- an empty ledger's cells -/
def lz : Array Value := (.bool false :: .slice none 0 0 :: (List.replicate 64 (.slice none 0 0) ++ [.int .i64 0]) : List Value).toArray
theorem lz_build : ∀ W : World, (Instr.build 77 #[]).run Tryd.prog W = .ok (.agg lz) W := fun W => by kernel_rfl
theorem nolg_new (w : World) : NoLg (w.alloc (.cells lz 77)) (some ⟨w.heap.size, 0, none⟩) := .inr ⟨_, lz, rfl, heap_alloc_new _ _, rfl⟩
theorem wpList_build_lz {ops : Array Oper} {rest : List Oper} {o : Oper} {a : Act} {w : World} {Q : Exit → Act → World → Prop} (hgd : o.guard = none) (ho : o.op = .build 77 #[])
    (h : wpList Tryd.prog ops Q rest (a.put o.dst (.agg lz)) w) : wpList Tryd.prog ops Q (o :: rest) a w :=
  wpList_plain hgd fun K hK => by
    unfold Oper.wp execOp
    simp [ho, lz_build]
    exact hK _ _ h

set_option maxRecDepth 100000 in
set_option maxHeartbeats 1000000 in
theorem walk (e : En) (ea0 : Option Addr) (el0 ec0 : Nat) (i : Int) (n : Int) (w : World) (he : EnI w e ea0 el0 ec0) (hi : -9223372036854775808 ≤ i ∧ i ≤ 9223372036854775807) (hn : -9223372036854775808 ≤ n ∧ n ≤ 9223372036854775807) (htab : Tab w) :
    Calls Tryd.prog 8 #[.agg (enA e ea0 el0 ec0), .int .i64 i, .int .i64 n] w fun e w' => e = .returned (.bool true) ∧ Below w.heap.size w w' := by
  have HT := Bx.mk htab
  have HE := Bx.mk he
  have hb0 : Below w.heap.size w (w.alloc (.cells (enA e ea0 el0 ec0) 35)) := (Below.refl _ _).alloc (Nat.le_refl _) _
  have HR := Bx.mk (EnB.new (a := ea0) (n := el0) (c := ec0) w he.dig)
  have HB := Bx.mk hb0
  obtain ⟨g0, HG⟩ : ∃ g0, Bx (g0 = w.heap.size) := ⟨_, ⟨rfl⟩⟩
  rw [← HG.out] at HR
  clear hb0 he htab
  go_enter Tryd.func8, Tryd.ntmps8
  go_upto_region 1 with fail
  rw [← HG.out]
  generalize w.alloc (.cells (enA e ea0 el0 ec0) 35) = w0 at HR HB ⊢
  go_wp2_with fail
  go_loopw [7] (fun k wr => (k = .int .i64 0 ∨ k = .int .i64 1 ∨ k = .int .i64 2) ∧ Bx (EnB wr g0 e ea0 el0 ec0) ∧ Bx (Below w.heap.size w wr)) (fun k _ => 2 - (intOf k).toNat)
  case atStart => exact ⟨.inl rfl, HR, HB⟩
  case round =>
    clear HR HB
    obtain ⟨hk, HR, HB⟩ := hrel
    rcases hk with rfl | rfl | rfl
    · have HP := Bx.mk (nolg_nil wr)
      have HR2 := HR
      have HB2 := HB
      clear HR HB
      go_wp2_with fail
      refine (text21_no _ i _ HP.out).mono ?_
      rintro x wz ⟨rfl, hwz⟩
      subst hwz
      go_wp2_with fail
      refine (head21_no _ n _ HP.out).mono ?_
      rintro x w1 ⟨rfl, hb1⟩
      obtain ⟨hv, hbv, hth⟩ := hd_var w1 hd0_dg
      have HTH := Bx.mk hth
      have HV1 := Bx.mk hv
      have HP1 := Bx.mk ((HP.out.below hb1).below hbv)
      have HR1 := Bx.mk ((HR2.out.below hb1).below hbv)
      have HB1 := Bx.mk (bstep (bstep HB2.out hb1) hbv)
      have HIH := Bx.mk (hdA_info hd0_dg)
      have HOH : Bx ((hdA hd0).all (·.oneCell') = true) := ⟨hdA_one⟩
      have hzv := hd0_run
      clear hv hbv hth hb1 HP HR2 HB2
      go_upto_region 9 with (refine wpList_store_mid rfl 47 (.tmp 11) (.tmp 35) rfl w1.heap.size 0 (hdA hd0) rfl rfl ?hta HIH.out HOH.out ?_; (case hta => exact HTH.out))
      clear hzv HTH HIH HOH
      obtain ⟨gh, HGH⟩ : ∃ gh, Bx (gh = w1.heap.size) := ⟨_, ⟨rfl⟩⟩
      rw [← HGH.out] at HV1 HP1 HR1 HB1 ⊢
      generalize (w1.alloc (.cells (hdA hd0) 47)).setCells gh 0 (hdA hd0).toList = w2 at HV1 HP1 HR1 HB1 ⊢
      clear HGH
      go_wp2_with fail
      refine (path21_no _ i n _ HP1.out).mono ?_
      rintro x wz ⟨rfl, hwz⟩
      subst hwz
      go_wp2_with fail
      refine (growth21_no _ i n _ HP1.out).mono ?_
      rintro x wz ⟨rfl, hwz⟩
      subst hwz
      go_wp2_with fail
      refine (size21_no _ HP1.out).mono ?_
      rintro x wz ⟨rfl, hwz⟩
      subst hwz
      go_wp2_with fail
      refine (texts21_no _ _ HP1.out).mono ?_
      rintro x wz ⟨rfl, hwz⟩
      subst hwz
      have hhe := hd_eq hd0_dg
      go_wp2_with (first
        | (refine wpList_load_hd rfl (.tmp 11) rfl rfl HV1.out ?_)
        | (refine wpList_build_hd0 rfl rfl ?_)
        | (refine wpList_load_en rfl (.tmp 3) rfl rfl HR1.out ?_))
      clear hhe
      refine (cut20_any e ea0 el0 ec0 _ (HE.out.iv.below HB1.out) HE.out.dig).mono ?_
      rintro x w3 ⟨ca, cn, cc, rfl, _, hb3⟩
      have HP3 := Bx.mk (HP1.out.below hb3)
      have HR3 := Bx.mk (HR1.out.below hb3)
      have HB3 := Bx.mk (bstep HB1.out hb3)
      clear hb3 HP1 HR1 HB1
      go_wp2_with fail
      refine (add21_no _ _ _ _ _ _ HP3.out).mono ?_
      rintro x w4 ⟨rfl, hb4⟩
      have HR4 := Bx.mk (HR3.out.below hb4)
      have HB4 := Bx.mk (bstep HB3.out hb4)
      clear hb4 HP3 HR3 HB3
      go_wp2_with fail
      go_roundw
      case rel => exact ⟨.inr (.inl rfl), HR4, HB4⟩
      case measure => simp [intOf]
    · have hbn : Below wr.heap.size wr (wr.alloc (.cells lz 77)) := (Below.refl _ _).alloc (Nat.le_refl _) _
      have HP := Bx.mk (nolg_new wr)
      have HR2 := Bx.mk (HR.out.below hbn)
      have HB2 := Bx.mk (bstep HB.out hbn)
      obtain ⟨gl, HGL⟩ : ∃ gl, Bx (gl = wr.heap.size) := ⟨_, ⟨rfl⟩⟩
      rw [← HGL.out] at HP
      clear HR HB hbn
      go_upto_region 7 with (refine wpList_build_lz rfl rfl ?_)
      rw [← HGL.out]
      generalize wr.alloc (.cells lz 77) = w5 at HP HR2 HB2 ⊢
      clear HGL
      go_wp2_with fail
      refine (text21_no _ i _ HP.out).mono ?_
      rintro x wz ⟨rfl, hwz⟩
      subst hwz
      go_wp2_with fail
      refine (head21_no _ n _ HP.out).mono ?_
      rintro x w1 ⟨rfl, hb1⟩
      obtain ⟨hv, hbv, hth⟩ := hd_var w1 hd0_dg
      have HTH := Bx.mk hth
      have HV1 := Bx.mk hv
      have HP1 := Bx.mk ((HP.out.below hb1).below hbv)
      have HR1 := Bx.mk ((HR2.out.below hb1).below hbv)
      have HB1 := Bx.mk (bstep (bstep HB2.out hb1) hbv)
      have HIH := Bx.mk (hdA_info hd0_dg)
      have HOH : Bx ((hdA hd0).all (·.oneCell') = true) := ⟨hdA_one⟩
      have hzv := hd0_run
      clear hv hbv hth hb1 HP HR2 HB2
      go_upto_region 9 with (refine wpList_store_mid rfl 47 (.tmp 11) (.tmp 35) rfl w1.heap.size 0 (hdA hd0) rfl rfl ?htb HIH.out HOH.out ?_; (case htb => exact HTH.out))
      clear hzv HTH HIH HOH
      obtain ⟨gh, HGH⟩ : ∃ gh, Bx (gh = w1.heap.size) := ⟨_, ⟨rfl⟩⟩
      rw [← HGH.out] at HV1 HP1 HR1 HB1 ⊢
      generalize (w1.alloc (.cells (hdA hd0) 47)).setCells gh 0 (hdA hd0).toList = w2 at HV1 HP1 HR1 HB1 ⊢
      clear HGH
      go_wp2_with fail
      refine (path21_no _ i n _ HP1.out).mono ?_
      rintro x wz ⟨rfl, hwz⟩
      subst hwz
      go_wp2_with fail
      refine (growth21_no _ i n _ HP1.out).mono ?_
      rintro x wz ⟨rfl, hwz⟩
      subst hwz
      go_wp2_with fail
      refine (size21_no _ HP1.out).mono ?_
      rintro x wz ⟨rfl, hwz⟩
      subst hwz
      go_wp2_with fail
      refine (texts21_no _ _ HP1.out).mono ?_
      rintro x wz ⟨rfl, hwz⟩
      subst hwz
      have hhe := hd_eq hd0_dg
      go_wp2_with (first
        | (refine wpList_load_hd rfl (.tmp 11) rfl rfl HV1.out ?_)
        | (refine wpList_build_hd0 rfl rfl ?_)
        | (refine wpList_load_en rfl (.tmp 3) rfl rfl HR1.out ?_))
      clear hhe
      refine (cut20_any e ea0 el0 ec0 _ (HE.out.iv.below HB1.out) HE.out.dig).mono ?_
      rintro x w3 ⟨ca, cn, cc, rfl, _, hb3⟩
      have HP3 := Bx.mk (HP1.out.below hb3)
      have HR3 := Bx.mk (HR1.out.below hb3)
      have HB3 := Bx.mk (bstep HB1.out hb3)
      clear hb3 HP1 HR1 HB1
      go_wp2_with fail
      refine (add21_no _ _ _ _ _ _ HP3.out).mono ?_
      rintro x w4 ⟨rfl, hb4⟩
      have HR4 := Bx.mk (HR3.out.below hb4)
      have HB4 := Bx.mk (bstep HB3.out hb4)
      clear hb4 HP3 HR3 HB3
      go_wp2_with fail
      go_roundw
      case rel => exact ⟨.inr (.inr rfl), HR4, HB4⟩
      case measure => simp [intOf]
    · go_wp2_with fail
      refine (lives21_any _).mono ?_
      rintro x w6 ⟨rfl, hb6⟩
      have HB6 := Bx.mk (bstep HB.out hb6)
      clear hb6
      go_wp2_with fail
      go_ret
      exact ⟨rfl, HB6.out⟩

set_option maxRecDepth 100000 in
/-- what the walk gives, for every argument and every world that holds the table -/
theorem contract (H : Type) (enc : TypeId × Value → H) (W : World) (base : Nat) (args : Array Value) (ds gs : List (DataW H)) (before : List MemPlace)
    (hval0 : ∀ (j : Nat) t v, Tryd.f8.params[j]? = some t → args[j]? = some v → Value.okWide Tryd.prog W .any base t v)
    (hW : DataW.Whole enc Tryd.prog Tryd.f8.params.toList Rows.ledgerNobodySpec.vars false W args.toList ds gs before) (hL : laidMetH Tryd.prog Rows.ledgerNobodyRow.laid W) :
    Calls Tryd.prog 8 args W fun e W' => ∃ v, e = .returned v ∧ Rows.ledgerNobodySpec.post enc Tryd.prog Tryd.f8 false true false false W args v W' := by
  have htab := tab_of_laid hL
  have hval : ∀ (j : Nat) t v, Tryd.f8.params[j]? = some t → args[j]? = some v → Value.okWide Tryd.prog W .any base t v := hval0
  have hW' := hW
  obtain ⟨p, q, hA0, hV, rfl, hfz, hnd⟩ := hW
  have hA : DataW.TrodAll enc Tryd.prog W 0 (fun _ => true) true Tryd.f8.params.toList args.toList ds p := hA0
  rw [Tryd.params8] at hA hval
  obtain ⟨v0, vs0, d0, ds0, p0, q0, hargs, rfl, rfl, h0, r0⟩ := trodAll_cons hA
  obtain ⟨v1, vs1, d1, ds1, p1, q1, rfl, rfl, rfl, h1, r1⟩ := trodAll_cons r0
  obtain ⟨v2, vs2, d2, ds2, p2, q2, rfl, rfl, rfl, h2, r2⟩ := trodAll_cons r1
  obtain ⟨rfl, rfl, rfl⟩ := trodAll_nil r2
  obtain rfl : args = #[v0, v1, v2] := by cases args; simp_all
  obtain ⟨rfl, rfl⟩ := trodVars_none hV
  have k0 := h0
  have lt0 : ∀ x ∈ p0, x.block < W.heap.size := by obtain ⟨m, hm⟩ := k0; exact DataW.trod_lt m _ _ _ hm
  have k1 := h1
  have lt1 : ∀ x ∈ p1, x.block < W.heap.size := by obtain ⟨m, hm⟩ := k1; exact DataW.trod_lt m _ _ _ hm
  have k2 := h2
  have lt2 : ∀ x ∈ p2, x.block < W.heap.size := by obtain ⟨m, hm⟩ := k2; exact DataW.trod_lt m _ _ _ hm
  obtain ⟨e, ea0, el0, ec0, rfl, he⟩ := open_ent (hval 0 35 v0 rfl rfl) h0
  obtain ⟨i, rfl, hi⟩ := open_i64 (hval 1 3 v1 rfl rfl) h1
  obtain ⟨n, rfl, hn⟩ := open_i64 (hval 2 3 v2 rfl rfl) h2
  clear hA0 hval0
  refine (walk e ea0 el0 ec0 i n W he hi hn htab).mono fun e W' ⟨he, bel⟩ => ?_
  subst he
  exact ⟨_, rfl, _, _, _, [], _, [], hW', trodAll_mk1 (shut_bool Tryd.underlying4 _), (trodAll_cons_mk (Below.trod laidOut (by kernel_rfl) (of_decide_eq_true (by kernel_rfl)) k0 bel lt0) (trodAll_cons_mk (Below.trod laidOut (by kernel_rfl) (of_decide_eq_true (by kernel_rfl)) k1 bel lt1) (trodAll_cons_mk (Below.trod laidOut (by kernel_rfl) (of_decide_eq_true (by kernel_rfl)) k2 bel lt2) trodAll_mk0))), rfl, bel.frame _, fun h => by cases h⟩

set_option maxRecDepth 100000 in
theorem laid_met (os : Os) : laidMet Tryd.prog Rows.ledgerNobodyRow.laid (({ World.holding Tryd.prog os ⟨#[], #[], []⟩ with heap := (World.holding Tryd.prog os ⟨#[], #[], []⟩).heap.setIfInBounds 0 (.cells (uv keyL).toArray 138) } : World).forCall (fun _ _ => 0) ⟨#[], #[.agg (enA en0 none 0 0), .int .i64 0, .int .i64 0], []⟩).memory :=
  laidMet_of_run' 8 (by kernel_rfl) (by kernel_rfl)
set_option maxRecDepth 100000 in
theorem reads (os : Os) {H : Type} (enc : TypeId × Value → H) : ∃ places, DataW.whole enc Tryd.prog (({ World.holding Tryd.prog os ⟨#[], #[], []⟩ with heap := (World.holding Tryd.prog os ⟨#[], #[], []⟩).heap.setIfInBounds 0 (.cells (uv keyL).toArray 138) } : World).forCall (fun _ _ => 0) ⟨#[], #[.agg (enA en0 none 0 0), .int .i64 0, .int .i64 0], []⟩).memory Tryd.f8.params.toList Rows.ledgerNobodySpec.vars false (#[.agg (enA en0 none 0 0), .int .i64 0, .int .i64 0] : Array Value).toList 8 = some ([.agg [.lit (.int .i64 0), .lit (.int .i64 0), .agg (List.replicate 32 (.lit (.int .u8 0))), .agg (List.replicate 32 (.lit (.int .u8 0))), .agg [.lit (.int .i64 0), .nil, .lit (.int .i64 0)]], .lit (.int .i64 0), .lit (.int .i64 0)], [], places) :=
  ⟨[], by kernel_rfl⟩
set_option maxRecDepth 100000 in
theorem lifted (os : Os) (started : os.Started) (H : Type) (enc : TypeId × Value → H) (F : Stop.Interp) :
    ReturnsInHanded {} Tryd.checked os 8 .any ((OpenSpec.ofChange Rows.ledgerNobodySpec).preRow enc Tryd.prog Tryd.f8 Rows.ledgerNobodyRow.domain false Rows.ledgerNobodyRow.laid) (((OpenSpec.ofChange Rows.ledgerNobodySpec).at F).post enc Tryd.prog Tryd.f8 false true false false) := by
  obtain ⟨places, hx⟩ := reads os enc
  refine returnsInHanded_of_row (C := Tryd.checked) (s := OpenSpec.ofChange Rows.ledgerNobodySpec) own started (by kernel_rfl) Tryd.func8
    (witness_row_at (enc := enc) (C := Tryd.checked) false ({ World.holding Tryd.prog os ⟨#[], #[], []⟩ with heap := (World.holding Tryd.prog os ⟨#[], #[], []⟩).heap.setIfInBounds 0 (.cells (uv keyL).toArray 138) } : World) #[.agg (enA en0 none 0 0), .int .i64 0, .int .i64 0] rfl (by kernel_rfl) (by kernel_rfl) (by kernel_rfl)
      (OpenSpec.preRow_of_cond 8 hx (by kernel_rfl) (fun k hk => by cases hk) (by kernel_rfl) (laid_met os))) ?_
  intro W base args ds gs before hval hW _ _ _ hL _ _
  exact contract H enc W base args ds gs before hval hW hL
theorem said : Rows.LedgerNobodySaid :=
  OpenClaim.holds_of_cond 8 Tryd.f8 rfl rfl rfl rfl rfl rfl rfl ⟨rfl, rfl, rfl, rfl, rfl⟩ rfl rfl rfl rfl rfl (by kernel_rfl) Tryd.func8 (by kernel_rfl)
    (of_decide_eq_true (by kernel_rfl)) (by unfold Func.isWrapper; first | (rw [if_pos (by decide +kernel)]; kernel_rfl) | (rw [if_neg (by decide +kernel)]; exact ⟨rfl, rfl⟩))
    (fun os started H enc _ F => by rw [OpenClaim.pre_eq_preRow]; exact lifted os started H enc F)
theorem plain (f : FuncId) (fn : Func) (hf : Tryd.pinned.checked.prog.funcNamed "inquest/inquestlaw21.LedgerNobody" = some f) (hfn : Tryd.pinned.checked.prog.funcs[f]? = some fn) :
    false = Tryd.pinned.checked.prog.looks [] ∧ ∀ (j : Nat) t, fn.params[j]? = some t → Tryd.pinned.checked.prog.wantsStandIn t = false := by
  obtain rfl : f = 8 := Option.some.inj ((show Tryd.prog.funcNamed "inquest/inquestlaw21.LedgerNobody" = some 8 by kernel_rfl).symm.trans hf) |>.symm
  obtain rfl : fn = Tryd.f8 := (Option.some.inj (Tryd.func8.symm.trans hfn)).symm
  refine ⟨by kernel_rfl, fun j t ht => ?_⟩
  rw [Tryd.params8] at ht
  have hall : ([35, 3, 3].all fun u => !Tryd.prog.wantsStandIn u) = true := by kernel_rfl
  have hm : t ∈ [35, 3, 3] := by simpa using Array.mem_of_getElem? ht
  exact (show Tryd.prog.wantsStandIn t = false by simpa using List.all_eq_true.1 hall t hm)
/-- the tied card -/
theorem card : Rows.LedgerNobodyCardSaid :=
  Claim7.holds_tied_plain_at .later [] _ _ _ _ said (fun _ h => by cases h) (by kernel_rfl) (fun _ h => by cases h) ledgerNobody_row_tie rfl ⟨rfl, rfl⟩ (by kernel_rfl) rfl plain (by kernel_rfl)
end Go.Proofs.YtbednfacipphhaaDoor.ledgerNobody
namespace Go.Proofs.YtbednfacipphhaaDoor
theorem ledgerNobody_holds : Rows.LedgerNobodyCardSaid := ledgerNobody.card
#print axioms ledgerNobody_holds
end Go.Proofs.YtbednfacipphhaaDoor
