/- For every list of digests and every two numbers the law MerkleGrowths returns true and the list reads as it did (P6.4): which growth any list of up to 40 digests has from any beginning of it, or that there is none; it is nobody else's. The package's table is as the program's text lays it (the card ties it). -/
import Derived.Test.YtaphbenkkicbhaaDoorDoor
import Derived.Test.YtaphbenkkicbhaaDoorRefGrow
import Derived.Test.YtaphbenkkicbhaaDoorWritten
import Derived.Test.YtaphbenkkicbhaaDoorDgsIn
import Derived.WalkKit
import Derived.ShutString
import Derived.ChangeOld
import Derived.Below
namespace Go.Proofs.YtaphbenkkicbhaaDoor.merkleGrowths
open Go.ChangeShapes Go.WideShapes Go.ChangeAt Go.RowKit
open Go.ChangeMaps (open_string shut_string)
set_option linter.unusedVariables false

theorem laidOut : laidOutB Tryd.prog = true := by kernel_rfl

set_option maxRecDepth 100000 in
set_option maxHeartbeats 1000000 in
theorem walk (a0 : Option Addr) (len0 cap0 : Nat) (L : List (List Int)) (x1 : Int) (x2 : Int) (w : World) (hL : Dgs w a0 len0 cap0 L) (hx1 : -9223372036854775808 ≤ x1 ∧ x1 ≤ 9223372036854775807) (hx2 : -9223372036854775808 ≤ x2 ∧ x2 ≤ 9223372036854775807) (htab : Tab w) :
    Calls Tryd.prog 7 #[.slice a0 len0 cap0, .int .i64 x1, .int .i64 x2] w fun e w' => e = .returned (.bool true) ∧ Below w.heap.size w w' := by
  go_enter Tryd.func7, Tryd.ntmps7
  go_wp2_with fail
  refine (few_any a0 len0 cap0 40 L _ hL (by decide)).mono ?_
  rintro e w1 ⟨a1, m, c1, rfl, hm, h1, hb1⟩
  generalize L.take 40 = M at h1
  clear hL
  go_wp2_with fail
  refine (few_any a1 m c1 40 M _ h1 (by decide)).mono ?_
  rintro e w2 ⟨a2, m2, c2, rfl, hm2, h2, hb2⟩
  have HML : Hid (M.take 40 = M) := List.take_of_length_le (by rw [h1.len_eq]; exact hm)
  rw [HML.out] at h2
  obtain rfl : m2 = m := h2.len_eq.symm.trans h1.len_eq
  have g1 := h1.below hb2
  have hb12 := bstep hb1 hb2
  have hT2 := htab.below hb12
  have hpos := hT2.pos
  have HPd : Bx (Dgl (gV M x1 x2)) := ⟨gV_dg h2.dig x1 x2⟩
  have hPl := gV_len M x1 x2
  rw [h2.len_eq] at hPl
  clear h1 HML hb1 hb2
  have HP1 : Bx (∀ W, Dgs W a2 m2 c2 M → Tab W → Calls Tryd.prog 29 #[.slice a2 m2 c2, .int .i64 x1, .int .i64 x2] W fun e w' => ∃ v, e = .returned (.tuple #[v, .int .i64 (gE m2 x1)]) ∧ w'.ownsRow W.heap.size 24 32 v (gV M x1 x2).length (bv (gV M x1 x2).flatten) ∧ Below W.heap.size W w') := ⟨fun W hW hT => growth_any a2 m2 c2 M x1 x2 W hW hT (by omega)⟩
  have HP2 : Bx (∀ W, Dgs W a1 m2 c1 M → Tab W → Calls Tryd.prog 30 #[.slice a1 m2 c1, .int .i64 x1, .int .i64 x2] W fun e w' => ∃ v, e = .returned (.tuple #[v, .int .i64 (gE m2 x1)]) ∧ w'.ownsRow W.heap.size 24 32 v (gV M x1 x2).length (bv (gV M x1 x2).flatten) ∧ Below W.heap.size W w') := ⟨fun W hW hT => refgrowth_any a1 m2 c1 M x1 x2 W hW hT (by omega)⟩
  have hee : (gE m2 x1 != gE m2 x1) = false := by simp
  generalize gE m2 x1 = ee at HP1 HP2 hee
  generalize gV M x1 x2 = P at HP1 HP2 HPd hPl
  obtain ⟨pl, hpl⟩ : ∃ pl, pl = P.length := ⟨_, rfl⟩
  rw [← hpl] at HP1 HP2 hPl
  have HPL : Hid (pl = P.length) := hpl
  clear hpl
  go_wp2_with fail
  refine (HP1.out _ h2 hT2).mono ?_
  rintro e w3 ⟨vp, rfl, ho3, hb3⟩
  have h23 := h2.below hb3
  have g13 := g1.below hb3
  have hT3 := hT2.below hb3
  have hb13 := bstep hb12 hb3
  obtain ⟨ap, cp, rfl, p3⟩ := Dgs.of_owns ho3 HPd.out
  have hfar := ho3.lt
  have hz23 := hb3.size
  have hold2 := h2.old (g := w2.heap.size) (Nat.le_refl _)
  go_wp2_with fail
  refine (HP2.out _ g13 hT3).mono ?_
  rintro e w4 ⟨vq, rfl, ho4, hb4⟩
  have h24 := h23.below hb4
  have g14 := g13.below hb4
  have hT4 := hT3.below hb4
  have hb14 := bstep hb13 hb4
  have p4 := p3.below hb4
  have hop4 := owns_below ho3 hb4
  obtain ⟨aq, cq, rfl, q4⟩ := Dgs.of_owns ho4 HPd.out
  have hqb := ho4.lt
  have hz34 := hb4.size
  go_wp2_with fail
  refine (dsame_yes ap aq pl cp cq P _ p4 q4).mono ?_
  rintro e w5 ⟨rfl, q, rfl⟩
  obtain ⟨G, hG1, hG2, hPR, ap', cp', hv, hap, hnc, hcm⟩ := pr_of_owns (owns_drewN hop4 q)
  cases hv
  have h25 := h24.drewN q
  have g15 := g14.drewN q
  have hT5 := hT4.drewN q
  have hb15 := below_drewN hb14 q
  have q5 := q4.drewN q
  -- the block that is written over is none of the others
  have n2 : 0 < m2 → ∀ p, a2 = some p → p.block ≠ G := h2.old hG1
  have n1 : 0 < m2 → ∀ p, a1 = some p → p.block ≠ G := g1.old hG1
  have nq : 0 < pl → ∀ p, aq = some p → p.block ≠ G := by
    intro hp p hpa
    have hb := (hqb p.block (by rw [hpa]; rfl)).1
    have hg := (hfar G (by rw [hap hp]; rfl)).2
    omega
  have hGp : 0 < G := by omega
  have hGw : w.heap.size ≤ G := by have := hb12.size; omega
  unfold maxLen at hcm
  clear h24 g14 hT4 hb14 q4 p4 p3 hop4 ho3 ho4 hqb hfar hb3 hb4 h23 g13 hT3 hb13 hold2 h2 g1 hT2
  generalize w4.drewN q = w5 at hPR h25 g15 hT5 hb15 q5 ⊢
  go_wp2
  go_loopw [12] (fun i wr => ∃ k : Nat, k ≤ pl ∧ i = .int .i64 k ∧ PR G pl w5 wr) (fun i _ => pl - (intOf i).toNat)
  case atStart => exact ⟨0, Nat.zero_le _, rfl, hPR⟩
  case round =>
    clear hPR
    obtain ⟨k, hk, rfl, hPR⟩ := hrel
    by_cases hlt : k < pl
    · have hth := hPR.there k hlt
      obtain rfl := hap (by omega)
      have hki : (k : Int) < (pl : Int) := by omega
      have HST : Bx (∀ vs : List Value, vs.length = 32 → PR G pl w5 (wr.setCells G (k * 32) vs)) := ⟨fun vs h => hPR.store k hlt vs h⟩
      have HTH : Bx (wr.there G (k * 32) (bv d7).toArray.size) := ⟨hth⟩
      have HI7 : Bx ((Tryd.prog.info? 24).map (·.size) = some (bv d7).toArray.size) := ⟨dig_info⟩
      have HO7 : Bx ((bv d7).toArray.all (·.oneCell') = true) := ⟨all_oneCell_toArray (bv_one _)⟩
      clear hPR hth n2 n1 nq
      go_wp2_with (refine wpList_store_mid rfl 24 (.tmp 51) (.tmp 50) rfl G (k * 32) (bv d7).toArray rfl d7_eval ?ht HI7.out HO7.out ?_; (case ht => exact HTH.out))
      go_roundw
      case rel => exact ⟨k + 1, by omega, by go_num, HST.out _ (by rfl)⟩
      case measure => simp [intOf]; omega
    · have hbut := hPR.but
      have h26 := h25.but2 hbut n2
      have g16 := g15.but2 hbut n1
      have q6 := q5.but2 hbut nq
      have hT6 := hT5.but hbut hGp
      have hb16 := hb15.trans (hbut.low hGw hb15.size)
      clear hPR hbut h25 g15 q5 hT5 hb15 hap
      go_wp2_with fail
      refine (HP1.out _ h26 hT6).mono ?_
      rintro e w7 ⟨va, rfl, ho7, hb7⟩
      obtain ⟨ar, cr, rfl, r7⟩ := Dgs.of_owns ho7 HPd.out
      have h27 := h26.below hb7
      have g17 := g16.below hb7
      have q7 := q6.below hb7
      have hT7 := hT6.below hb7
      have hb17 := bstep hb16 hb7
      clear h26 g16 q6 hT6 hb16 hb7 ho7
      go_wp2_with fail
      refine (dsame_yes ar aq pl cr cq P _ r7 q7).mono ?_
      rintro e w8 ⟨rfl, s, rfl⟩
      have h28 := h27.drewN s
      have g18 := g17.drewN s
      have hT8 := hT7.drewN s
      have hb18 := below_drewN hb17 s
      clear h27 g17 hT7 hb17 r7 q7
      generalize w7.drewN s = w8 at h28 g18 hT8 hb18 ⊢
      go_wp2_with fail
      refine (dsame_yes a2 a1 m2 c2 c1 M _ h28 g18).mono ?_
      rintro e w9 ⟨rfl, t, rfl⟩
      have hT9 := hT8.drewN t
      have hb19 := below_drewN hb18 t
      clear h28 g18 hT8 hb18
      generalize w8.drewN t = w9 at hT9 hb19 ⊢
      go_wp2_with fail
      refine (lives_any _ hT9).mono ?_
      rintro e w10 ⟨rfl, hb10⟩
      have hb1a := bstep hb19 hb10
      clear hb19 hb10 hT9
      go_wp2
      go_ret
      exact ⟨rfl, hb1a⟩

set_option maxRecDepth 100000 in
/-- what the walk gives, for every argument and every world that holds the table -/
theorem contract (H : Type) (enc : TypeId × Value → H) (W : World) (base : Nat) (args : Array Value) (ds gs : List (DataW H)) (before : List MemPlace)
    (hval0 : ∀ (j : Nat) t v, Tryd.f7.params[j]? = some t → args[j]? = some v → Value.okWide Tryd.prog W .any base t v)
    (hW : DataW.Whole enc Tryd.prog Tryd.f7.params.toList Rows.merkleGrowthsSpec.vars false W args.toList ds gs before) (hL : laidMetH Tryd.prog Rows.merkleGrowthsRow.laid W) :
    Calls Tryd.prog 7 args W fun e W' => ∃ v, e = .returned v ∧ Rows.merkleGrowthsSpec.post enc Tryd.prog Tryd.f7 false true false false W args v W' := by
  have htab := tab_of_laid hL
  have hval : ∀ (j : Nat) t v, Tryd.f7.params[j]? = some t → args[j]? = some v → Value.okWide Tryd.prog W .any base t v := hval0
  have hW' := hW
  obtain ⟨p, q, hA0, hV, rfl, hfz, hnd⟩ := hW
  have hA : DataW.TrodAll enc Tryd.prog W 0 (fun _ => true) true Tryd.f7.params.toList args.toList ds p := hA0
  rw [Tryd.params7] at hA hval
  obtain ⟨v0, vs0, d0, ds0, p0, q0, hargs, rfl, rfl, h0, r0⟩ := trodAll_cons hA
  obtain ⟨v1, vs1, d1, ds1, p1, q1, rfl, rfl, rfl, h1, r1⟩ := trodAll_cons r0
  obtain ⟨v2, vs2, d2, ds2, p2, q2, rfl, rfl, rfl, h2, r2⟩ := trodAll_cons r1
  obtain ⟨rfl, rfl, rfl⟩ := trodAll_nil r2
  obtain rfl : args = #[v0, v1, v2] := by cases args; simp_all
  obtain ⟨rfl, rfl⟩ := trodVars_none hV
  obtain ⟨a0, len0, cap0, rfl⟩ := okWide_slice Tryd.underlying34 (hval 0 34 v0 rfl rfl)
  have k0 := h0
  have lt0 : ∀ x ∈ p0, x.block < W.heap.size := by obtain ⟨m, hm⟩ := k0; exact DataW.trod_lt m _ _ _ hm
  have k1 := h1
  have lt1 : ∀ x ∈ p1, x.block < W.heap.size := by obtain ⟨m, hm⟩ := k1; exact DataW.trod_lt m _ _ _ hm
  have k2 := h2
  have lt2 : ∀ x ∈ p2, x.block < W.heap.size := by obtain ⟨m, hm⟩ := k2; exact DataW.trod_lt m _ _ _ hm
  obtain ⟨L, hL⟩ := open_dgs h0
  obtain ⟨x1, rfl, hx1⟩ := open_i64 (hval 1 3 v1 rfl rfl) h1
  obtain ⟨x2, rfl, hx2⟩ := open_i64 (hval 2 3 v2 rfl rfl) h2
  clear hA0 hval0
  refine (walk a0 len0 cap0 L x1 x2 W hL hx1 hx2 htab).mono fun e W' ⟨he, bel⟩ => ?_
  subst he
  exact ⟨_, rfl, _, _, _, [], _, [], hW', trodAll_mk1 (shut_bool Tryd.underlying4 _), (trodAll_cons_mk (Below.trod laidOut (by kernel_rfl) (of_decide_eq_true (by kernel_rfl)) k0 bel lt0) (trodAll_cons_mk (Below.trod laidOut (by kernel_rfl) (of_decide_eq_true (by kernel_rfl)) k1 bel lt1) (trodAll_cons_mk (Below.trod laidOut (by kernel_rfl) (of_decide_eq_true (by kernel_rfl)) k2 bel lt2) trodAll_mk0))), rfl, bel.frame _, fun h => by cases h⟩

set_option maxRecDepth 100000 in
theorem laid_met (os : Os) : laidMet Tryd.prog Rows.merkleGrowthsRow.laid (({ World.holding Tryd.prog os ⟨#[], #[], []⟩ with heap := (World.holding Tryd.prog os ⟨#[], #[], []⟩).heap.setIfInBounds 0 (.cells (uv keyL).toArray 86) } : World).forCall (fun _ _ => 0) ⟨#[], #[.slice none 0 0, .int .i64 0, .int .i64 0], []⟩).memory :=
  laidMet_of_run' 8 (by kernel_rfl) (by kernel_rfl)
set_option maxRecDepth 100000 in
theorem reads (os : Os) {H : Type} (enc : TypeId × Value → H) : ∃ places, DataW.whole enc Tryd.prog (({ World.holding Tryd.prog os ⟨#[], #[], []⟩ with heap := (World.holding Tryd.prog os ⟨#[], #[], []⟩).heap.setIfInBounds 0 (.cells (uv keyL).toArray 86) } : World).forCall (fun _ _ => 0) ⟨#[], #[.slice none 0 0, .int .i64 0, .int .i64 0], []⟩).memory Tryd.f7.params.toList Rows.merkleGrowthsSpec.vars false (#[.slice none 0 0, .int .i64 0, .int .i64 0] : Array Value).toList 8 = some ([.nil, .lit (.int .i64 0), .lit (.int .i64 0)], [], places) :=
  ⟨[], by kernel_rfl⟩
set_option maxRecDepth 100000 in
theorem lifted (os : Os) (started : os.Started) (H : Type) (enc : TypeId × Value → H) (F : Stop.Interp) :
    ReturnsInHanded {} Tryd.checked os 7 .any ((OpenSpec.ofChange Rows.merkleGrowthsSpec).preRow enc Tryd.prog Tryd.f7 Rows.merkleGrowthsRow.domain false Rows.merkleGrowthsRow.laid) (((OpenSpec.ofChange Rows.merkleGrowthsSpec).at F).post enc Tryd.prog Tryd.f7 false true false false) := by
  obtain ⟨places, hx⟩ := reads os enc
  refine returnsInHanded_of_row (C := Tryd.checked) (s := OpenSpec.ofChange Rows.merkleGrowthsSpec) own started (by kernel_rfl) Tryd.func7
    (witness_row_at (enc := enc) (C := Tryd.checked) false ({ World.holding Tryd.prog os ⟨#[], #[], []⟩ with heap := (World.holding Tryd.prog os ⟨#[], #[], []⟩).heap.setIfInBounds 0 (.cells (uv keyL).toArray 86) } : World) #[.slice none 0 0, .int .i64 0, .int .i64 0] rfl (by kernel_rfl) (by kernel_rfl) (by kernel_rfl)
      (OpenSpec.preRow_of_cond 8 hx (by kernel_rfl) (fun k hk => by cases hk) (by kernel_rfl) (laid_met os))) ?_
  intro W base args ds gs before hval hW _ _ _ hL _ _
  exact contract H enc W base args ds gs before hval hW hL
theorem said : Rows.MerkleGrowthsSaid :=
  OpenClaim.holds_of_cond 7 Tryd.f7 rfl rfl rfl rfl rfl rfl rfl ⟨rfl, rfl, rfl, rfl, rfl⟩ rfl rfl rfl rfl rfl (by kernel_rfl) Tryd.func7 (by kernel_rfl)
    (of_decide_eq_true (by kernel_rfl)) (by unfold Func.isWrapper; first | (rw [if_pos (by decide +kernel)]; kernel_rfl) | (rw [if_neg (by decide +kernel)]; exact ⟨rfl, rfl⟩))
    (fun os started H enc _ F => by rw [OpenClaim.pre_eq_preRow]; exact lifted os started H enc F)
theorem plain (f : FuncId) (fn : Func) (hf : Tryd.pinned.checked.prog.funcNamed "inquest/inquestlaw06.MerkleGrowths" = some f) (hfn : Tryd.pinned.checked.prog.funcs[f]? = some fn) :
    false = Tryd.pinned.checked.prog.looks [] ∧ ∀ (j : Nat) t, fn.params[j]? = some t → Tryd.pinned.checked.prog.wantsStandIn t = false := by
  obtain rfl : f = 7 := Option.some.inj ((show Tryd.prog.funcNamed "inquest/inquestlaw06.MerkleGrowths" = some 7 by kernel_rfl).symm.trans hf) |>.symm
  obtain rfl : fn = Tryd.f7 := (Option.some.inj (Tryd.func7.symm.trans hfn)).symm
  refine ⟨by kernel_rfl, fun j t ht => ?_⟩
  rw [Tryd.params7] at ht
  have hall : ([34, 3, 3].all fun u => !Tryd.prog.wantsStandIn u) = true := by kernel_rfl
  have hm : t ∈ [34, 3, 3] := by simpa using Array.mem_of_getElem? ht
  exact (show Tryd.prog.wantsStandIn t = false by simpa using List.all_eq_true.1 hall t hm)
/-- the tied card -/
theorem card : Rows.MerkleGrowthsCardSaid :=
  Claim7.holds_tied_plain_at .later [] _ _ _ _ said (fun _ h => by cases h) (by kernel_rfl) (fun _ h => by cases h) merkleGrowths_row_tie rfl ⟨rfl, rfl⟩ (by kernel_rfl) rfl plain (by kernel_rfl)
end Go.Proofs.YtaphbenkkicbhaaDoor.merkleGrowths
namespace Go.Proofs.YtaphbenkkicbhaaDoor
theorem merkleGrowths_holds : Rows.MerkleGrowthsCardSaid := merkleGrowths.card
#print axioms merkleGrowths_holds
end Go.Proofs.YtaphbenkkicbhaaDoor
