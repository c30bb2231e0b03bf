/- For every list of slices of bytes and every two numbers the law ClashNone returns true and the list reads as it did (P7.2, P7.3): what the own path and the own growth of a list of up to 20 texts of up to 60 bytes show is no clash. The package's table is as the program's text lays it (the card ties it). -/
import Derived.Test.YtfkloilbjfleeaaDoorDoor
import Derived.Test.YtfkloilbjfleeaaDoorLaw7
import Derived.Test.YtfkloilbjfleeaaDoorCGrow
import Derived.Test.YtfkloilbjfleeaaDoorRefPath
import Derived.Test.YtfkloilbjfleeaaDoorRefGrow
import Derived.Test.YtfkloilbjfleeaaDoorSma
import Derived.Test.YtfkloilbjfleeaaDoorDgsIn
import Derived.Test.YtfkloilbjfleeaaDoorTxsIn
import Derived.WalkKit
import Derived.ShutString
import Derived.ChangeOld
import Derived.Below
namespace Go.Proofs.YtfkloilbjfleeaaDoor.clashNone
open Go.ChangeShapes Go.WideShapes Go.ChangeAt Go.RowKit
open Go.ChangeMaps (open_string shut_string)
set_option linter.unusedVariables false

theorem laidOut : laidOutB Tryd.prog = true := by kernel_rfl

set_option maxRecDepth 100000 in
set_option maxHeartbeats 1000000 in
theorem walk (a0 : Option Addr) (len0 cap0 : Nat) (T : List (List Int)) (i : Int) (x : Int) (w : World) (hT : Txs w a0 len0 cap0 T) (hi : -9223372036854775808 ≤ i ∧ i ≤ 9223372036854775807) (hx : -9223372036854775808 ≤ x ∧ x ≤ 9223372036854775807) (htab : Tab w) :
    Calls Tryd.prog 6 #[.slice a0 len0 cap0, .int .i64 i, .int .i64 x] w fun e w' => e = .returned (.bool true) ∧ Below w.heap.size w w' := by
  go_enter Tryd.func6, Tryd.ntmps6
  go_wp2_with fail
  refine (few7_any a0 len0 cap0 20 60 T _ hT (by decide) (by decide) (by decide)).mono ?_
  rintro e w1 ⟨da, dn, dc, rfl, hdn, hd1, hb1⟩
  have hfit := fewT_fit T 20 60
  generalize fewT T 20 60 = TT at hd1 hfit
  have HFIT : Bx (∀ t ∈ TT, t.length ≤ 100000) := ⟨fun t ht => Nat.le_trans (hfit t ht) (by decide)⟩
  have hT1 := htab.below hb1
  clear hT hfit
  by_cases h0 : dn = 0
  · have g0 : ((dn : Int) == 0) = true := by simp; omega
    clear h0 hd1 HFIT
    go_wp2_with fail
    refine (lives7_any _ hT1).mono ?_
    rintro e w2 ⟨rfl, hb2⟩
    have hlow := bstep hb1 hb2
    clear hb1 hb2 hT1
    go_wp2
    go_ret
    exact ⟨rfl, hlow⟩
  · have g0 : ((dn : Int) == 0) = false := by simp; omega
    have hdl : Bx (TT.length = dn) := ⟨hd1.len_eq⟩
    have hdc := hd1.le_cap
    have hdm := hd1.cap_le
    unfold maxLen at hdm
    go_wp2_with fail
    refine (least_any i 0 ((dn : Int) - 1) _).mono ?_
    rintro e w' ⟨rfl, rfl⟩
    have hlb := least_bd i 0 ((dn : Int) - 1) (by omega)
    obtain ⟨j, hj⟩ : ∃ j : Nat, leastV i 0 ((dn : Int) - 1) = (j : Int) := ⟨(leastV i 0 ((dn : Int) - 1)).toNat, by omega⟩
    rw [hj] at hlb ⊢
    have hjd : j < dn := by omega
    clear hj hlb
    go_wp2_with fail
    refine (refleaves_any da dn dc TT x _ hd1 (fun t ht => Nat.le_trans (HFIT.out t ht) (by decide)) (by omega)).mono ?_
    rintro e w2 ⟨la, lc, rfl, hl2, hb2⟩
    have hd2 := hd1.below hb2
    have hlow2 := bstep hb1 hb2
    clear hd1 hb1 hb2
    have hLd := leavesL_dg TT x
    have HLL : Bx ((leavesL TT x).length = dn) := ⟨by rw [leavesL_len, hdl.out]⟩
    have HNP : Bx (∀ P, mustP TT (j : Int) (TT.getD j []) P x = false) := ⟨fun P => by unfold mustP; rw [decide_eq_false (fun h => h.2.2 (by rw [show ((j : Int)).toNat = j from by omega]))]; rfl⟩
    have HNG : Bx (∀ P, mustG TT ((j : Int) + 1) (rootL ((leavesL TT x).take (j + 1)) x) P x = false) := ⟨fun P => by
      unfold mustG
      rw [show ((j : Int) + 1).toNat = j + 1 from by omega, decide_eq_false (p := rootL ((leavesL TT x).take (j + 1)) x ≠ rootL ((leavesL TT x).take (j + 1)) x) (fun h => h rfl)]
      simp⟩
    generalize leavesL TT x = LL at hl2 hLd HLL HNG
    have hlcc := hl2.le_cap
    have hlcm := hl2.cap_le
    unfold maxLen at hlcm
    go_wp2_with fail
    refine (refpath_any la dn lc LL (j : Int) x _ hl2 (htab.below hlow2) (by omega)).mono ?_
    rintro e w3 ⟨vp, rfl, ho3, hb3⟩
    obtain ⟨pa, pc, rfl, hp3⟩ := Dgs.of_owns ho3 (pV_dg hLd _ _)
    have hpl := pV_len LL (j : Int) x
    rw [HLL.out] at hpl
    generalize pE dn (j : Int) = ep
    generalize pV LL (j : Int) x = PP at hp3 hpl
    have hl3 := hl2.below hb3
    have hd3 := hd2.below hb3
    have hlow3 := bstep hlow2 hb3
    generalize hpn : PP.length = pn at hp3 hpl
    clear hpn hl2 hd2 hlow2 hb3 ho3
    have hw1 : IntKind.i64.wrap ((j : Int) + 1) = (j : Int) + 1 := IntWalk.i64_in _ (by omega)
    go_wp2_with fail
    refine (refgrowth_any la dn lc LL ((j : Int) + 1) x _ hl3 (htab.below hlow3) (by omega)).mono ?_
    rintro e w4 ⟨vg, rfl, ho4, hb4⟩
    obtain ⟨ga, gc, rfl, hg4⟩ := Dgs.of_owns ho4 (gV_dg hLd _ _)
    have hgl := gV_len LL ((j : Int) + 1) x
    rw [HLL.out] at hgl
    generalize gE dn ((j : Int) + 1) = eg
    generalize gV LL ((j : Int) + 1) x = GG at hg4 hgl
    have hl4 := hl3.below hb4
    have hd4 := hd3.below hb4
    have hp4 := hp3.below hb4
    have hlow4 := bstep hlow3 hb4
    generalize hgn : GG.length = gn at hg4 hgl
    clear hgn hl3 hd3 hp3 hlow3 hb4 ho4
    obtain ⟨db, doff, rfl, _, hdc4⟩ := hd4.spot (by omega)
    obtain ⟨ai, li, ci, hcell, hbt4⟩ := hdc4 j hjd
    have hli : li ≤ 100000 := by
      have h1 := hbt4.len_eq
      have h2 := HFIT.out (TT.getD j []) (by rw [List.getD_eq_getElem?_getD, List.getElem?_eq_getElem (by rw [hdl.out]; exact hjd)]; exact List.getElem_mem _)
      omega
    have hjI : (j : Int) < (dn : Int) := by omega
    clear hdc4
    go_wp2_with fail
    refine (cpath_any _ dn dc TT (j : Int) ai li ci (TT.getD j []) pa pn pc PP x _ hd4 HFIT.out (by omega) hbt4 hli hp4 (by omega) (htab.below hlow4)).mono ?_
    rintro e w5 ⟨hans, hb5⟩
    obtain rfl := hans.1 (HNP.out PP)
    have hl5 := hl4.below hb5
    have hd5 := hd4.below hb5
    have hg5 := hg4.below hb5
    have hlow5 := bstep hlow4 hb5
    clear hans hl4 hd4 hg4 hp4 hbt4 hcell hlow4 hb5 HNP
    have hb6 : Below w5.heap.size w5 (w5.alloc (.cells #[.slice none 0 0, .slice none 0 0] 25)) := (Below.refl _ _).alloc (Nat.le_refl _) _
    have hr6 : (w5.alloc (.cells #[.slice none 0 0, .slice none 0 0] 25)).heap[w5.heap.size]? = some (.cells #[.slice none 0 0, .slice none 0 0] 25 (0, 0)) := heap_alloc_new _ _
    have HB6 : Bx _ := ⟨hb6⟩
    have HR6 : Bx _ := ⟨hr6⟩
    clear hb6 hr6
    obtain ⟨lb, lo, rfl, _, _⟩ := hl5.spot (by omega)
    have hcut := dgs_cut lb lo dn lc (j + 1) (by omega)
    rw [show ((j + 1 : Nat) : Int) = (j : Int) + 1 from by omega] at hcut
    go_wp2_with fail
    have hb6 := HB6.out
    have hr6 := HR6.out
    clear HB6 HR6
    generalize w5.alloc (.cells #[.slice none 0 0, .slice none 0 0] 25) = w6 at hb6 hr6 ⊢
    generalize w5.heap.size = V1 at hr6 ⊢
    have hl6 := hl5.below hb6
    have hd6 := hd5.below hb6
    have hg6 := hg5.below hb6
    have hlow6 := bstep hlow5 hb6
    clear hl5 hd5 hg5 hlow5 hb6
    refine (refroot_any (j + 1) _ (j + 1) lc (LL.take (j + 1)) x _ (Nat.le_refl _) (hl6.take (j + 1) (by omega)) (htab.below hlow6) (by omega)).mono ?_
    rintro e w7 ⟨rfl, hb7⟩
    have hRd := rootL_dg (LL.take (j + 1)) x (hLd.take _)
    have hd7 := hd6.below hb7
    have hg7 := hg6.below hb7
    have hr7 := row_step hr6 hb7
    have hlow7 := bstep hlow6 hb7
    clear hl6 hd6 hg6 hr6 hlow6 hb7 hcut
    generalize rootL (LL.take (j + 1)) x = FF at hRd HNG ⊢
    go_wp2_with fail
    refine (cgrow_any _ dn dc TT ((j : Int) + 1) FF ga gn gc GG x _ hd7 HFIT.out (by omega) hRd hg7 (by omega) (htab.below hlow7)).mono ?_
    rintro e w8 ⟨hans, hb8⟩
    obtain rfl := hans.1 (HNG.out GG)
    have hr8 := row_step hr7 hb8
    have hlow8 := bstep hlow7 hb8
    clear hans hd7 hg7 hr7 hlow7 hb8 HNG
    have hb9 : Below w8.heap.size w8 (w8.alloc (.cells #[.slice none 0 0, .slice none 0 0] 25)) := (Below.refl _ _).alloc (Nat.le_refl _) _
    have hr9 := row_step hr8 hb9
    have hs9 : (w8.alloc (.cells #[.slice none 0 0, .slice none 0 0] 25)).heap[w8.heap.size]? = some (.cells #[.slice none 0 0, .slice none 0 0] 25 (0, 0)) := heap_alloc_new _ _
    have c1 := cell_of_row _ _ 0 _ _ (0, 0) hr9
    have c2 := cell_of_row _ _ 1 _ _ (0, 0) hr9
    have c3 := cell_of_row _ _ 0 _ _ (0, 0) hs9
    have c4 := cell_of_row _ _ 1 _ _ (0, 0) hs9
    have HLW : Bx _ := ⟨bstep hlow8 hb9⟩
    clear hr8 hb9 hr9 hs9 hlow8
    go_wp2_with fail
    have hlow9 := HLW.out
    clear HLW c1 c2 c3 c4
    generalize w8.alloc (.cells #[.slice none 0 0, .slice none 0 0] 25) = w9 at hlow9 ⊢
    refine (lives7_any _ (htab.below hlow9)).mono ?_
    rintro e w10 ⟨rfl, hb10⟩
    have hlow := bstep hlow9 hb10
    clear hlow9 hb10
    go_wp2
    go_ret
    exact ⟨rfl, hlow⟩

set_option maxRecDepth 100000 in
/-- what the walk gives, for every argument and every world that holds the table -/
theorem contract (H : Type) (enc : TypeId × Value → H) (W : World) (base : Nat) (args : Array Value) (ds gs : List (DataW H)) (before : List MemPlace)
    (hval0 : ∀ (j : Nat) t v, Tryd.f6.params[j]? = some t → args[j]? = some v → Value.okWide Tryd.prog W .any base t v)
    (hW : DataW.Whole enc Tryd.prog Tryd.f6.params.toList Rows.clashNoneSpec.vars false W args.toList ds gs before) (hL : laidMetH Tryd.prog Rows.clashNoneRow.laid W) :
    Calls Tryd.prog 6 args W fun e W' => ∃ v, e = .returned v ∧ Rows.clashNoneSpec.post enc Tryd.prog Tryd.f6 false true false false W args v W' := by
  have htab := tab_of_laid hL
  have hval : ∀ (j : Nat) t v, Tryd.f6.params[j]? = some t → args[j]? = some v → Value.okWide Tryd.prog W .any base t v := hval0
  have hW' := hW
  obtain ⟨p, q, hA0, hV, rfl, hfz, hnd⟩ := hW
  have hA : DataW.TrodAll enc Tryd.prog W 0 (fun _ => true) true Tryd.f6.params.toList args.toList ds p := hA0
  rw [Tryd.params6] at hA hval
  obtain ⟨v0, vs0, d0, ds0, p0, q0, hargs, rfl, rfl, h0, r0⟩ := trodAll_cons hA
  obtain ⟨v1, vs1, d1, ds1, p1, q1, rfl, rfl, rfl, h1, r1⟩ := trodAll_cons r0
  obtain ⟨v2, vs2, d2, ds2, p2, q2, rfl, rfl, rfl, h2, r2⟩ := trodAll_cons r1
  obtain ⟨rfl, rfl, rfl⟩ := trodAll_nil r2
  obtain rfl : args = #[v0, v1, v2] := by cases args; simp_all
  obtain ⟨rfl, rfl⟩ := trodVars_none hV
  obtain ⟨a0, len0, cap0, rfl⟩ := okWide_slice Tryd.underlying29 (hval 0 29 v0 rfl rfl)
  have k0 := h0
  have lt0 : ∀ x ∈ p0, x.block < W.heap.size := by obtain ⟨m, hm⟩ := k0; exact DataW.trod_lt m _ _ _ hm
  have k1 := h1
  have lt1 : ∀ x ∈ p1, x.block < W.heap.size := by obtain ⟨m, hm⟩ := k1; exact DataW.trod_lt m _ _ _ hm
  have k2 := h2
  have lt2 : ∀ x ∈ p2, x.block < W.heap.size := by obtain ⟨m, hm⟩ := k2; exact DataW.trod_lt m _ _ _ hm
  obtain ⟨T, hT⟩ := open_txs h0
  obtain ⟨i, rfl, hi⟩ := open_i64 (hval 1 3 v1 rfl rfl) h1
  obtain ⟨x, rfl, hx⟩ := open_i64 (hval 2 3 v2 rfl rfl) h2
  clear hA0 hval0
  refine (walk a0 len0 cap0 T i x W hT hi hx htab).mono fun e W' ⟨he, bel⟩ => ?_
  subst he
  exact ⟨_, rfl, _, _, _, [], _, [], hW', trodAll_mk1 (shut_bool Tryd.underlying4 _), (trodAll_cons_mk (Below.trod laidOut (by kernel_rfl) (of_decide_eq_true (by kernel_rfl)) k0 bel lt0) (trodAll_cons_mk (Below.trod laidOut (by kernel_rfl) (of_decide_eq_true (by kernel_rfl)) k1 bel lt1) (trodAll_cons_mk (Below.trod laidOut (by kernel_rfl) (of_decide_eq_true (by kernel_rfl)) k2 bel lt2) trodAll_mk0))), rfl, bel.frame _, fun h => by cases h⟩

set_option maxRecDepth 100000 in
theorem laid_met (os : Os) : laidMet Tryd.prog Rows.clashNoneRow.laid (({ World.holding Tryd.prog os ⟨#[], #[], []⟩ with heap := (World.holding Tryd.prog os ⟨#[], #[], []⟩).heap.setIfInBounds 0 (.cells (uv keyL).toArray 106) } : World).forCall (fun _ _ => 0) ⟨#[], #[.slice none 0 0, .int .i64 0, .int .i64 0], []⟩).memory :=
  laidMet_of_run' 8 (by kernel_rfl) (by kernel_rfl)
set_option maxRecDepth 100000 in
theorem reads (os : Os) {H : Type} (enc : TypeId × Value → H) : ∃ places, DataW.whole enc Tryd.prog (({ World.holding Tryd.prog os ⟨#[], #[], []⟩ with heap := (World.holding Tryd.prog os ⟨#[], #[], []⟩).heap.setIfInBounds 0 (.cells (uv keyL).toArray 106) } : World).forCall (fun _ _ => 0) ⟨#[], #[.slice none 0 0, .int .i64 0, .int .i64 0], []⟩).memory Tryd.f6.params.toList Rows.clashNoneSpec.vars false (#[.slice none 0 0, .int .i64 0, .int .i64 0] : Array Value).toList 8 = some ([.nil, .lit (.int .i64 0), .lit (.int .i64 0)], [], places) :=
  ⟨[], by kernel_rfl⟩
set_option maxRecDepth 100000 in
theorem lifted (os : Os) (started : os.Started) (H : Type) (enc : TypeId × Value → H) (F : Stop.Interp) :
    ReturnsInHanded {} Tryd.checked os 6 .any ((OpenSpec.ofChange Rows.clashNoneSpec).preRow enc Tryd.prog Tryd.f6 Rows.clashNoneRow.domain false Rows.clashNoneRow.laid) (((OpenSpec.ofChange Rows.clashNoneSpec).at F).post enc Tryd.prog Tryd.f6 false true false false) := by
  obtain ⟨places, hx⟩ := reads os enc
  refine returnsInHanded_of_row (C := Tryd.checked) (s := OpenSpec.ofChange Rows.clashNoneSpec) own started (by kernel_rfl) Tryd.func6
    (witness_row_at (enc := enc) (C := Tryd.checked) false ({ World.holding Tryd.prog os ⟨#[], #[], []⟩ with heap := (World.holding Tryd.prog os ⟨#[], #[], []⟩).heap.setIfInBounds 0 (.cells (uv keyL).toArray 106) } : World) #[.slice none 0 0, .int .i64 0, .int .i64 0] rfl (by kernel_rfl) (by kernel_rfl) (by kernel_rfl)
      (OpenSpec.preRow_of_cond 8 hx (by kernel_rfl) (fun k hk => by cases hk) (by kernel_rfl) (laid_met os))) ?_
  intro W base args ds gs before hval hW _ _ _ hL _ _
  exact contract H enc W base args ds gs before hval hW hL
theorem said : Rows.ClashNoneSaid :=
  OpenClaim.holds_of_cond 6 Tryd.f6 rfl rfl rfl rfl rfl rfl rfl ⟨rfl, rfl, rfl, rfl, rfl⟩ rfl rfl rfl rfl rfl (by kernel_rfl) Tryd.func6 (by kernel_rfl)
    (of_decide_eq_true (by kernel_rfl)) (by unfold Func.isWrapper; first | (rw [if_pos (by decide +kernel)]; kernel_rfl) | (rw [if_neg (by decide +kernel)]; exact ⟨rfl, rfl⟩))
    (fun os started H enc _ F => by rw [OpenClaim.pre_eq_preRow]; exact lifted os started H enc F)
theorem plain (f : FuncId) (fn : Func) (hf : Tryd.pinned.checked.prog.funcNamed "inquest/inquestlaw07.ClashNone" = some f) (hfn : Tryd.pinned.checked.prog.funcs[f]? = some fn) :
    false = Tryd.pinned.checked.prog.looks [] ∧ ∀ (j : Nat) t, fn.params[j]? = some t → Tryd.pinned.checked.prog.wantsStandIn t = false := by
  obtain rfl : f = 6 := Option.some.inj ((show Tryd.prog.funcNamed "inquest/inquestlaw07.ClashNone" = some 6 by kernel_rfl).symm.trans hf) |>.symm
  obtain rfl : fn = Tryd.f6 := (Option.some.inj (Tryd.func6.symm.trans hfn)).symm
  refine ⟨by kernel_rfl, fun j t ht => ?_⟩
  rw [Tryd.params6] at ht
  have hall : ([29, 3, 3].all fun u => !Tryd.prog.wantsStandIn u) = true := by kernel_rfl
  have hm : t ∈ [29, 3, 3] := by simpa using Array.mem_of_getElem? ht
  exact (show Tryd.prog.wantsStandIn t = false by simpa using List.all_eq_true.1 hall t hm)
/-- the tied card -/
theorem card : Rows.ClashNoneCardSaid :=
  Claim7.holds_tied_plain_at .later [] _ _ _ _ said (fun _ h => by cases h) (by kernel_rfl) (fun _ h => by cases h) clashNone_row_tie rfl ⟨rfl, rfl⟩ (by kernel_rfl) rfl plain (by kernel_rfl)
end Go.Proofs.YtfkloilbjfleeaaDoor.clashNone
namespace Go.Proofs.YtfkloilbjfleeaaDoor
theorem clashNone_holds : Rows.ClashNoneCardSaid := clashNone.card
#print axioms clashNone_holds
end Go.Proofs.YtfkloilbjfleeaaDoor
