/- For every list of digests and every number the law MerkleRoots returns true and the list reads as it did (P6.2): which root any list of up to 40 digests has; the list stays. The package's table is as the program's text lays it (the card ties it). -/
import Derived.Test.YtaphbenkkicbhaaDoorDoor
import Derived.Test.YtaphbenkkicbhaaDoorRefRoot
import Derived.Test.YtaphbenkkicbhaaDoorDgsApp
import Derived.Test.YtaphbenkkicbhaaDoorDgsIn
import Derived.WalkKit
import Derived.ShutString
import Derived.ChangeOld
import Derived.Below
namespace Go.Proofs.YtaphbenkkicbhaaDoor.merkleRoots
open Go.ChangeShapes Go.WideShapes Go.ChangeAt Go.RowKit
open Go.ChangeMaps (open_string shut_string)
set_option linter.unusedVariables false

theorem laidOut : laidOutB Tryd.prog = true := by kernel_rfl

set_option maxRecDepth 100000 in
set_option maxHeartbeats 1000000 in
theorem walk (a0 : Option Addr) (len0 cap0 : Nat) (L : List (List Int)) (x1 : Int) (w : World) (hL : Dgs w a0 len0 cap0 L) (hx1 : -9223372036854775808 ≤ x1 ∧ x1 ≤ 9223372036854775807) (htab : Tab w) :
    Calls Tryd.prog 4 #[.slice a0 len0 cap0, .int .i64 x1] w fun e w' => e = .returned (.bool true) ∧ Below w.heap.size w w' := by
  go_enter Tryd.func4, Tryd.ntmps4
  go_wp2_with fail
  refine (few_any a0 len0 cap0 40 L _ hL (by decide)).mono ?_
  rintro e w1 ⟨a1, m, c1, rfl, hm, h1, hb1⟩
  generalize L.take 40 = M at h1
  clear hL
  go_wp2_with fail
  refine (few_any a1 m c1 40 M _ h1 (by decide)).mono ?_
  rintro e w2 ⟨a2, m2, c2, rfl, hm2, h2, hb2⟩
  have HML : Hid (M.take 40 = M) := List.take_of_length_le (by rw [h1.len_eq]; exact hm)
  rw [HML.out] at h2
  obtain rfl : m2 = m := h2.len_eq.symm.trans h1.len_eq
  have g1 := h1.below hb2
  have hb12 := bstep hb1 hb2
  have hT2 := htab.below hb12
  clear h1 HML hb1 hb2
  go_wp2_with fail
  refine (root_any m2 a2 m2 c2 M x1 _ (Nat.le_refl _) h2 hT2 (by omega)).mono ?_
  rintro e w3 ⟨rfl, hb3⟩
  have hT3 := hT2.below hb3
  have h23 := h2.below hb3
  have g13 := g1.below hb3
  have hb13 := bstep hb12 hb3
  have heq := dig_eq (rootL M x1) (rootL_dg M x1 h2.dig).1
  generalize hR : rootL M x1 = R at heq ⊢
  have HR : Bx (rootL M x1 = R) := ⟨hR⟩
  clear hR h2 g1 hb12 hb3 hT2
  go_wp2_with fail
  refine (refroot_any m2 a1 m2 c1 M x1 _ (Nat.le_refl _) g13 hT3 (by omega)).mono ?_
  rintro e w4 ⟨rfl, hb4⟩
  rw [HR.out]
  have hT4 := hT3.below hb4
  have h24 := h23.below hb4
  have g14 := g13.below hb4
  have hb14 := bstep hb13 hb4
  clear h23 g13 hb13 hb4 hT3 HR
  go_wp2_with fail
  refine (dsame_yes a2 a1 m2 c2 c1 M _ h24 g14).mono ?_
  rintro e w5 ⟨rfl, q, rfl⟩
  have hb15 := below_drewN hb14 q
  have hT5 := hT4.drewN q
  clear h24 g14 hb14 hT4
  generalize w4.drewN q = w5 at hb15 hT5 ⊢
  go_wp2_with fail
  refine (lives_any _ hT5).mono ?_
  rintro e w6 ⟨rfl, hb6⟩
  have hb16 := bstep hb15 hb6
  clear hb15 hb6 hT5 heq
  go_wp2
  go_ret
  exact ⟨rfl, hb16⟩

set_option maxRecDepth 100000 in
/-- what the walk gives, for every argument and every world that holds the table -/
theorem contract (H : Type) (enc : TypeId × Value → H) (W : World) (base : Nat) (args : Array Value) (ds gs : List (DataW H)) (before : List MemPlace)
    (hval0 : ∀ (j : Nat) t v, Tryd.f4.params[j]? = some t → args[j]? = some v → Value.okWide Tryd.prog W .any base t v)
    (hW : DataW.Whole enc Tryd.prog Tryd.f4.params.toList Rows.merkleRootsSpec.vars false W args.toList ds gs before) (hL : laidMetH Tryd.prog Rows.merkleRootsRow.laid W) :
    Calls Tryd.prog 4 args W fun e W' => ∃ v, e = .returned v ∧ Rows.merkleRootsSpec.post enc Tryd.prog Tryd.f4 false true false false W args v W' := by
  have htab := tab_of_laid hL
  have hval : ∀ (j : Nat) t v, Tryd.f4.params[j]? = some t → args[j]? = some v → Value.okWide Tryd.prog W .any base t v := hval0
  have hW' := hW
  obtain ⟨p, q, hA0, hV, rfl, hfz, hnd⟩ := hW
  have hA : DataW.TrodAll enc Tryd.prog W 0 (fun _ => true) true Tryd.f4.params.toList args.toList ds p := hA0
  rw [Tryd.params4] at hA hval
  obtain ⟨v0, vs0, d0, ds0, p0, q0, hargs, rfl, rfl, h0, r0⟩ := trodAll_cons hA
  obtain ⟨v1, vs1, d1, ds1, p1, q1, rfl, rfl, rfl, h1, r1⟩ := trodAll_cons r0
  obtain ⟨rfl, rfl, rfl⟩ := trodAll_nil r1
  obtain rfl : args = #[v0, v1] := by cases args; simp_all
  obtain ⟨rfl, rfl⟩ := trodVars_none hV
  obtain ⟨a0, len0, cap0, rfl⟩ := okWide_slice Tryd.underlying34 (hval 0 34 v0 rfl rfl)
  have k0 := h0
  have lt0 : ∀ x ∈ p0, x.block < W.heap.size := by obtain ⟨m, hm⟩ := k0; exact DataW.trod_lt m _ _ _ hm
  have k1 := h1
  have lt1 : ∀ x ∈ p1, x.block < W.heap.size := by obtain ⟨m, hm⟩ := k1; exact DataW.trod_lt m _ _ _ hm
  obtain ⟨L, hL⟩ := open_dgs h0
  obtain ⟨x1, rfl, hx1⟩ := open_i64 (hval 1 3 v1 rfl rfl) h1
  clear hA0 hval0
  refine (walk a0 len0 cap0 L x1 W hL hx1 htab).mono fun e W' ⟨he, bel⟩ => ?_
  subst he
  exact ⟨_, rfl, _, _, _, [], _, [], hW', trodAll_mk1 (shut_bool Tryd.underlying4 _), (trodAll_cons_mk (Below.trod laidOut (by kernel_rfl) (of_decide_eq_true (by kernel_rfl)) k0 bel lt0) (trodAll_cons_mk (Below.trod laidOut (by kernel_rfl) (of_decide_eq_true (by kernel_rfl)) k1 bel lt1) trodAll_mk0)), rfl, bel.frame _, fun h => by cases h⟩

set_option maxRecDepth 100000 in
theorem laid_met (os : Os) : laidMet Tryd.prog Rows.merkleRootsRow.laid (({ World.holding Tryd.prog os ⟨#[], #[], []⟩ with heap := (World.holding Tryd.prog os ⟨#[], #[], []⟩).heap.setIfInBounds 0 (.cells (uv keyL).toArray 86) } : World).forCall (fun _ _ => 0) ⟨#[], #[.slice none 0 0, .int .i64 0], []⟩).memory :=
  laidMet_of_run' 8 (by kernel_rfl) (by kernel_rfl)
set_option maxRecDepth 100000 in
theorem reads (os : Os) {H : Type} (enc : TypeId × Value → H) : ∃ places, DataW.whole enc Tryd.prog (({ World.holding Tryd.prog os ⟨#[], #[], []⟩ with heap := (World.holding Tryd.prog os ⟨#[], #[], []⟩).heap.setIfInBounds 0 (.cells (uv keyL).toArray 86) } : World).forCall (fun _ _ => 0) ⟨#[], #[.slice none 0 0, .int .i64 0], []⟩).memory Tryd.f4.params.toList Rows.merkleRootsSpec.vars false (#[.slice none 0 0, .int .i64 0] : Array Value).toList 8 = some ([.nil, .lit (.int .i64 0)], [], places) :=
  ⟨[], by kernel_rfl⟩
set_option maxRecDepth 100000 in
theorem lifted (os : Os) (started : os.Started) (H : Type) (enc : TypeId × Value → H) (F : Stop.Interp) :
    ReturnsInHanded {} Tryd.checked os 4 .any ((OpenSpec.ofChange Rows.merkleRootsSpec).preRow enc Tryd.prog Tryd.f4 Rows.merkleRootsRow.domain false Rows.merkleRootsRow.laid) (((OpenSpec.ofChange Rows.merkleRootsSpec).at F).post enc Tryd.prog Tryd.f4 false true false false) := by
  obtain ⟨places, hx⟩ := reads os enc
  refine returnsInHanded_of_row (C := Tryd.checked) (s := OpenSpec.ofChange Rows.merkleRootsSpec) own started (by kernel_rfl) Tryd.func4
    (witness_row_at (enc := enc) (C := Tryd.checked) false ({ World.holding Tryd.prog os ⟨#[], #[], []⟩ with heap := (World.holding Tryd.prog os ⟨#[], #[], []⟩).heap.setIfInBounds 0 (.cells (uv keyL).toArray 86) } : World) #[.slice none 0 0, .int .i64 0] rfl (by kernel_rfl) (by kernel_rfl) (by kernel_rfl)
      (OpenSpec.preRow_of_cond 8 hx (by kernel_rfl) (fun k hk => by cases hk) (by kernel_rfl) (laid_met os))) ?_
  intro W base args ds gs before hval hW _ _ _ hL _ _
  exact contract H enc W base args ds gs before hval hW hL
theorem said : Rows.MerkleRootsSaid :=
  OpenClaim.holds_of_cond 4 Tryd.f4 rfl rfl rfl rfl rfl rfl rfl ⟨rfl, rfl, rfl, rfl, rfl⟩ rfl rfl rfl rfl rfl (by kernel_rfl) Tryd.func4 (by kernel_rfl)
    (of_decide_eq_true (by kernel_rfl)) (by unfold Func.isWrapper; first | (rw [if_pos (by decide +kernel)]; kernel_rfl) | (rw [if_neg (by decide +kernel)]; exact ⟨rfl, rfl⟩))
    (fun os started H enc _ F => by rw [OpenClaim.pre_eq_preRow]; exact lifted os started H enc F)
theorem plain (f : FuncId) (fn : Func) (hf : Tryd.pinned.checked.prog.funcNamed "inquest/inquestlaw06.MerkleRoots" = some f) (hfn : Tryd.pinned.checked.prog.funcs[f]? = some fn) :
    false = Tryd.pinned.checked.prog.looks [] ∧ ∀ (j : Nat) t, fn.params[j]? = some t → Tryd.pinned.checked.prog.wantsStandIn t = false := by
  obtain rfl : f = 4 := Option.some.inj ((show Tryd.prog.funcNamed "inquest/inquestlaw06.MerkleRoots" = some 4 by kernel_rfl).symm.trans hf) |>.symm
  obtain rfl : fn = Tryd.f4 := (Option.some.inj (Tryd.func4.symm.trans hfn)).symm
  refine ⟨by kernel_rfl, fun j t ht => ?_⟩
  rw [Tryd.params4] at ht
  have hall : ([34, 3].all fun u => !Tryd.prog.wantsStandIn u) = true := by kernel_rfl
  have hm : t ∈ [34, 3] := by simpa using Array.mem_of_getElem? ht
  exact (show Tryd.prog.wantsStandIn t = false by simpa using List.all_eq_true.1 hall t hm)
/-- the tied card -/
theorem card : Rows.MerkleRootsCardSaid :=
  Claim7.holds_tied_plain_at .later [] _ _ _ _ said (fun _ h => by cases h) (by kernel_rfl) (fun _ h => by cases h) merkleRoots_row_tie rfl ⟨rfl, rfl⟩ (by kernel_rfl) rfl plain (by kernel_rfl)
end Go.Proofs.YtaphbenkkicbhaaDoor.merkleRoots
namespace Go.Proofs.YtaphbenkkicbhaaDoor
theorem merkleRoots_holds : Rows.MerkleRootsCardSaid := merkleRoots.card
#print axioms merkleRoots_holds
end Go.Proofs.YtaphbenkkicbhaaDoor
