/- For every byte the law WireNobody returns true (P13.1, P13.2): what a reader answers that no call made. The library's tables are as the program's text lays them (the card ties them). -/
import Derived.Test.YtdameoejigpnhabGreatDoorTDoor
import Derived.LaidMore
import Derived.Lay
import Derived.Test.YtdameoejigpnhabGreatDoorWNo
import Derived.WalkKit
import Derived.ShutString
import Derived.ChangeOld
import Derived.Below
namespace Go.Proofs.YtdameoejigpnhabGreatDoor.wireNobody
open Go.ChangeShapes Go.WideShapes Go.ChangeAt Go.RowKit
open Go.ChangeMaps (open_string shut_string)
set_option linter.unusedVariables false



set_option maxRecDepth 100000 in
set_option maxHeartbeats 1000000 in
theorem walk (a0 : Int) (w0 : (Lit.int .u8 a0).wf = true) (w : World) (hL : laidMetH Tryz.prog Rows.wireNobodyRow.laid w) (hsh : w.ShapedOpen Tryz.prog) :
    Calls Tryz.prog 6 #[.int .u8 a0] w fun e w' => e = .returned (.bool true) ∧ Below w.heap.size w w' := by
  have HEV := Bx.mk (env_at (plainH hL (by kernel_rfl)) hsh 2 4 5 rfl rfl rfl)
  clear hL hsh
  have HN0 : Bx (NoR (w.alloc (.cells row0 52)) (some ⟨w.heap.size, 0, none⟩)) := ⟨nor_new w⟩
  have HB0 : Bx (Below w.heap.size w (w.alloc (.cells row0 52))) := ⟨(Below.refl _ _).alloc (Nat.le_refl _) _⟩
  generalize hw1 : w.alloc (.cells row0 52) = W1 at *
  unfold row0 at hw1
  go_enter Tryz.func6, Tryz.ntmps6
  go_wp2_with fail
  refine (wput_nor none a0 _ (.inl rfl)).mono ?_
  rintro e w2 ⟨rfl, rfl⟩
  clear hw1
  go_wp2_with fail
  refine (wput_nor _ a0 _ HN0.out).mono ?_
  rintro e w2 ⟨rfl, rfl⟩
  go_wp2_with fail
  refine (wtake_nor none _ (.inl rfl)).mono ?_
  rintro e w2 ⟨rfl, hb2⟩
  have HN2 := Bx.mk (HN0.out.below hb2)
  have HB2 := Bx.mk (bstep HB0.out hb2)
  have hb3 : Below w2.heap.size w2 (w2.alloc (.cells reqZ 44)) := (Below.refl _ _).alloc (Nat.le_refl _) _
  have HN3 := Bx.mk (HN2.out.below hb3)
  have HB3 := Bx.mk (bstep HB2.out hb3)
  clear hb2 hb3
  generalize hw3 : w2.alloc (.cells reqZ 44) = W3 at *
  unfold reqZ at hw3 ⊢
  have HWE3 := Bx.mk hw3
  clear hw3
  go_wp2_with fail
  rw [HWE3.out]
  refine (wtake_nor _ _ HN3.out).mono ?_
  rintro e w4 ⟨rfl, hb4⟩
  have HN4 := Bx.mk (HN3.out.below hb4)
  have HB4 := Bx.mk (bstep HB3.out hb4)
  have hb5 : Below w4.heap.size w4 (w4.alloc (.cells reqZ 44)) := (Below.refl _ _).alloc (Nat.le_refl _) _
  have HN5 := Bx.mk (HN4.out.below hb5)
  have HB5 := Bx.mk (bstep HB4.out hb5)
  clear hb4 hb5
  generalize hw5 : w4.alloc (.cells reqZ 44) = W5 at *
  unfold reqZ at hw5 ⊢
  have HWE5 := Bx.mk hw5
  clear hw5
  go_wp2_with fail
  rw [HWE5.out]
  refine (widle_nor none _ (.inl rfl)).mono ?_
  rintro e w6 ⟨rfl, rfl⟩
  go_wp2_with fail
  refine (widle_nor _ _ HN5.out).mono ?_
  rintro e w6 ⟨rfl, rfl⟩
  go_wp2_with fail
  refine (wlives_any _ (HEV.out.up HB5.out)).mono ?_
  rintro e w7 ⟨rfl, hb7⟩
  have HFIN := Bx.mk (bstep HB5.out hb7)
  clear hb7
  go_wp2
  go_ret
  exact ⟨rfl, HFIN.out⟩

set_option maxRecDepth 100000 in
/-- what the walk gives, for every argument and every world that holds the table -/
theorem contract (H : Type) (enc : TypeId × Value → H) (W : World) (base : Nat) (args : Array Value) (ds gs : List (DataW H)) (before : List MemPlace)
    (hval0 : ∀ (j : Nat) t v, Tryz.f6.params[j]? = some t → args[j]? = some v → Value.okWide Tryz.prog W .any base t v)
    (hW : DataW.Whole enc Tryz.prog Tryz.f6.params.toList Rows.wireNobodySpec.vars false W args.toList ds gs before) (hL : laidMetH Tryz.prog Rows.wireNobodyRow.laid W) (hsh : W.ShapedOpen Tryz.prog) :
    Calls Tryz.prog 6 args W fun e W' => ∃ v, e = .returned v ∧ Rows.wireNobodySpec.post enc Tryz.prog Tryz.f6 false true false false W args v W' := by
  have hval : ∀ (j : Nat) t v, Tryz.f6.params[j]? = some t → args[j]? = some v → Value.okWide Tryz.prog W .any base t v := hval0
  have hW' := hW
  obtain ⟨p, q, hA0, hV, rfl, hfz, hnd⟩ := hW
  have hA : DataW.TrodAll enc Tryz.prog W 0 (fun _ => true) true Tryz.f6.params.toList args.toList ds p := hA0
  rw [Tryz.params6] at hA hval
  obtain ⟨v0, vs0, d0, ds0, p0, q0, hargs, rfl, rfl, h0, r0⟩ := trodAll_cons hA
  obtain ⟨rfl, rfl, rfl⟩ := trodAll_nil r0
  obtain rfl : args = #[v0] := by cases args; simp_all
  obtain ⟨rfl, rfl⟩ := trodVars_none hV
  obtain ⟨a0, rfl, rfl, rfl, w0⟩ := open_int Tryz.underlying5 (hval 0 5 v0 rfl rfl) h0
  clear hA0 hval0
  refine (walk a0 w0 W hL hsh).mono fun e W' ⟨he, bel⟩ => ?_
  subst he
  exact ⟨_, rfl, _, _, _, [], _, [], hW', trodAll_mk1 (shut_bool Tryz.underlying4 _), (trodAll_cons_mk (shut_int Tryz.underlying5 w0) trodAll_mk0), rfl, bel.frame _, fun h => by cases h⟩

set_option maxRecDepth 100000 in
theorem laid_met (os : Os) : laidMet Tryz.prog Rows.wireNobodyRow.laid ((World.laidAll Tryz.prog os Rows.wireNobodyRow.laid).forCall (fun _ _ => 0) ⟨#[], #[.int .u8 0], []⟩).memory :=
  laidMet_laidAll _ (by kernel_rfl) (by kernel_rfl)
set_option maxRecDepth 100000 in
theorem reads (os : Os) {H : Type} (enc : TypeId × Value → H) : ∃ places, DataW.whole enc Tryz.prog ((World.laidAll Tryz.prog os Rows.wireNobodyRow.laid).forCall (fun _ _ => 0) ⟨#[], #[.int .u8 0], []⟩).memory Tryz.f6.params.toList Rows.wireNobodySpec.vars false (#[.int .u8 0] : Array Value).toList 8 = some ([.lit (.int .u8 0)], [], places) :=
  ⟨[], by kernel_rfl⟩
set_option maxRecDepth 100000 in
theorem lifted (os : Os) (started : os.Started) (H : Type) (enc : TypeId × Value → H) (F : Stop.Interp) :
    ReturnsInHanded {} Tryz.checked os 6 .any ((OpenSpec.ofChange Rows.wireNobodySpec).preRow enc Tryz.prog Tryz.f6 Rows.wireNobodyRow.domain false Rows.wireNobodyRow.laid) (((OpenSpec.ofChange Rows.wireNobodySpec).at F).post enc Tryz.prog Tryz.f6 false true false false) := by
  obtain ⟨places, hx⟩ := reads os enc
  refine returnsInHanded_of_row (C := Tryz.checked) (s := OpenSpec.ofChange Rows.wireNobodySpec) own started (by kernel_rfl) Tryz.func6
    (witness_row_zip (enc := enc) (C := Tryz.checked) false (World.laidAll Tryz.prog os Rows.wireNobodyRow.laid) #[.int .u8 0] (World.laidAll_os _ _ _) (World.shaped_of_ZipB (by kernel_rfl) (by kernel_rfl)) (by kernel_rfl)
      (OpenSpec.preRow_of_cond 8 hx (by kernel_rfl) (fun k hk => by cases hk) (by kernel_rfl) (laid_met os))) ?_
  intro W base args ds gs before hval hW _ _ _ hL hsh _
  exact contract H enc W base args ds gs before hval hW hL hsh
theorem said : Rows.WireNobodySaid :=
  OpenClaim.holds_of_cond 6 Tryz.f6 rfl rfl rfl rfl rfl rfl rfl ⟨rfl, rfl, rfl, rfl, rfl⟩ rfl rfl rfl rfl rfl (by kernel_rfl) Tryz.func6 (by kernel_rfl)
    (of_decide_eq_true (by kernel_rfl)) (by unfold Func.isWrapper; first | (rw [if_pos (by decide +kernel)]; kernel_rfl) | (rw [if_neg (by decide +kernel)]; exact ⟨rfl, rfl⟩))
    (fun os started H enc _ F => by rw [OpenClaim.pre_eq_preRow]; exact lifted os started H enc F)
theorem plain (f : FuncId) (fn : Func) (hf : Tryz.pinned.checked.prog.funcNamed "inquest/inquestlaw13.WireNobody" = some f) (hfn : Tryz.pinned.checked.prog.funcs[f]? = some fn) :
    true = Tryz.pinned.checked.prog.looks [] ∧ ∀ (j : Nat) t, fn.params[j]? = some t → Tryz.pinned.checked.prog.wantsStandIn t = false := by
  obtain rfl : f = 6 := Option.some.inj ((show Tryz.prog.funcNamed "inquest/inquestlaw13.WireNobody" = some 6 by kernel_rfl).symm.trans hf) |>.symm
  obtain rfl : fn = Tryz.f6 := (Option.some.inj (Tryz.func6.symm.trans hfn)).symm
  refine ⟨by kernel_rfl, fun j t ht => ?_⟩
  rw [Tryz.params6] at ht
  have hall : ([5].all fun u => !Tryz.prog.wantsStandIn u) = true := by kernel_rfl
  have hm : t ∈ [5] := by simpa using Array.mem_of_getElem? ht
  exact (show Tryz.prog.wantsStandIn t = false by simpa using List.all_eq_true.1 hall t hm)
/-- the tied card -/
theorem card : Rows.WireNobodyCardSaid :=
  Claim7.holds_tied_plain_at .later [] _ _ _ _ said (fun _ h => by cases h) (by kernel_rfl) (fun _ h => by cases h) wireNobody_row_tie rfl ⟨rfl, rfl⟩ (by kernel_rfl) rfl plain (by kernel_rfl)
end Go.Proofs.YtdameoejigpnhabGreatDoor.wireNobody
namespace Go.Proofs.YtdameoejigpnhabGreatDoor
theorem wireNobody_holds : Rows.WireNobodyCardSaid := wireNobody.card
#print axioms wireNobody_holds
end Go.Proofs.YtdameoejigpnhabGreatDoor
