/- For every request the law WirePrints returns true and the request reads as it did (P13.3): which bytes any request is, or that it is none; it stays. The library's tables are as the program's text lays them (the card ties them). -/
import Derived.Test.YtdameoejigpnhaaGreatDoorTDoor
import Derived.LaidMore
import Derived.Lay
import Derived.Test.YtdameoejigpnhaaGreatDoorWru
import Derived.Test.YtdameoejigpnhaaGreatDoorWLaw
import Derived.Test.YtdameoejigpnhaaGreatDoorSma
import Derived.WalkKit
import Derived.ShutString
import Derived.ChangeOld
import Derived.Below
namespace Go.Proofs.YtdameoejigpnhaaGreatDoor.wirePrints
open Go.ChangeShapes Go.WideShapes Go.ChangeAt Go.RowKit
open Go.ChangeMaps (open_string shut_string)
set_option linter.unusedVariables false

theorem laidOut : laidOutB Tryz.prog = true := by kernel_rfl

set_option maxRecDepth 100000 in
set_option maxHeartbeats 1000000 in
theorem walk (x : WX) (a0 : Option Addr) (n0 c0 : Nat) (w : World) (hx : Rqs w x a0 n0 c0) (hL : laidMetH Tryz.prog Rows.wirePrintsRow.laid w) (hsh : w.ShapedOpen Tryz.prog) :
    Calls Tryz.prog 5 #[reqV x (.slice a0 n0 c0)] w fun e w' => e = .returned (.bool true) ∧ Below w.heap.size w w' := by
  have HEV := Bx.mk (env_at (plainH hL (by kernel_rfl)) hsh 2 4 5 rfl rfl rfl)
  clear hL hsh
  have HX := Bx.mk hx
  have HB1 := Bx.mk (alloc_below w (.cells #[.string x.m, .string x.t, .string x.k, .slice a0 n0 c0] 26))
  have HR1 := Bx.mk (RA.new hx.b)
  have HSZ1 : Bx ((w.alloc (.cells #[.string x.m, .string x.t, .string x.k, .slice a0 n0 c0] 26)).heap.size = w.heap.size + 1) := ⟨by simp⟩
  unfold reqV
  generalize hw1 : w.alloc (.cells #[.string x.m, .string x.t, .string x.k, .slice a0 n0 c0] 26) = W1 at *
  clear hx
  have C1 : Hid (Calls Tryz.prog 22 #[.agg #[.string x.m, .string x.t, .string x.k, .slice a0 n0 c0]] W1 fun e w' => ∃ a' c', e = .returned (reqV (ctX x) (.slice a' (ctX x).b.length c')) ∧ Bts w' a' (ctX x).b.length c' (ctX x).b ∧ Below W1.heap.size W1 w') := rcut_any x a0 n0 c0 W1 HR1.out.b HX.out.m HX.out.t HX.out.k
  go_enter Tryz.func5, Tryz.ntmps5
  go_wp2_with (refine wpList_load_row rfl 26 (.tmp 1) rfl w.heap.size rfl 26 #[.string x.m, .string x.t, .string x.k, .slice a0 n0 c0] (0, 0) _ HR1.out.row Tryz.underlying26 rfl req_info ?_)
  refine C1.out.mono ?_
  rintro e w2 ⟨a2, c2, rfl, hb2, hbl2⟩
  clear hw1 C1
  have HB2 := Bx.mk (bstep HB1.out hbl2)
  have HR2 := Bx.mk (HR1.out.below hbl2)
  have HXB2 := Bx.mk hb2
  have HS2 := Bx.mk (ctX_sml x)
  have HID := Bx.mk (ctX_id (ctX_sml x))
  clear hb2 hbl2
  generalize ctX x = y at *
  unfold reqV
  obtain ⟨r1, r2, r3, r4, r5⟩ := HR2.out.put HB2.out (Nat.le_refl _) HXB2.out (bts_ne2 HXB2.out HR2.out.row (req_noint _ _ _ _ _ _))
  have HTH := Bx.mk r1
  have HR3 := Bx.mk r2
  have HB3 := Bx.mk r3
  have HONE := Bx.mk (req_one y.m y.t y.k (.slice a2 y.b.length c2) rfl)
  clear r1 r2 r3 r4 r5
  go_wp2_with (first
    | (refine wpList_store_mid rfl 26 (.tmp 1) (.tmp 9) rfl w.heap.size 0 #[.string y.m, .string y.t, .string y.k, .slice a2 y.b.length c2] rfl rfl HTH.out req_info HONE.out ?_; generalize w2.setCells w.heap.size 0 #[.string y.m, .string y.t, .string y.k, .slice a2 y.b.length c2].toList = W3 at HR3 HB3 ⊢; have HR5 := HR3; clear HTH HR3)
    | (refine wpList_load_row rfl 26 (.tmp 1) rfl w.heap.size rfl 26 #[.string y.m, .string y.t, .string y.k, .slice a2 y.b.length c2] (0, 0) _ HR5.out.row Tryz.underlying26 rfl req_info ?_))
  refine (rcut_any y a2 y.b.length c2 W3 HR5.out.b (by have := HS2.out.m; omega) (by have := HS2.out.t; omega) (by have := HS2.out.k; omega)).mono ?_
  rw [HID.out]
  rintro e w4 ⟨a3, c3, rfl, hb4, hbl4⟩
  have hal := alloc_below w4 (.cells #[.string y.m, .string y.t, .string y.k, .slice a3 y.b.length c3] 26)
  have HB5 := Bx.mk (bstep (bstep HB3.out hbl4) hal)
  have HRX5 := Bx.mk ((HR5.out.below hbl4).below hal)
  have HRM5 := Bx.mk (RA.new (x := y) hb4)
  obtain ⟨W5, hW5⟩ : ∃ W5, w4.alloc (.cells #[.string y.m, .string y.t, .string y.k, .slice a3 y.b.length c3] 26) = W5 := ⟨_, rfl⟩
  rw [hW5] at HB5 HRX5 HRM5
  have HW5 := Bx.mk hW5
  clear hal hb4 hbl4 hW5 HR5 HB3 HID
  unfold reqV
  go_wp2_with (first
    | (rw [HW5.out]; have HRM6 := HRM5; clear HW5)
    | (refine wpList_load_row rfl 26 (.tmp 3) rfl w4.heap.size rfl 26 #[.string y.m, .string y.t, .string y.k, .slice a3 y.b.length c3] (0, 0) _ HRM6.out.row Tryz.underlying26 rfl req_info ?_))
  refine (wprint_any y a3 y.b.length c3 W5 HRM5.out.b HS2.out (HEV.out.up HB5.out)).mono ?_
  rintro e w6 ⟨hb6, hor⟩
  have HB6 := Bx.mk (bstep HB5.out hb6)
  have HRX6 := Bx.mk (HRX5.out.below hb6)
  have HRM7 := Bx.mk (HRM5.out.below hb6)
  clear hb6 HRM5 HRX5
  rcases hor with ⟨hpb, b6, c6, rfl, hbt6⟩ | ⟨hpb, rfl⟩
  · have HBT6 := Bx.mk hbt6
    have HPB := Bx.mk hpb
    clear hbt6 hpb
    go_wp2_with (refine wpList_load_row rfl 26 (.tmp 1) rfl w.heap.size rfl 26 #[.string y.m, .string y.t, .string y.k, .slice a2 y.b.length c2] (0, 0) _ HRX6.out.row Tryz.underlying26 rfl req_info ?_)
    refine (rprint_any y a2 y.b.length c2 _ HRX6.out.b HS2.out).mono ?_
    rintro e w7 ⟨hb7, hor⟩
    have HB7 := Bx.mk (bstep HB6.out hb7)
    have HRX7 := Bx.mk (HRX6.out.below hb7)
    have HRM8 := Bx.mk (HRM7.out.below hb7)
    have HBT7 := Bx.mk (HBT6.out.below hb7)
    clear hb7 HRX6 HRM7
    rcases hor with ⟨hpb, b7, c7, rfl, hbt7⟩ | ⟨hpb, _⟩
    · have HBU7 := Bx.mk hbt7
      clear hbt7 hpb
      generalize wrL y = P at *
      go_wp2_with fail
      refine (same_yes _ _ P.length P.length c6 c7 P _ HBT7.out HBU7.out).mono ?_
      rintro e w8 ⟨rfl, q, rfl⟩
      have hd8 : Below w7.heap.size w7 (w7.drewN q) := ⟨rfl, rfl, rfl, Nat.le_refl _, fun _ _ => rfl⟩
      have HRX8 := Bx.mk (HRX7.out.below hd8)
      have HRM9 := Bx.mk (HRM8.out.below hd8)
      have HB8 := Bx.mk (bstep HB7.out hd8)
      clear hd8 HRX7 HRM8
      generalize w7.drewN q = w8 at *
      have CS : Hid (Calls Tryz.prog 13 #[.agg #[.string y.m, .string y.t, .string y.k, .slice a3 y.b.length c3], .agg #[.string y.m, .string y.t, .string y.k, .slice a2 y.b.length c2]] w8 fun e w' => e = .returned (.bool true) ∧ Below w8.heap.size w8 w') := by have h9 := rsame_any y y a3 a2 _ _ c3 c2 w8 HRM9.out.b HRX8.out.b; rw [smW_self] at h9; exact h9
      have x0 := HRX8.out.c0
      have x1 := HRX8.out.c1
      have x2 := HRX8.out.c2
      have x3 := HRX8.out.c3
      have y0 := HRM9.out.c0
      have y1 := HRM9.out.c1
      have y2 := HRM9.out.c2
      have y3 := HRM9.out.c3
      go_wp2_with fail
      refine CS.out.mono ?_
      rintro e w9 ⟨rfl, hb9⟩
      have HB9 := Bx.mk (bstep HB8.out hb9)
      clear hb9 x0 x1 x2 x3 y0 y1 y2 y3
      go_wp2_with fail
      refine (wlives_any _ (HEV.out.up HB9.out)).mono ?_
      rintro e w10 ⟨rfl, hb10⟩
      have HFIN := Bx.mk (bstep HB9.out hb10)
      clear hb10
      go_wp2
      go_ret
      exact ⟨rfl, HFIN.out⟩
    · rw [HPB.out] at hpb; cases hpb
  · have HPB := Bx.mk hpb
    clear hpb
    go_wp2_with (refine wpList_load_row rfl 26 (.tmp 1) rfl w.heap.size rfl 26 #[.string y.m, .string y.t, .string y.k, .slice a2 y.b.length c2] (0, 0) _ HRX6.out.row Tryz.underlying26 rfl req_info ?_)
    refine (rprint_any y a2 y.b.length c2 _ HRX6.out.b HS2.out).mono ?_
    rintro e w7 ⟨hb7, hor⟩
    have HB7 := Bx.mk (bstep HB6.out hb7)
    have HRX7 := Bx.mk (HRX6.out.below hb7)
    have HRM8 := Bx.mk (HRM7.out.below hb7)
    clear hb7 HRX6 HRM7
    rcases hor with ⟨hpb, _⟩ | ⟨hpb, rfl⟩
    · rw [HPB.out] at hpb; cases hpb
    · clear hpb
      have HZ7 : Bx (Bts w7 none 0 0 []) := ⟨rfl, Byt.nil, Nat.le_refl _, Nat.zero_le _, fun _ => rfl, fun h => absurd h (Nat.lt_irrefl _)⟩
      go_wp2_with fail
      refine (same_yes none none 0 0 0 0 [] _ HZ7.out HZ7.out).mono ?_
      rintro e w8 ⟨rfl, q, rfl⟩
      have hd8 : Below w7.heap.size w7 (w7.drewN q) := ⟨rfl, rfl, rfl, Nat.le_refl _, fun _ _ => rfl⟩
      have HRX8 := Bx.mk (HRX7.out.below hd8)
      have HRM9 := Bx.mk (HRM8.out.below hd8)
      have HB8 := Bx.mk (bstep HB7.out hd8)
      clear hd8 HRX7 HRM8
      generalize w7.drewN q = w8 at *
      have CS : Hid (Calls Tryz.prog 13 #[.agg #[.string y.m, .string y.t, .string y.k, .slice a3 y.b.length c3], .agg #[.string y.m, .string y.t, .string y.k, .slice a2 y.b.length c2]] w8 fun e w' => e = .returned (.bool true) ∧ Below w8.heap.size w8 w') := by have h9 := rsame_any y y a3 a2 _ _ c3 c2 w8 HRM9.out.b HRX8.out.b; rw [smW_self] at h9; exact h9
      have x0 := HRX8.out.c0
      have x1 := HRX8.out.c1
      have x2 := HRX8.out.c2
      have x3 := HRX8.out.c3
      have y0 := HRM9.out.c0
      have y1 := HRM9.out.c1
      have y2 := HRM9.out.c2
      have y3 := HRM9.out.c3
      go_wp2_with fail
      refine CS.out.mono ?_
      rintro e w9 ⟨rfl, hb9⟩
      have HB9 := Bx.mk (bstep HB8.out hb9)
      clear hb9 x0 x1 x2 x3 y0 y1 y2 y3
      go_wp2_with fail
      refine (wlives_any _ (HEV.out.up HB9.out)).mono ?_
      rintro e w10 ⟨rfl, hb10⟩
      have HFIN := Bx.mk (bstep HB9.out hb10)
      clear hb10
      go_wp2
      go_ret
      exact ⟨rfl, HFIN.out⟩

set_option maxRecDepth 100000 in
/-- what the walk gives, for every argument and every world that holds the table -/
theorem contract (H : Type) (enc : TypeId × Value → H) (W : World) (base : Nat) (args : Array Value) (ds gs : List (DataW H)) (before : List MemPlace)
    (hval0 : ∀ (j : Nat) t v, Tryz.f5.params[j]? = some t → args[j]? = some v → Value.okWide Tryz.prog W .any base t v)
    (hW : DataW.Whole enc Tryz.prog Tryz.f5.params.toList Rows.wirePrintsSpec.vars false W args.toList ds gs before) (hL : laidMetH Tryz.prog Rows.wirePrintsRow.laid W) (hsh : W.ShapedOpen Tryz.prog) :
    Calls Tryz.prog 5 args W fun e W' => ∃ v, e = .returned v ∧ Rows.wirePrintsSpec.post enc Tryz.prog Tryz.f5 false true false false W args v W' := by
  have hval : ∀ (j : Nat) t v, Tryz.f5.params[j]? = some t → args[j]? = some v → Value.okWide Tryz.prog W .any base t v := hval0
  have hW' := hW
  obtain ⟨p, q, hA0, hV, rfl, hfz, hnd⟩ := hW
  have hA : DataW.TrodAll enc Tryz.prog W 0 (fun _ => true) true Tryz.f5.params.toList args.toList ds p := hA0
  rw [Tryz.params5] at hA hval
  obtain ⟨v0, vs0, d0, ds0, p0, q0, hargs, rfl, rfl, h0, r0⟩ := trodAll_cons hA
  obtain ⟨rfl, rfl, rfl⟩ := trodAll_nil r0
  obtain rfl : args = #[v0] := by cases args; simp_all
  obtain ⟨rfl, rfl⟩ := trodVars_none hV
  have k0 := h0
  have lt0 : ∀ x ∈ p0, x.block < W.heap.size := by obtain ⟨m, hm⟩ := k0; exact DataW.trod_lt m _ _ _ hm
  obtain ⟨x, a0, n0, c0, rfl, hx⟩ := open_req (hval 0 26 v0 rfl rfl) h0
  clear hA0 hval0
  refine (walk x a0 n0 c0 W hx hL hsh).mono fun e W' ⟨he, bel⟩ => ?_
  subst he
  exact ⟨_, rfl, _, _, _, [], _, [], hW', trodAll_mk1 (shut_bool Tryz.underlying4 _), (trodAll_cons_mk (Below.trod laidOut (by kernel_rfl) (of_decide_eq_true (by kernel_rfl)) k0 bel lt0) trodAll_mk0), rfl, bel.frame _, fun h => by cases h⟩

set_option maxRecDepth 100000 in
theorem laid_met (os : Os) : laidMet Tryz.prog Rows.wirePrintsRow.laid ((World.laidAll Tryz.prog os Rows.wirePrintsRow.laid).forCall (fun _ _ => 0) ⟨#[], #[.agg #[.string ⟨#[]⟩, .string ⟨#[]⟩, .string ⟨#[]⟩, .slice none 0 0]], []⟩).memory :=
  laidMet_laidAll _ (by kernel_rfl) (by kernel_rfl)
set_option maxRecDepth 100000 in
theorem reads (os : Os) {H : Type} (enc : TypeId × Value → H) : ∃ places, DataW.whole enc Tryz.prog ((World.laidAll Tryz.prog os Rows.wirePrintsRow.laid).forCall (fun _ _ => 0) ⟨#[], #[.agg #[.string ⟨#[]⟩, .string ⟨#[]⟩, .string ⟨#[]⟩, .slice none 0 0]], []⟩).memory Tryz.f5.params.toList Rows.wirePrintsSpec.vars false (#[.agg #[.string ⟨#[]⟩, .string ⟨#[]⟩, .string ⟨#[]⟩, .slice none 0 0]] : Array Value).toList 8 = some ([.agg [.lit (.string []), .lit (.string []), .lit (.string []), .nil]], [], places) :=
  ⟨[], by kernel_rfl⟩
set_option maxRecDepth 100000 in
theorem lifted (os : Os) (started : os.Started) (H : Type) (enc : TypeId × Value → H) (F : Stop.Interp) :
    ReturnsInHanded {} Tryz.checked os 5 .any ((OpenSpec.ofChange Rows.wirePrintsSpec).preRow enc Tryz.prog Tryz.f5 Rows.wirePrintsRow.domain false Rows.wirePrintsRow.laid) (((OpenSpec.ofChange Rows.wirePrintsSpec).at F).post enc Tryz.prog Tryz.f5 false true false false) := by
  obtain ⟨places, hx⟩ := reads os enc
  refine returnsInHanded_of_row (C := Tryz.checked) (s := OpenSpec.ofChange Rows.wirePrintsSpec) own started (by kernel_rfl) Tryz.func5
    (witness_row_zip (enc := enc) (C := Tryz.checked) false (World.laidAll Tryz.prog os Rows.wirePrintsRow.laid) #[.agg #[.string ⟨#[]⟩, .string ⟨#[]⟩, .string ⟨#[]⟩, .slice none 0 0]] (World.laidAll_os _ _ _) (World.shaped_of_ZipB (by kernel_rfl) (by kernel_rfl)) (by kernel_rfl)
      (OpenSpec.preRow_of_cond 8 hx (by kernel_rfl) (fun k hk => by cases hk) (by kernel_rfl) (laid_met os))) ?_
  intro W base args ds gs before hval hW _ _ _ hL hsh _
  exact contract H enc W base args ds gs before hval hW hL hsh
theorem said : Rows.WirePrintsSaid :=
  OpenClaim.holds_of_cond 5 Tryz.f5 rfl rfl rfl rfl rfl rfl rfl ⟨rfl, rfl, rfl, rfl, rfl⟩ rfl rfl rfl rfl rfl (by kernel_rfl) Tryz.func5 (by kernel_rfl)
    (of_decide_eq_true (by kernel_rfl)) (by unfold Func.isWrapper; first | (rw [if_pos (by decide +kernel)]; kernel_rfl) | (rw [if_neg (by decide +kernel)]; exact ⟨rfl, rfl⟩))
    (fun os started H enc _ F => by rw [OpenClaim.pre_eq_preRow]; exact lifted os started H enc F)
theorem plain (f : FuncId) (fn : Func) (hf : Tryz.pinned.checked.prog.funcNamed "inquest/inquestlaw13.WirePrints" = some f) (hfn : Tryz.pinned.checked.prog.funcs[f]? = some fn) :
    true = Tryz.pinned.checked.prog.looks [] ∧ ∀ (j : Nat) t, fn.params[j]? = some t → Tryz.pinned.checked.prog.wantsStandIn t = false := by
  obtain rfl : f = 5 := Option.some.inj ((show Tryz.prog.funcNamed "inquest/inquestlaw13.WirePrints" = some 5 by kernel_rfl).symm.trans hf) |>.symm
  obtain rfl : fn = Tryz.f5 := (Option.some.inj (Tryz.func5.symm.trans hfn)).symm
  refine ⟨by kernel_rfl, fun j t ht => ?_⟩
  rw [Tryz.params5] at ht
  have hall : ([26].all fun u => !Tryz.prog.wantsStandIn u) = true := by kernel_rfl
  have hm : t ∈ [26] := by simpa using Array.mem_of_getElem? ht
  exact (show Tryz.prog.wantsStandIn t = false by simpa using List.all_eq_true.1 hall t hm)
/-- the tied card -/
theorem card : Rows.WirePrintsCardSaid :=
  Claim7.holds_tied_plain_at .later [] _ _ _ _ said (fun _ h => by cases h) (by kernel_rfl) (fun _ h => by cases h) wirePrints_row_tie rfl ⟨rfl, rfl⟩ (by kernel_rfl) rfl plain (by kernel_rfl)
end Go.Proofs.YtdameoejigpnhaaGreatDoor.wirePrints
namespace Go.Proofs.YtdameoejigpnhaaGreatDoor
theorem wirePrints_holds : Rows.WirePrintsCardSaid := wirePrints.card
#print axioms wirePrints_holds
end Go.Proofs.YtdameoejigpnhaaGreatDoor
