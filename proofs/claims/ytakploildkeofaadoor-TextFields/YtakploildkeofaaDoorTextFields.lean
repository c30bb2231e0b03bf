/- For every text, byte and int the law TextFields returns true (P4.3): of texts of up to 300 bytes, Fields answers the document's pieces, which are nobody else's, and Line the document's first line and what is behind it. The library's tables are as the program's text lays them (the card ties them). -/
import Derived.Test.YtakploildkeofaaDoorTDoor
import Derived.LaidMore
import Derived.Test.YtakploildkeofaaDoorDec
import Derived.Test.YtakploildkeofaaDoorSCut
import Derived.Test.YtakploildkeofaaDoorRefFields
import Derived.Test.YtakploildkeofaaDoorLine
import Derived.Test.YtakploildkeofaaDoorTexts
import Derived.WalkKit
import Derived.ShutString
import Derived.ChangeOld
import Derived.Below
namespace Go.Proofs.YtakploildkeofaaDoor.textFields
open Go.ChangeShapes Go.WideShapes Go.ChangeAt Go.RowKit
open Go.ChangeMaps (open_string shut_string)
set_option linter.unusedVariables false



set_option maxRecDepth 100000 in
set_option maxHeartbeats 1000000 in
theorem walk (a0 : ByteArray) (a1 : Int) (a2 : Int) (w0 : a0.size ≤ maxLen) (w1 : (Lit.int .u8 a1).wf = true) (w2 : (Lit.int .i64 a2).wf = true) (w : World) (hL : laidMetH Tryd.prog Rows.textFieldsRow.laid w) (hsh : w.ShapedOpen Tryd.prog) :
    Calls Tryd.prog 5 #[.string a0, .int .u8 a1, .int .i64 a2] w fun e w' => e = .returned (.bool true) ∧ Below w.heap.size w w' := by
  clear hL hsh
  have hs1 : a0.size ≤ 9223372036854775807 := w0
  have hy : 0 ≤ a1 ∧ a1 ≤ 255 := by simp [Lit.wf] at w1; exact w1
  clear w0 w1 w2
  go_enter Tryd.func5, Tryd.ntmps5
  go_wp2_with fail
  refine (scut_any a0 300 _ hs1).mono ?_
  rintro e wz ⟨⟨s, rfl, hs⟩, hwz⟩
  obtain rfl : w = wz := hwz.symm
  have hn := fL_len (cb a1) s a2 hs
  go_wp2_with fail
  refine (fields_any s a1 a2 _ hs).mono ?_
  rintro e w1 ⟨v1, rfl, ho1, hb1⟩
  go_wp2_with fail
  refine (reffields_any s a1 a2 _ hs hy).mono ?_
  rintro e w2 ⟨v2, rfl, ho2, hb2⟩
  generalize hok : fOk (cb a1) s a2 = ok
  have HF : Hid (∀ w', Calls Tryd.prog 22 #[.string s, .int .u8 a1, .int .i64 a2] w' fun e w'' => ∃ v, e = .returned (.tuple #[v, .bool ok]) ∧ w''.ownsRow w'.heap.size 9 1 v (fL (cb a1) s a2).length (sv (fL (cb a1) s a2)) ∧ Below w'.heap.size w' w'') := fun w' => by
    rw [← hok]; exact fields_any s a1 a2 w' hs
  clear hok
  generalize fL (cb a1) s a2 = L at hn ho1 ho2 HF
  generalize hnn : L.length = n at hn ho1 ho2 HF
  have hform : n = 0 ∨ ∃ g cap, v1 = .slice (some ⟨g, 0, none⟩) n cap ∧ w.heap.size ≤ g ∧ g < w1.heap.size := by
    by_cases h : n = 0
    · exact .inl h
    · exact .inr (owns_form ho1 (by omega))
  have hsep : ∀ ao cap, v2 = .slice ao n cap → ∀ b, ao = some ⟨b, 0, none⟩ → w1.heap.size ≤ b := by
    intro ao cap e b eb
    subst eb
    exact (ho2.lt b (by rw [e]; rfl)).1
  obtain ⟨a4, c4, rfl, t2⟩ := Txt.of_owns ho2
  replace hsep := hsep a4 c4 rfl
  obtain ⟨a3, c3, rfl, t1⟩ := Txt.of_owns ho1
  replace t1 := t1.below hb2
  replace ho1 := owns_below ho1 hb2
  replace hb2 := bstep hb1 hb2
  have hb1s := hb1.size
  have hoo : (ok != ok) = false := by simp
  clear ho2 hb1
  go_wp2_with fail
  refine (texts_yes _ _ n c3 c4 L _ t1 t2 (by omega)).mono ?_
  rintro e w3 ⟨rfl, q3, hq3⟩
  replace ho1 : w3.ownsRow w.heap.size 9 1 (.slice a3 n c3) n (sv L) := by rw [hq3]; exact owns_drewN ho1 q3
  replace t2 : Txt w3 a4 n L := by rw [hq3]; exact t2.drewN q3
  replace hb2 : Below w.heap.size w w3 := by rw [hq3]; exact below_drewN hb2 q3
  clear hq3 t1
  go_wp2_with fail
  go_loopw [11] (fun i wr => ∃ (k : Nat) (X : List Value), k ≤ n ∧ i = .int .i64 k ∧ wr.ownsRow w.heap.size 9 1 (.slice a3 n c3) n X ∧ Txt wr a4 n L ∧ Below w.heap.size w wr) (fun i _ => n - (intOf i).toNat)
  case atStart => exact ⟨0, _, Nat.zero_le _, rfl, ho1, t2, hb2⟩
  case round =>
    obtain ⟨k, X, hk, rfl, hown, ht, hb⟩ := hrel
    by_cases hlt : k < n
    · have hki : (k : Int) < (n : Int) := by omega
      obtain ⟨g, cap, hv, hg1, hg2⟩ := hform.resolve_left (by omega)
      cases hv
      obtain ⟨c0, hc⟩ := owns_cell hown k hlt
      have hf := hown.frozenAt k
      have hst := hown.stored k (.string ⟨#[115, 112, 111, 105, 108, 116]⟩)
      have hb3 := hb.grown hst.2 hb.size (by intro j hj; cases hj; exact hg1)
      have ht3 := ht.grown hst.2 (fun b e => by have := hsep b e; omega)
      clear hown ho1 t2 ht hb
      go_wp2_with fail
      go_roundw
      case rel => exact ⟨k + 1, _, by omega, by go_num, hst.1, ht3, hb3⟩
      case measure => simp [intOf]; omega
    · have hki : ¬ (k : Int) < (n : Int) := by omega
      clear hown ho1 t2 hb2 hform hsep
      go_wp2_with fail
      refine (HF.out _).mono ?_
      rintro e w5 ⟨v5, rfl, ho5, hb5⟩
      obtain ⟨a5, c5, rfl, t5⟩ := Txt.of_owns ho5
      replace ht := ht.below hb5
      replace hb5 := hb.trans (hb5.mono hb.size)
      clear ho5 hb HF
      go_wp2_with fail
      refine (line_any s _ (by omega)).mono ?_
      rintro e w6 ⟨he, q6, hq6⟩
      unfold LineP at he
      subst he
      replace ht : Txt w6 a4 n L := by rw [hq6]; exact ht.drewN q6
      replace t5 : Txt w6 a5 n L := by rw [hq6]; exact t5.drewN q6
      replace hb5 : Below w.heap.size w w6 := by rw [hq6]; exact below_drewN hb5 q6
      clear hq6
      go_wp2_with fail
      refine (refline_any s _ (by omega)).mono ?_
      rintro e w7 ⟨he, q7, hq7⟩
      unfold LineP at he
      subst he
      replace ht : Txt w7 a4 n L := by rw [hq7]; exact ht.drewN q7
      replace t5 : Txt w7 a5 n L := by rw [hq7]; exact t5.drewN q7
      replace hb5 : Below w.heap.size w w7 := by rw [hq7]; exact below_drewN hb5 q7
      clear hq7
      generalize lnA s = A
      generalize lnB s = B
      generalize decide (0 ≤ lix s) = C
      have e1 : (A.toList == A.toList) = true := by simp
      have e2 : (B.toList == B.toList) = true := by simp
      have e3 : (C == C) = true := by simp
      go_wp2_with fail
      refine (texts_yes _ _ n c5 c4 L _ t5 ht (by omega)).mono ?_
      rintro e w8 ⟨rfl, q8, hq8⟩
      replace hb5 : Below w.heap.size w w8 := by rw [hq8]; exact below_drewN hb5 q8
      clear hq8 t5 ht
      go_wp2_with fail
      refine (lives_any _).mono ?_
      rintro e w' ⟨rfl, rfl⟩
      go_wp2
      go_ret
      exact ⟨rfl, hb5⟩

/-- what the walk gives, for every argument and every world that holds the table -/
theorem contract (H : Type) (enc : TypeId × Value → H) (W : World) (base : Nat) (args : Array Value) (ds gs : List (DataW H)) (before : List MemPlace)
    (hval0 : ∀ (j : Nat) t v, Tryd.f5.params[j]? = some t → args[j]? = some v → Value.okWide Tryd.prog W .any base t v)
    (hW : DataW.Whole enc Tryd.prog Tryd.f5.params.toList Rows.textFieldsSpec.vars false W args.toList ds gs before) (hL : laidMetH Tryd.prog Rows.textFieldsRow.laid W) (hsh : W.ShapedOpen Tryd.prog) :
    Calls Tryd.prog 5 args W fun e W' => ∃ v, e = .returned v ∧ Rows.textFieldsSpec.post enc Tryd.prog Tryd.f5 false true false false W args v W' := by
  have hval : ∀ (j : Nat) t v, Tryd.f5.params[j]? = some t → args[j]? = some v → Value.okWide Tryd.prog W .any base t v := hval0
  have hW' := hW
  obtain ⟨p, q, hA0, hV, rfl, hfz, hnd⟩ := hW
  have hA : DataW.TrodAll enc Tryd.prog W 0 (fun _ => true) true Tryd.f5.params.toList args.toList ds p := hA0
  rw [Tryd.params5] at hA hval
  obtain ⟨v0, vs0, d0, ds0, p0, q0, hargs, rfl, rfl, h0, r0⟩ := trodAll_cons hA
  obtain ⟨v1, vs1, d1, ds1, p1, q1, rfl, rfl, rfl, h1, r1⟩ := trodAll_cons r0
  obtain ⟨v2, vs2, d2, ds2, p2, q2, rfl, rfl, rfl, h2, r2⟩ := trodAll_cons r1
  obtain ⟨rfl, rfl, rfl⟩ := trodAll_nil r2
  obtain rfl : args = #[v0, v1, v2] := by cases args; simp_all
  obtain ⟨rfl, rfl⟩ := trodVars_none hV
  obtain ⟨a0, rfl, rfl, rfl, w0⟩ := open_string Tryd.underlying9 (hval 0 9 v0 rfl rfl) h0
  obtain ⟨a1, rfl, rfl, rfl, w1⟩ := open_int Tryd.underlying5 (hval 1 5 v1 rfl rfl) h1
  obtain ⟨a2, rfl, rfl, rfl, w2⟩ := open_int Tryd.underlying3 (hval 2 3 v2 rfl rfl) h2
  clear hA0 hval0
  refine (walk a0 a1 a2 w0 w1 w2 W hL hsh).mono fun e W' ⟨he, bel⟩ => ?_
  subst he
  exact ⟨_, rfl, _, _, _, [], _, [], hW', trodAll_mk1 (shut_bool Tryd.underlying4 _), (trodAll_cons_mk (shut_string Tryd.underlying9 w0) (trodAll_cons_mk (shut_int Tryd.underlying5 w1) (trodAll_cons_mk (shut_int Tryd.underlying3 w2) trodAll_mk0))), rfl, bel.frame _, fun h => by cases h⟩

set_option maxRecDepth 100000 in
theorem laid_met (os : Os) : laidMet Tryd.prog Rows.textFieldsRow.laid ((World.doorLaid Tryd.prog 2000 os).forCall (fun _ _ => 0) ⟨#[], #[.string ByteArray.empty, .int .u8 0, .int .i64 0], []⟩).memory :=
  laidMet_of_run' 8 (by kernel_rfl) (by kernel_rfl)
theorem reads (os : Os) {H : Type} (enc : TypeId × Value → H) : ∃ places, DataW.whole enc Tryd.prog ((World.doorLaid Tryd.prog 2000 os).forCall (fun _ _ => 0) ⟨#[], #[.string ByteArray.empty, .int .u8 0, .int .i64 0], []⟩).memory Tryd.f5.params.toList Rows.textFieldsSpec.vars false (#[.string ByteArray.empty, .int .u8 0, .int .i64 0] : Array Value).toList 8 = some ([.lit (.string []), .lit (.int .u8 0), .lit (.int .i64 0)], [], places) :=
  ⟨[], by kernel_rfl⟩
set_option maxRecDepth 100000 in
theorem lifted (os : Os) (started : os.Started) (H : Type) (enc : TypeId × Value → H) (F : Stop.Interp) :
    ReturnsInHanded {} Tryd.checked os 5 .any ((OpenSpec.ofChange Rows.textFieldsSpec).preRow enc Tryd.prog Tryd.f5 Rows.textFieldsRow.domain false Rows.textFieldsRow.laid) (((OpenSpec.ofChange Rows.textFieldsSpec).at F).post enc Tryd.prog Tryd.f5 false true false false) := by
  obtain ⟨places, hx⟩ := reads os enc
  refine returnsInHanded_of_row (C := Tryd.checked) (s := OpenSpec.ofChange Rows.textFieldsSpec) own started (by kernel_rfl) Tryd.func5
    (witness_row_at (enc := enc) (C := Tryd.checked) false (World.doorLaid Tryd.prog 2000 os) #[.string ByteArray.empty, .int .u8 0, .int .i64 0] rfl (by kernel_rfl) (by kernel_rfl) (by kernel_rfl)
      (OpenSpec.preRow_of_cond 8 hx (by kernel_rfl) (fun k hk => by cases hk) (by kernel_rfl) (laid_met os))) ?_
  intro W base args ds gs before hval hW _ _ _ hL hsh _
  exact contract H enc W base args ds gs before hval hW hL hsh
theorem said : Rows.TextFieldsSaid :=
  OpenClaim.holds_of_cond 5 Tryd.f5 rfl rfl rfl rfl rfl rfl rfl ⟨rfl, rfl, rfl, rfl, rfl⟩ rfl rfl rfl rfl rfl (by kernel_rfl) Tryd.func5 (by kernel_rfl)
    (of_decide_eq_true (by kernel_rfl)) (by unfold Func.isWrapper; first | (rw [if_pos (by decide +kernel)]; kernel_rfl) | (rw [if_neg (by decide +kernel)]; exact ⟨rfl, rfl⟩))
    (fun os started H enc _ F => by rw [OpenClaim.pre_eq_preRow]; exact lifted os started H enc F)
theorem plain (f : FuncId) (fn : Func) (hf : Tryd.pinned.checked.prog.funcNamed "inquest/inquestlaw04.TextFields" = some f) (hfn : Tryd.pinned.checked.prog.funcs[f]? = some fn) :
    true = Tryd.pinned.checked.prog.looks [] ∧ ∀ (j : Nat) t, fn.params[j]? = some t → Tryd.pinned.checked.prog.wantsStandIn t = false := by
  obtain rfl : f = 5 := Option.some.inj ((show Tryd.prog.funcNamed "inquest/inquestlaw04.TextFields" = some 5 by kernel_rfl).symm.trans hf) |>.symm
  obtain rfl : fn = Tryd.f5 := (Option.some.inj (Tryd.func5.symm.trans hfn)).symm
  refine ⟨by kernel_rfl, fun j t ht => ?_⟩
  rw [Tryd.params5] at ht
  have hall : ([9, 5, 3].all fun u => !Tryd.prog.wantsStandIn u) = true := by kernel_rfl
  have hm : t ∈ [9, 5, 3] := by simpa using Array.mem_of_getElem? ht
  exact (show Tryd.prog.wantsStandIn t = false by simpa using List.all_eq_true.1 hall t hm)
/-- the tied card -/
theorem card : Rows.TextFieldsCardSaid :=
  Claim7.holds_tied_plain_at .later [] _ _ _ _ said (fun _ h => by cases h) (by kernel_rfl) (fun _ h => by cases h) textFields_row_tie rfl ⟨rfl, rfl⟩ (by kernel_rfl) rfl plain (by kernel_rfl)
end Go.Proofs.YtakploildkeofaaDoor.textFields
namespace Go.Proofs.YtakploildkeofaaDoor
theorem textFields_holds : Rows.TextFieldsCardSaid := textFields.card
#print axioms textFields_holds
end Go.Proofs.YtakploildkeofaaDoor
