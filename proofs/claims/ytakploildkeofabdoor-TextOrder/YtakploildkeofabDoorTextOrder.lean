/- For every two ints the law TextOrder returns true (P4.2): of two numbers from 0 on the lesser one is written with fewer digits, or with as many and ahead of the other one. The library's tables are as the program's text lays them (the card ties them). -/
import Derived.Test.YtakploildkeofabDoorTDoor
import Derived.LaidMore
import Derived.Test.YtakploildkeofabDoorDecAny
import Derived.WalkKit
import Derived.ShutString
import Derived.ChangeOld
import Derived.Below
namespace Go.Proofs.YtakploildkeofabDoor.textOrder
open Go.ChangeShapes Go.WideShapes Go.ChangeAt Go.RowKit
open Go.ChangeMaps (open_string shut_string)
set_option linter.unusedVariables false



theorem str_list (l : List UInt8) : (⟨l.toArray⟩ : ByteArray).toList = l := by rw [Lib.toList_data]
theorem str_size (l : List UInt8) : (⟨l.toArray⟩ : ByteArray).size = l.length := by rw [Lib.size_eq]
theorem order_facts (M N : Nat) (A B : ByteArray) (hA : A = ⟨(Lib.decDigits M).toArray⟩) (hB : B = ⟨(Lib.decDigits N).toArray⟩) :
    (A.toList == B.toList) = decide (M = N) ∧ (M < N → A.size < B.size ∨ (A.size = B.size ∧ Op.bytesLess A.toList B.toList = true)) ∧ (N ≤ M → B.size < A.size ∨ (A.size = B.size ∧ Op.bytesLess A.toList B.toList = false)) := by
  subst hA hB
  rw [str_list, str_list, str_size, str_size, Lib.decDigits_length, Lib.decDigits_length]
  refine ⟨?_, fun h => ?_, fun h => ?_⟩
  · rw [Bool.eq_iff_iff]; simp; exact ⟨decDigits_inj _ _, fun h => by rw [h]⟩
  · have := nDigits_mono M N (by omega)
    by_cases e : Lib.nDigits M = Lib.nDigits N
    · exact .inr ⟨e, by rw [dec_less M N e]; simpa using h⟩
    · exact .inl (by omega)
  · have := nDigits_mono N M h
    by_cases e : Lib.nDigits M = Lib.nDigits N
    · exact .inr ⟨e, by rw [dec_less M N e]; simpa using h⟩
    · exact .inl (by omega)

set_option maxRecDepth 100000 in
set_option maxHeartbeats 1000000 in
theorem walk (a0 : Int) (a1 : Int) (w0 : (Lit.int .i64 a0).wf = true) (w1 : (Lit.int .i64 a1).wf = true) (w : World) (hL : laidMetH Tryd.prog Rows.textOrderRow.laid w) (hsh : w.ShapedOpen Tryd.prog) :
    Calls Tryd.prog 3 #[.int .i64 a0, .int .i64 a1] w fun e w' => e = .returned (.bool true) ∧ Below w.heap.size w w' := by
  have ht := tens_of_third (plainH hL (by kernel_rfl))
  clear hL hsh
  have wi : ∀ a : Int, (Lit.int .i64 a).wf = true → -9223372036854775808 ≤ a ∧ a ≤ 9223372036854775807 := fun a h => by
    simp [Lit.wf] at h; exact h
  obtain ⟨l0, u0⟩ := wi a0 w0
  obtain ⟨l1, u1⟩ := wi a1 w1
  clear wi w0 w1
  go_enter Tryd.func3, Tryd.ntmps3
  go_wp2_with fail
  obtain ⟨M, hM, uM⟩ : ∃ M : Nat, max a0 0 = (M : Int) ∧ M ≤ 9223372036854775807 := ⟨(max a0 0).toNat, by omega, by omega⟩
  obtain ⟨N, hN, uN⟩ : ∃ N : Nat, max a1 0 = (N : Int) ∧ N ≤ 9223372036854775807 := ⟨(max a1 0).toNat, by omega, by omega⟩
  rw [hM, hN]
  clear hM hN l0 u0 l1 u1
  refine (dec_any (M : Int) (by omega) (by omega) _ ht).mono ?_
  rintro e w1 ⟨rfl, hb1⟩
  rw [itoa_nat]
  generalize hA : (⟨(Lib.decDigits M).toArray⟩ : ByteArray) = A
  have HA : Hid (A = ⟨(Lib.decDigits M).toArray⟩) := hA.symm
  have ht1 := ht.below hb1
  clear hA ht
  go_wp2_with fail
  refine (dec_any (N : Int) (by omega) (by omega) _ ht1).mono ?_
  rintro e w2 ⟨rfl, hb2⟩
  rw [itoa_nat]
  generalize hB : (⟨(Lib.decDigits N).toArray⟩ : ByteArray) = B
  obtain ⟨hEq, hLt, hGe⟩ := order_facts M N A B HA.out hB.symm
  have hb := bstep hb1 hb2
  clear hB ht1 hb1 hb2 HA
  have e1 : (true == true) = true := rfl
  rcases Nat.lt_trichotomy M N with h | h | h
  · have q1 : (M : Int) < (N : Int) := by omega
    have q2 : decide ((M : Int) < (N : Int)) = true := by simpa using q1
    have q3 : ((M : Int) == (N : Int)) = false := by simp; omega
    have q4 : (A.toList == B.toList) = false := by rw [hEq]; simp; omega
    have hl := hLt h
    clear hEq hLt hGe
    rcases hl with k | ⟨k, k2⟩
    · have k3 : (A.size : Int) < (B.size : Int) := by omega
      go_wp2_with fail
      refine (lives_any _).mono ?_
      rintro e w' ⟨rfl, rfl⟩
      go_wp2
      go_ret
      exact ⟨rfl, hb⟩
    · have k3 : ¬ (A.size : Int) < (B.size : Int) := by omega
      have k4 : ((A.size : Int) == (B.size : Int)) = true := by simp [k]
      clear k
      go_wp2_with fail
      refine (lives_any _).mono ?_
      rintro e w' ⟨rfl, rfl⟩
      go_wp2
      go_ret
      exact ⟨rfl, hb⟩
  · have q1 : ¬ (M : Int) < (N : Int) := by omega
    have q2 : decide ((M : Int) < (N : Int)) = false := by simpa using q1
    have q3 : ((M : Int) == (N : Int)) = true := by simp; omega
    have q4 : (A.toList == B.toList) = true := by rw [hEq]; simpa using h
    have hl := hGe (by omega)
    have hab : A.size = B.size := by
      have : A.toList = B.toList := by simpa using q4
      rw [Lib.toList_data, Lib.toList_data] at this
      rw [Lib.size_eq, Lib.size_eq, this]
    clear hEq hLt hGe
    rcases hl with k | ⟨k, k2⟩
    · exfalso; omega
    · have k3 : ¬ (A.size : Int) < (B.size : Int) := by omega
      have k4 : ((A.size : Int) == (B.size : Int)) = true := by simp [k]
      clear k hab h
      go_wp2_with fail
      refine (lives_any _).mono ?_
      rintro e w' ⟨rfl, rfl⟩
      go_wp2
      go_ret
      exact ⟨rfl, hb⟩
  · have q1 : ¬ (M : Int) < (N : Int) := by omega
    have q2 : decide ((M : Int) < (N : Int)) = false := by simpa using q1
    have q3 : ((M : Int) == (N : Int)) = false := by simp; omega
    have q4 : (A.toList == B.toList) = false := by rw [hEq]; simp; omega
    have hl := hGe (by omega)
    clear hEq hLt hGe
    rcases hl with k | ⟨k, k2⟩
    · have k3 : ¬ (A.size : Int) < (B.size : Int) := by omega
      have k4 : ((A.size : Int) == (B.size : Int)) = false := by simp; omega
      go_wp2_with fail
      refine (lives_any _).mono ?_
      rintro e w' ⟨rfl, rfl⟩
      go_wp2
      go_ret
      exact ⟨rfl, hb⟩
    · have k3 : ¬ (A.size : Int) < (B.size : Int) := by omega
      have k4 : ((A.size : Int) == (B.size : Int)) = true := by simp [k]
      clear k
      go_wp2_with fail
      refine (lives_any _).mono ?_
      rintro e w' ⟨rfl, rfl⟩
      go_wp2
      go_ret
      exact ⟨rfl, hb⟩

/-- what the walk gives, for every argument and every world that holds the table -/
theorem contract (H : Type) (enc : TypeId × Value → H) (W : World) (base : Nat) (args : Array Value) (ds gs : List (DataW H)) (before : List MemPlace)
    (hval0 : ∀ (j : Nat) t v, Tryd.f3.params[j]? = some t → args[j]? = some v → Value.okWide Tryd.prog W .any base t v)
    (hW : DataW.Whole enc Tryd.prog Tryd.f3.params.toList Rows.textOrderSpec.vars false W args.toList ds gs before) (hL : laidMetH Tryd.prog Rows.textOrderRow.laid W) (hsh : W.ShapedOpen Tryd.prog) :
    Calls Tryd.prog 3 args W fun e W' => ∃ v, e = .returned v ∧ Rows.textOrderSpec.post enc Tryd.prog Tryd.f3 false true false false W args v W' := by
  have hval : ∀ (j : Nat) t v, Tryd.f3.params[j]? = some t → args[j]? = some v → Value.okWide Tryd.prog W .any base t v := hval0
  have hW' := hW
  obtain ⟨p, q, hA0, hV, rfl, hfz, hnd⟩ := hW
  have hA : DataW.TrodAll enc Tryd.prog W 0 (fun _ => true) true Tryd.f3.params.toList args.toList ds p := hA0
  rw [Tryd.params3] at hA hval
  obtain ⟨v0, vs0, d0, ds0, p0, q0, hargs, rfl, rfl, h0, r0⟩ := trodAll_cons hA
  obtain ⟨v1, vs1, d1, ds1, p1, q1, rfl, rfl, rfl, h1, r1⟩ := trodAll_cons r0
  obtain ⟨rfl, rfl, rfl⟩ := trodAll_nil r1
  obtain rfl : args = #[v0, v1] := by cases args; simp_all
  obtain ⟨rfl, rfl⟩ := trodVars_none hV
  obtain ⟨a0, rfl, rfl, rfl, w0⟩ := open_int Tryd.underlying3 (hval 0 3 v0 rfl rfl) h0
  obtain ⟨a1, rfl, rfl, rfl, w1⟩ := open_int Tryd.underlying3 (hval 1 3 v1 rfl rfl) h1
  clear hA0 hval0
  refine (walk a0 a1 w0 w1 W hL hsh).mono fun e W' ⟨he, bel⟩ => ?_
  subst he
  exact ⟨_, rfl, _, _, _, [], _, [], hW', trodAll_mk1 (shut_bool Tryd.underlying4 _), (trodAll_cons_mk (shut_int Tryd.underlying3 w0) (trodAll_cons_mk (shut_int Tryd.underlying3 w1) trodAll_mk0)), rfl, bel.frame _, fun h => by cases h⟩

set_option maxRecDepth 100000 in
theorem laid_met (os : Os) : laidMet Tryd.prog Rows.textOrderRow.laid ((World.doorLaid Tryd.prog 2000 os).forCall (fun _ _ => 0) ⟨#[], #[.int .i64 0, .int .i64 0], []⟩).memory :=
  laidMet_of_run' 8 (by kernel_rfl) (by kernel_rfl)
theorem reads (os : Os) {H : Type} (enc : TypeId × Value → H) : ∃ places, DataW.whole enc Tryd.prog ((World.doorLaid Tryd.prog 2000 os).forCall (fun _ _ => 0) ⟨#[], #[.int .i64 0, .int .i64 0], []⟩).memory Tryd.f3.params.toList Rows.textOrderSpec.vars false (#[.int .i64 0, .int .i64 0] : Array Value).toList 8 = some ([.lit (.int .i64 0), .lit (.int .i64 0)], [], places) :=
  ⟨[], by kernel_rfl⟩
set_option maxRecDepth 100000 in
theorem lifted (os : Os) (started : os.Started) (H : Type) (enc : TypeId × Value → H) (F : Stop.Interp) :
    ReturnsInHanded {} Tryd.checked os 3 .any ((OpenSpec.ofChange Rows.textOrderSpec).preRow enc Tryd.prog Tryd.f3 Rows.textOrderRow.domain false Rows.textOrderRow.laid) (((OpenSpec.ofChange Rows.textOrderSpec).at F).post enc Tryd.prog Tryd.f3 false true false false) := by
  obtain ⟨places, hx⟩ := reads os enc
  refine returnsInHanded_of_row (C := Tryd.checked) (s := OpenSpec.ofChange Rows.textOrderSpec) own started (by kernel_rfl) Tryd.func3
    (witness_row_at (enc := enc) (C := Tryd.checked) false (World.doorLaid Tryd.prog 2000 os) #[.int .i64 0, .int .i64 0] rfl (by kernel_rfl) (by kernel_rfl) (by kernel_rfl)
      (OpenSpec.preRow_of_cond 8 hx (by kernel_rfl) (fun k hk => by cases hk) (by kernel_rfl) (laid_met os))) ?_
  intro W base args ds gs before hval hW _ _ _ hL hsh _
  exact contract H enc W base args ds gs before hval hW hL hsh
theorem said : Rows.TextOrderSaid :=
  OpenClaim.holds_of_cond 3 Tryd.f3 rfl rfl rfl rfl rfl rfl rfl ⟨rfl, rfl, rfl, rfl, rfl⟩ rfl rfl rfl rfl rfl (by kernel_rfl) Tryd.func3 (by kernel_rfl)
    (of_decide_eq_true (by kernel_rfl)) (by unfold Func.isWrapper; first | (rw [if_pos (by decide +kernel)]; kernel_rfl) | (rw [if_neg (by decide +kernel)]; exact ⟨rfl, rfl⟩))
    (fun os started H enc _ F => by rw [OpenClaim.pre_eq_preRow]; exact lifted os started H enc F)
theorem plain (f : FuncId) (fn : Func) (hf : Tryd.pinned.checked.prog.funcNamed "inquest/inquestlaw04.TextOrder" = some f) (hfn : Tryd.pinned.checked.prog.funcs[f]? = some fn) :
    false = Tryd.pinned.checked.prog.looks [] ∧ ∀ (j : Nat) t, fn.params[j]? = some t → Tryd.pinned.checked.prog.wantsStandIn t = false := by
  obtain rfl : f = 3 := Option.some.inj ((show Tryd.prog.funcNamed "inquest/inquestlaw04.TextOrder" = some 3 by kernel_rfl).symm.trans hf) |>.symm
  obtain rfl : fn = Tryd.f3 := (Option.some.inj (Tryd.func3.symm.trans hfn)).symm
  refine ⟨by kernel_rfl, fun j t ht => ?_⟩
  rw [Tryd.params3] at ht
  have hall : ([3, 3].all fun u => !Tryd.prog.wantsStandIn u) = true := by kernel_rfl
  have hm : t ∈ [3, 3] := by simpa using Array.mem_of_getElem? ht
  exact (show Tryd.prog.wantsStandIn t = false by simpa using List.all_eq_true.1 hall t hm)
/-- the tied card -/
theorem card : Rows.TextOrderCardSaid :=
  Claim7.holds_tied_plain_at .later [] _ _ _ _ said (fun _ h => by cases h) (by kernel_rfl) (fun _ h => by cases h) textOrder_row_tie rfl ⟨rfl, rfl⟩ (by kernel_rfl) rfl plain (by kernel_rfl)
end Go.Proofs.YtakploildkeofabDoor.textOrder
namespace Go.Proofs.YtakploildkeofabDoor
theorem textOrder_holds : Rows.TextOrderCardSaid := textOrder.card
#print axioms textOrder_holds
end Go.Proofs.YtakploildkeofabDoor
