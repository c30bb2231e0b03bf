/- StoreNobody: what a store answers that no call made. -/
import Derived.Test.YtjnjokbdoendkabRows
import Derived.Test.YtjnjokbdoendkabSNo
import Derived.WalkKit
import Derived.ProofKit
import Derived.OpenShut
import Derived.ShutString
import Derived.ChangeOld
import Derived.Below
namespace Go.Proofs.Ytjnjokbdoendkab.storeNobody
open Go.ChangeShapes Go.WideShapes Go.ChangeAt Go.RowKit
open Go.ChangeMaps (open_string shut_string)
set_option linter.unusedVariables false

theorem own : ownKnob Try.prog.godebug = none := by kernel_rfl
theorem laidOut : laidOutB Try.prog = true := by kernel_rfl


set_option maxRecDepth 100000 in
set_option maxHeartbeats 1000000 in
theorem walk (a0 : Option Addr) (len0 cap0 : Nat) (c : List Chg) (key : ByteArray) (most : Int) (w : World) (hc : Chs w a0 len0 cap0 c) (hkey : key.size ≤ maxLen) (hmost : I64 most) :
    Calls Try.prog 4 #[.slice a0 len0 cap0, .string key, .int .i64 most] w fun e w' => e = .returned (.bool true) ∧ Below w.heap.size w w' := by
  have HL := Bx.mk hc
  have HBZ : Bx (∀ W : World, NoS (W.alloc (.cells #[.pointer none, .int .i64 0, .map none, .int .i64 0] 54)) (some ⟨W.heap.size, 0, none⟩)) := ⟨fun W => .inr ⟨_, rfl, cell_of_row _ _ 0 _ _ (0, 0) (heap_alloc_new W _)⟩⟩
  have hk2 := hkey
  unfold maxLen at hk2
  clear hc
  go_enter Try.func4, Try.ntmps4
  go_wp2_with fail
  refine (few11_any a0 len0 cap0 _ c _ HL.out.1 HL.out.2).mono ?_
  rintro e w1 ⟨v1, rfl, hCL1, hb1⟩
  obtain ⟨a2, c2, rfl, _⟩ := hCL1.form
  have HW1 := Bx.mk hb1
  clear hCL1 hb1
  go_wp2_with fail
  refine (scut_any key 60 _ (by omega)).mono ?_
  rintro e w2 ⟨⟨s, rfl, hsz⟩, rfl⟩
  clear hsz
  go_wp2_with fail
  refine (sget_no none s _ (.inl rfl)).mono ?_
  rintro e w3 ⟨rfl, rfl⟩
  go_wp2_with fail
  refine (sopen_no none 5 _ (by decide) (.inl rfl)).mono ?_
  rintro e w3 ⟨rfl, rfl⟩
  go_wp2_with fail
  refine (scommit_no none _ _ (.inl rfl)).mono ?_
  rintro e w3 ⟨rfl, rfl⟩
  go_wp2_with fail
  refine (scommit_no _ _ _ (HBZ.out _)).mono ?_
  rintro e w3 ⟨rfl, hw3⟩
  have HW3 : Bx (Below w.heap.size w w3) := ⟨by rw [← hw3]; exact bstep HW1.out ((Below.refl _ _).alloc (Nat.le_refl _) _)⟩
  clear hw3
  go_wp2_with fail
  refine (sscan_nil _ s most _).mono ?_
  rintro e w4 ⟨rfl, hb4⟩
  have HW4 := Bx.mk (bstep HW3.out hb4)
  clear hb4
  go_wp2_with fail
  refine (sall_no none _ (.inl rfl)).mono ?_
  rintro e w5 ⟨rfl, rfl⟩
  go_wp2_with fail
  refine (sused_no none _ (.inl rfl)).mono ?_
  rintro e w5 ⟨rfl, rfl⟩
  go_wp2_with fail
  refine (sroom_no none _ (.inl rfl)).mono ?_
  rintro e w5 ⟨rfl, rfl⟩
  go_wp2_with fail
  refine (lives_any _).mono ?_
  rintro e w6 ⟨rfl, hb6⟩
  have hfin := bstep HW4.out hb6
  go_wp2_with fail
  go_ret
  exact ⟨rfl, hfin⟩

set_option maxRecDepth 100000 in
theorem lifted (os : Os) (started : os.Started) (H : Type) (enc : TypeId × Value → H) :
    ReturnsInHanded {} Try.checked os 4 .any (Rows.storeNobodySpec.pre6 enc Try.prog Try.f4 Rows.storeNobodyRow.domain false) (Rows.storeNobodySpec.post enc Try.prog Try.f4 false true false false) := by
  refine returnsInHanded_of_change (C := Try.checked) own started (by kernel_rfl) Try.func4
    (ChangeSpec.witness6 (enc := enc) (C := Try.checked) false ⟨#[], #[.slice none 0 0, .string ⟨#[]⟩, .int .i64 0], []⟩ 8 (by kernel_rfl) (by kernel_rfl) (by kernel_rfl) (by kernel_rfl)) ?_
  intro W base args ds gs before hval0 hW hcnd _
  have hval : ∀ (j : Nat) t v, Try.f4.params[j]? = some t → args[j]? = some v → Value.okWide Try.prog W .any base t v := hval0
  have hW' := hW
  obtain ⟨p, q, hA0, hV, rfl, hfz, hnd⟩ := hW
  have hA : DataW.TrodAll enc Try.prog W 0 (fun _ => true) true Try.f4.params.toList args.toList ds p := hA0
  rw [Try.params4] at hA hval
  obtain ⟨v0, vs0, d0, ds0, p0, q0, hargs, rfl, rfl, h0, r0⟩ := trodAll_cons hA
  obtain ⟨v1, vs1, d1, ds1, p1, q1, rfl, rfl, rfl, h1, r1⟩ := trodAll_cons r0
  obtain ⟨v2, vs2, d2, ds2, p2, q2, rfl, rfl, rfl, h2, r2⟩ := trodAll_cons r1
  obtain ⟨rfl, rfl, rfl⟩ := trodAll_nil r2
  obtain rfl : args = #[v0, v1, v2] := by cases args; simp_all
  obtain ⟨rfl, rfl⟩ := trodVars_none hV
  obtain ⟨a0, len0, cap0, rfl⟩ := okWide_slice Try.underlying34 (hval 0 34 v0 rfl rfl)
  have k0 := h0
  have lt0 : ∀ x ∈ p0, x.block < W.heap.size := by obtain ⟨m, hm⟩ := k0; exact DataW.trod_lt m _ _ _ hm
  have k1 := h1
  have lt1 : ∀ x ∈ p1, x.block < W.heap.size := by obtain ⟨m, hm⟩ := k1; exact DataW.trod_lt m _ _ _ hm
  have k2 := h2
  have lt2 : ∀ x ∈ p2, x.block < W.heap.size := by obtain ⟨m, hm⟩ := k2; exact DataW.trod_lt m _ _ _ hm
  obtain ⟨c, hc⟩ := open_chs h0
  obtain ⟨key, rfl, hkey⟩ := open_str (hval 1 9 v1 rfl rfl) h1
  obtain ⟨most, rfl, hmost⟩ := open_i64 (hval 2 3 v2 rfl rfl) h2
  clear hA0 hval0
  refine (walk a0 len0 cap0 c key most W hc hkey hmost).mono fun e W' ⟨he, bel⟩ => ?_
  subst he
  exact ⟨_, rfl, _, _, _, [], _, [], hW', trodAll_mk1 (shut_bool Try.underlying4 _), (trodAll_cons_mk (Below.trod laidOut (by kernel_rfl) (of_decide_eq_true (by kernel_rfl)) k0 bel lt0) (trodAll_cons_mk (Below.trod laidOut (by kernel_rfl) (of_decide_eq_true (by kernel_rfl)) k1 bel lt1) (trodAll_cons_mk (Below.trod laidOut (by kernel_rfl) (of_decide_eq_true (by kernel_rfl)) k2 bel lt2) trodAll_mk0))), rfl, bel.frame _, fun h => by cases h⟩

theorem over : Rows.storeNobodyRow.holds Try.pinned (OpenSpec.ofChange Rows.storeNobodySpec) :=
  OpenClaim.holds_of_wide 4 Try.f4 rfl rfl rfl rfl rfl rfl rfl ⟨rfl, rfl, rfl, rfl, rfl⟩ rfl rfl rfl rfl rfl (by kernel_rfl) Try.func4 (by kernel_rfl)
    (of_decide_eq_true (by kernel_rfl)) (by unfold Func.isWrapper; first | (rw [if_pos (by decide +kernel)]; kernel_rfl) | (rw [if_neg (by decide +kernel)]; exact ⟨rfl, rfl⟩))
    (fun os started H enc _ => lifted os started H enc)

/-- the statement -/
theorem proved : Rows.StoreNobodySaid := over
end Go.Proofs.Ytjnjokbdoendkab.storeNobody
namespace Go.Proofs.Ytjnjokbdoendkab
theorem storeNobody_holds : Rows.StoreNobodySaid := storeNobody.proved
#print axioms storeNobody_holds
end Go.Proofs.Ytjnjokbdoendkab
