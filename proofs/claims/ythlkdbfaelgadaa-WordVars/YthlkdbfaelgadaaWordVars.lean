/- For every uint64 x and every slice of bytes the law WordVars returns true and the slice reads as it did (P1.2): Var writes x short as the document says, ReadVar reads what the bytes begin with, or says why there is nothing, and changes nothing. No condition. -/
import Derived.Test.YthlkdbfaelgadaaRows
import Derived.Test.YthlkdbfaelgadaaLives
import Derived.Test.YthlkdbfaelgadaaCut
import Derived.Test.YthlkdbfaelgadaaSame
import Derived.Test.YthlkdbfaelgadaaRefVar
import Derived.WalkKit
import Derived.ProofKit
import Derived.OpenShut
import Derived.ShutString
import Derived.ChangeOld
import Derived.Below
namespace Go.Proofs.Ythlkdbfaelgadaa.wordVars
open Go.ChangeShapes Go.WideShapes Go.ChangeAt Go.RowKit
open Go.ChangeMaps (open_string shut_string)
set_option linter.unusedVariables false

theorem own : ownKnob Try.prog.godebug = none := by kernel_rfl
theorem laidOut : laidOutB Try.prog = true := by kernel_rfl

/-- WHAT THE WALK IS TOLD OF A SLICE OF INTEGERS THAT CAME IN: it is nil; or it leads to a row of 'cap' cells, the numbers 'zs' (the first 'len' are its elements, the rest its spare room), each fitting its kind. -/
def IsRow (k : IntKind) (w : World) (a : Option Addr) (len cap : Nat) (zs : List Int) : Prop :=
  (a = none ∧ len = 0 ∧ cap = 0 ∧ zs = []) ∨
  ∃ x, a = some x ∧ len ≤ cap ∧ cap ≤ maxLen ∧ zs.length = cap ∧ (∀ i, i < zs.length → w.cell? (x.add i) = some (.int k (zs.getD i 0))) ∧ ∀ n ∈ zs, (Lit.int k n).wf = true

/-! ### STEP 1: THE WALK: the Go text returns true, AND WRITES NOTHING THAT WAS THERE: 'Below w.heap.size w w'' (Derived/Below.lean: '.refl', '.alloc', '.drew', '.setCell' at a new block, '.trans'). Open each 'IsRow' by 'rcases' AHEAD of 'go_enter'; part every test ahead of the walk. -/
set_option maxHeartbeats 1000000 in
theorem walk (a0 : Int) (a1 : Option Addr) (len1 cap1 : Nat) (z1 : List Int) (w : World) (w0 : (Lit.int .u64 a0).wf = true) (w1 : IsRow .u8 w a1 len1 cap1 z1) :
    Calls Try.prog 5 #[.int .u64 a0, .slice a1 len1 cap1] w fun e w' => e = .returned (.bool true) ∧ Below w.heap.size w w' := by
  have hx : 0 ≤ a0 ∧ a0 ≤ 18446744073709551615 := bounds_u64 w0
  have hrow : Bts w a1 len1 cap1 (z1.take len1) := Bts.of_row w1
  generalize z1.take len1 = l at hrow
  clear w1
  go_enter Try.func5, Try.ntmps5
  go_wp2_with fail
  refine (cut_any a1 len1 cap1 40 l _ hrow (by decide)).mono ?_
  rintro e w' ⟨⟨len, rfl, hl⟩, rfl⟩
  have hlen : len ≤ 40 := by have := hl.len_eq; rw [List.length_take] at this; omega
  generalize l.take 40 = m at hl
  clear hrow
  go_wp2_with fail
  refine (copy_any a1 len cap1 m _ hl (by omega)).mono ?_
  rintro e w2 ⟨v, rfl, hown, hb2⟩
  obtain ⟨a3, cap3, rfl, hm⟩ := Bts.of_owns hown hl.byt
  have hl2 := hl.below hb2
  clear hown hl
  go_wp2_with fail
  refine (readvar_any a3 len cap3 m _ hm).mono ?_
  rintro e w' ⟨rfl, rfl⟩
  have hR : ∃ x n c : Int, rd m 0 0 = (x, n, c) := ⟨_, _, _, rfl⟩
  obtain ⟨x, n, c, hr⟩ := hR
  have HR : Hid (rd m 0 0 = (x, n, c)) := hr
  rw [hr]
  clear hr
  unfold rdVal
  go_wp2_with fail
  refine (refreadvar_any a1 len cap1 m _ hl2).mono ?_
  rintro e w' ⟨rfl, rfl⟩
  rw [HR.out]
  unfold rdVal
  go_wp2_with fail
  refine (var_any a0 _ hx.1 hx.2).mono ?_
  rintro e w4 ⟨v4, rfl, hown4, hb4⟩
  obtain ⟨a4, cap4, rfl, hm4⟩ := Bts.of_owns hown4 (varL_byt a0 hx.1 hx.2)
  have hm' := hm.below hb4
  have hl4 := hl2.below hb4
  have hbb := bstep hb2 hb4
  clear hm hl2 hown4 hb2 hb4
  go_wp2_with fail
  refine (refvar_any 9 a0 _ (by omega) hx.1 hx.2 (by rw [show (128 : Int) ^ (9 + 1) = 1180591620717411303424 from rfl]; omega)).mono ?_
  rintro e w5 ⟨v5, rfl, hown5, hb5⟩
  obtain ⟨a5, cap5, rfl, hm5⟩ := Bts.of_owns hown5 (varL_byt a0 hx.1 hx.2)
  have hm4' := hm4.below hb5
  have hm'' := hm'.below hb5
  have hl5 := hl4.below hb5
  have hbb5 := bstep hbb hb5
  clear hm4 hm' hl4 hbb hown5 hb5
  have HV : varF 9 a0 = varL a0 := rfl
  rw [HV] at hm5 ⊢
  clear HV
  go_wp2_with fail
  refine (same_yes _ _ _ _ _ _ (varL a0) _ hm4' hm5).mono ?_
  rintro e w' ⟨rfl, q, rfl⟩
  go_wp2_with fail
  refine (same_yes _ _ _ _ _ _ m _ (hm''.drewN q) (hl5.drewN q)).mono ?_
  rintro e w' ⟨rfl, q2, rfl⟩
  go_wp2_with fail
  refine (lives_any _).mono ?_
  rintro e w6 ⟨rfl, hb6⟩
  go_wp2
  go_ret
  exact ⟨rfl, bstep (below_drewN hbb5 (q + q2)) hb6⟩

/-! ### THE ROW's STEP: WRITTEN OUT: LEAVE IT -/
set_option maxRecDepth 100000 in
theorem lifted (os : Os) (started : os.Started) (H : Type) (enc : TypeId × Value → H) :
    ReturnsInHanded {} Try.checked os 5 .any (Rows.wordVarsSpec.pre6 enc Try.prog Try.f5 Rows.wordVarsRow.domain false) (Rows.wordVarsSpec.post enc Try.prog Try.f5 false true false false) := by
  refine returnsInHanded_of_change (C := Try.checked) own started (by kernel_rfl) Try.func5
    (ChangeSpec.witness6 (enc := enc) (C := Try.checked) false ⟨#[], #[.int .u64 0, .slice none 0 0], []⟩ 8 (by kernel_rfl) (by kernel_rfl) (by kernel_rfl) (by kernel_rfl)) ?_
  intro W base args ds gs before hval0 hW hcnd _
  have hval : ∀ (j : Nat) t v, Try.f5.params[j]? = some t → args[j]? = some v → Value.okWide Try.prog W .any base t v := hval0
  have hW' := hW
  obtain ⟨p, q, hA0, hV, rfl, hfz, hnd⟩ := hW
  have hA : DataW.TrodAll enc Try.prog W 0 (fun _ => true) true Try.f5.params.toList args.toList ds p := hA0
  rw [Try.params5] at hA hval
  obtain ⟨v0, vs0, d0, ds0, p0, q0, hargs, rfl, rfl, h0, r0⟩ := trodAll_cons hA
  obtain ⟨v1, vs1, d1, ds1, p1, q1, rfl, rfl, rfl, h1, r1⟩ := trodAll_cons r0
  obtain ⟨rfl, rfl, rfl⟩ := trodAll_nil r1
  obtain rfl : args = #[v0, v1] := by cases args; simp_all
  obtain ⟨rfl, rfl⟩ := trodVars_none hV
  obtain ⟨a0, rfl, rfl, rfl, w0⟩ := open_int Try.underlying22 (hval 0 22 v0 rfl rfl) h0
  obtain ⟨a1, len1, cap1, rfl⟩ := okWide_slice Try.underlying23 (hval 1 23 v1 rfl rfl)
  have k1 := h1
  have lt1 : ∀ x ∈ p1, x.block < W.heap.size := by obtain ⟨m, hm⟩ := k1; exact DataW.trod_lt m _ _ _ hm
  obtain ⟨z1, w1⟩ : ∃ zs, IsRow .u8 W a1 len1 cap1 zs := by
    obtain ⟨fuel, hf⟩ := h1
    rcases open_ints Try.underlying23 Try.underlying5 (by kernel_rfl) hf with ⟨hcs, _⟩ | ⟨x, l, c, zs, hcs, _, hl, hm, hz, _, hcell, hwz⟩
    · simp [Value.cells] at hcs
      obtain ⟨rfl, rfl, rfl⟩ := hcs
      exact ⟨[], .inl ⟨rfl, rfl, rfl, rfl⟩⟩
    · simp [Value.cells] at hcs
      obtain ⟨rfl, rfl, rfl⟩ := hcs
      exact ⟨zs, .inr ⟨_, rfl, hl, hm, by simpa using hz, hcell, hwz⟩⟩
  clear hA0 hval0
  refine (walk a0 a1 len1 cap1 z1 W w0 w1).mono fun e W' ⟨he, bel⟩ => ?_
  subst he
  exact ⟨_, rfl, _, _, _, [], _, [], hW', trodAll_mk1 (shut_bool Try.underlying4 _), (trodAll_cons_mk (shut_int Try.underlying22 w0) (trodAll_cons_mk (Below.trod laidOut (by kernel_rfl) (of_decide_eq_true (by kernel_rfl)) k1 bel lt1) trodAll_mk0)), rfl, bel.frame _, fun h => by cases h⟩

theorem over : Rows.wordVarsRow.holds Try.pinned (OpenSpec.ofChange Rows.wordVarsSpec) :=
  OpenClaim.holds_of_wide 5 Try.f5 rfl rfl rfl rfl rfl rfl rfl ⟨rfl, rfl, rfl, rfl, rfl⟩ rfl rfl rfl rfl rfl (by kernel_rfl) Try.func5 (by kernel_rfl)
    (of_decide_eq_true (by kernel_rfl)) (by unfold Func.isWrapper; first | (rw [if_pos (by decide +kernel)]; kernel_rfl) | (rw [if_neg (by decide +kernel)]; exact ⟨rfl, rfl⟩))
    (fun os started H enc _ => lifted os started H enc)

/-- ████ THE STATEMENT ████ -/
theorem proved : Rows.WordVarsSaid := over
end Go.Proofs.Ythlkdbfaelgadaa.wordVars
namespace Go.Proofs.Ythlkdbfaelgadaa
theorem wordVars_holds : Rows.WordVarsSaid := wordVars.proved
#print axioms wordVars_holds
end Go.Proofs.Ythlkdbfaelgadaa
