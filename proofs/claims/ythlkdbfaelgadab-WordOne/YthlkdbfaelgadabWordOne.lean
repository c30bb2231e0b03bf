/- For every slice of bytes the law WordOne returns true and the slice reads as it did (P1.5): what ReadVar reads, written again by Var, is the bytes that were read; where there is an error it answers 0 and 0. No condition. -/
import Derived.Test.YthlkdbfaelgadabRows
import Derived.Test.YthlkdbfaelgadabLives
import Derived.Test.YthlkdbfaelgadabCut
import Derived.Test.YthlkdbfaelgadabSame
import Derived.Test.YthlkdbfaelgadabVar
import Derived.WalkKit
import Derived.ProofKit
import Derived.OpenShut
import Derived.ShutString
import Derived.ChangeOld
import Derived.Below
namespace Go.Proofs.Ythlkdbfaelgadab.wordOne
open Go.ChangeShapes Go.WideShapes Go.ChangeAt Go.RowKit
open Go.ChangeMaps (open_string shut_string)
set_option linter.unusedVariables false

theorem own : ownKnob Try.prog.godebug = none := by kernel_rfl
theorem laidOut : laidOutB Try.prog = true := by kernel_rfl

/-- WHAT THE WALK IS TOLD OF A SLICE OF INTEGERS THAT CAME IN: it is nil; or it leads to a row of 'cap' cells, the numbers 'zs' (the first 'len' are its elements, the rest its spare room), each fitting its kind. -/
def IsRow (k : IntKind) (w : World) (a : Option Addr) (len cap : Nat) (zs : List Int) : Prop :=
  (a = none ∧ len = 0 ∧ cap = 0 ∧ zs = []) ∨
  ∃ x, a = some x ∧ len ≤ cap ∧ cap ≤ maxLen ∧ zs.length = cap ∧ (∀ i, i < zs.length → w.cell? (x.add i) = some (.int k (zs.getD i 0))) ∧ ∀ n ∈ zs, (Lit.int k n).wf = true

/-! ### STEP 1: THE WALK: the Go text returns true, AND WRITES NOTHING THAT WAS THERE: 'Below w.heap.size w w'' (Derived/Below.lean: '.refl', '.alloc', '.drew', '.setCell' at a new block, '.trans'). Open each 'IsRow' by 'rcases' AHEAD of 'go_enter'; part every test ahead of the walk. -/
set_option maxHeartbeats 1000000 in
theorem walk (a0 : Option Addr) (len0 cap0 : Nat) (z0 : List Int) (w : World) (w0 : IsRow .u8 w a0 len0 cap0 z0) :
    Calls Try.prog 3 #[.slice a0 len0 cap0] w fun e w' => e = .returned (.bool true) ∧ Below w.heap.size w w' := by
  have hrow : Bts w a0 len0 cap0 (z0.take len0) := Bts.of_row w0
  generalize z0.take len0 = l at hrow
  clear w0
  go_enter Try.func3, Try.ntmps3
  go_wp2_with fail
  refine (cut_any a0 len0 cap0 30 l _ hrow (by decide)).mono ?_
  rintro e w' ⟨⟨len, rfl, hl⟩, rfl⟩
  have hlen : len ≤ 30 := by have := hl.len_eq; rw [List.length_take] at this; omega
  generalize l.take 30 = m at hl
  clear hrow
  go_wp2_with fail
  refine (copy_any a0 len cap0 m _ hl (by omega)).mono ?_
  rintro e w1 ⟨v, rfl, hown, hb1⟩
  obtain ⟨a1, cap1, rfl, hm⟩ := Bts.of_owns hown hl.byt
  have hl1 := hl.below hb1
  clear hown hl
  go_wp2_with fail
  refine (readvar_any a1 len cap1 m _ hm).mono ?_
  rintro e w' ⟨rfl, rfl⟩
  clear hm
  obtain ⟨x, n, c, hr⟩ : ∃ x n c : Int, rd m 0 0 = (x, n, c) := ⟨_, _, _, rfl⟩
  have hbd := rd_bd m 0 0 hl1.byt (by omega) (by omega) (by decide)
  rw [hr] at hbd ⊢
  unfold rdVal
  by_cases hc : c = 0
  · subst hc
    obtain ⟨k, y, h1, h2, h3, h4, h5, h6, _⟩ := rd_inv m 0 0 x n hl1.byt (by omega) hr
    have HV : Hid (varL x = m.take k) := by
      show _ = _
      have : x = y := by simpa using h5
      rw [this]; exact h6
    have hk : k ≤ len := by rw [← hl1.len_eq]; exact h2
    obtain rfl : n = (k : Int) := by simpa using h3
    have hcut := hl1.cut k hk
    have hcap : len ≤ cap0 := hl1.le_cap
    have hcap2 := hl1.cap_le
    unfold maxLen at hcap2
    obtain ⟨b, off, rfl, _, _⟩ := hl1.spot (by omega)
    clear h2 h3 h4 h5 h6 hr
    have hbv : Byt (varL x) := varL_byt x hbd.1 hbd.2
    have hs1 : (0 : Int) ≤ (k : Int) := by omega
    have hs2 : (k : Int) ≤ (cap0 : Int) := by omega
    have hs3 : (k : Int) ≤ (len : Int) := by omega
    have hg1 : decide ((1 : Int) ≤ (k : Int)) = true := by simp; omega
    have hg2 : decide ((k : Int) ≤ (len : Int)) = true := by simp; omega
    go_wp2_with fail
    go_region_held3 (fun _ => True) (trivial) (first | (go_at_call 11; refine (var_any x _ hbd.1 hbd.2).mono ?_; rintro e w2 ⟨v2, rfl, hown2, hb2⟩; obtain ⟨a2, c2, rfl, hm2⟩ := Bts.of_owns hown2 hbv; have hm3 := hm2.list HV.out; have hcut2 := hcut.below' hb2 rfl; clear hown2 hm2) | (go_at_call 10; refine (same_yes _ _ _ _ _ _ (m.take k) _ hm3 hcut2).mono ?_; rintro e w3 ⟨rfl, q, rfl⟩) | (go_at_call 9; refine (lives_any _).mono ?_; rintro e w4 ⟨rfl, hb4⟩))
    go_wp2
    go_ret
    exact ⟨rfl, bstep (below_drewN (bstep hb1.drew hb2) q) hb4⟩
  · have he := rd_err m 0 0 (by rw [hr]; exact hc)
    rw [hr] at he
    obtain ⟨rfl, rfl⟩ : x = 0 ∧ n = 0 := he
    have hcb : (c != 0) = true := by simpa using hc
    go_wp2_with fail
    refine (lives_any _).mono ?_
    rintro e w2 ⟨rfl, hb2⟩
    go_wp2
    go_ret
    exact ⟨rfl, bstep hb1 hb2⟩

/-! ### THE ROW's STEP: WRITTEN OUT: LEAVE IT -/
set_option maxRecDepth 100000 in
theorem lifted (os : Os) (started : os.Started) (H : Type) (enc : TypeId × Value → H) :
    ReturnsInHanded {} Try.checked os 3 .any (Rows.wordOneSpec.pre6 enc Try.prog Try.f3 Rows.wordOneRow.domain false) (Rows.wordOneSpec.post enc Try.prog Try.f3 false true false false) := by
  refine returnsInHanded_of_change (C := Try.checked) own started (by kernel_rfl) Try.func3
    (ChangeSpec.witness6 (enc := enc) (C := Try.checked) false ⟨#[], #[.slice none 0 0], []⟩ 8 (by kernel_rfl) (by kernel_rfl) (by kernel_rfl) (by kernel_rfl)) ?_
  intro W base args ds gs before hval0 hW hcnd _
  have hval : ∀ (j : Nat) t v, Try.f3.params[j]? = some t → args[j]? = some v → Value.okWide Try.prog W .any base t v := hval0
  have hW' := hW
  obtain ⟨p, q, hA0, hV, rfl, hfz, hnd⟩ := hW
  have hA : DataW.TrodAll enc Try.prog W 0 (fun _ => true) true Try.f3.params.toList args.toList ds p := hA0
  rw [Try.params3] at hA hval
  obtain ⟨v0, vs0, d0, ds0, p0, q0, hargs, rfl, rfl, h0, r0⟩ := trodAll_cons hA
  obtain ⟨rfl, rfl, rfl⟩ := trodAll_nil r0
  obtain rfl : args = #[v0] := by cases args; simp_all
  obtain ⟨rfl, rfl⟩ := trodVars_none hV
  obtain ⟨a0, len0, cap0, rfl⟩ := okWide_slice Try.underlying22 (hval 0 22 v0 rfl rfl)
  have k0 := h0
  have lt0 : ∀ x ∈ p0, x.block < W.heap.size := by obtain ⟨m, hm⟩ := k0; exact DataW.trod_lt m _ _ _ hm
  obtain ⟨z0, w0⟩ : ∃ zs, IsRow .u8 W a0 len0 cap0 zs := by
    obtain ⟨fuel, hf⟩ := h0
    rcases open_ints Try.underlying22 Try.underlying5 (by kernel_rfl) hf with ⟨hcs, _⟩ | ⟨x, l, c, zs, hcs, _, hl, hm, hz, _, hcell, hwz⟩
    · simp [Value.cells] at hcs
      obtain ⟨rfl, rfl, rfl⟩ := hcs
      exact ⟨[], .inl ⟨rfl, rfl, rfl, rfl⟩⟩
    · simp [Value.cells] at hcs
      obtain ⟨rfl, rfl, rfl⟩ := hcs
      exact ⟨zs, .inr ⟨_, rfl, hl, hm, by simpa using hz, hcell, hwz⟩⟩
  clear hA0 hval0
  refine (walk a0 len0 cap0 z0 W w0).mono fun e W' ⟨he, bel⟩ => ?_
  subst he
  exact ⟨_, rfl, _, _, _, [], _, [], hW', trodAll_mk1 (shut_bool Try.underlying4 _), (trodAll_cons_mk (Below.trod laidOut (by kernel_rfl) (of_decide_eq_true (by kernel_rfl)) k0 bel lt0) trodAll_mk0), rfl, bel.frame _, fun h => by cases h⟩

theorem over : Rows.wordOneRow.holds Try.pinned (OpenSpec.ofChange Rows.wordOneSpec) :=
  OpenClaim.holds_of_wide 3 Try.f3 rfl rfl rfl rfl rfl rfl rfl ⟨rfl, rfl, rfl, rfl, rfl⟩ rfl rfl rfl rfl rfl (by kernel_rfl) Try.func3 (by kernel_rfl)
    (of_decide_eq_true (by kernel_rfl)) (by unfold Func.isWrapper; first | (rw [if_pos (by decide +kernel)]; kernel_rfl) | (rw [if_neg (by decide +kernel)]; exact ⟨rfl, rfl⟩))
    (fun os started H enc _ => lifted os started H enc)

/-- ████ THE STATEMENT ████ -/
theorem proved : Rows.WordOneSaid := over
end Go.Proofs.Ythlkdbfaelgadab.wordOne
namespace Go.Proofs.Ythlkdbfaelgadab
theorem wordOne_holds : Rows.WordOneSaid := wordOne.proved
#print axioms wordOne_holds
end Go.Proofs.Ythlkdbfaelgadab
