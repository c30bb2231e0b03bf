/- For every uint64 and every slice of bytes the law FramePuts returns true and the slice reads as it did (P8.2): Put answers the frame that the document says, or why there is none, changes nothing, and frames are as long as Size says. No condition. -/
import Derived.Test.YtjbeghejnhjckaaRows
import Derived.Test.YtjbeghejnhjckaaFPut
import Derived.Test.YtjbeghejnhjckaaCut
import Derived.Test.YtjbeghejnhjckaaSame
import Derived.Test.YtjbeghejnhjckaaLeast
import Derived.WalkKit
import Derived.ProofKit
import Derived.OpenShut
import Derived.ShutString
import Derived.ChangeOld
import Derived.Below
namespace Go.Proofs.Ytjbeghejnhjckaa.framePuts
open Go.ChangeShapes Go.WideShapes Go.ChangeAt Go.RowKit
open Go.ChangeMaps (open_string shut_string)
set_option linter.unusedVariables false

theorem own : ownKnob Try.prog.godebug = none := by kernel_rfl
theorem laidOut : laidOutB Try.prog = true := by kernel_rfl

/-- WHAT THE WALK IS TOLD OF A SLICE OF INTEGERS THAT CAME IN: it is nil; or it leads to a row of 'cap' cells, the numbers 'zs' (the first 'len' are its elements, the rest its spare room), each fitting its kind. -/
def IsRow (k : IntKind) (w : World) (a : Option Addr) (len cap : Nat) (zs : List Int) : Prop :=
  (a = none ∧ len = 0 ∧ cap = 0 ∧ zs = []) ∨
  ∃ x, a = some x ∧ len ≤ cap ∧ cap ≤ maxLen ∧ zs.length = cap ∧ (∀ i, i < zs.length → w.cell? (x.add i) = some (.int k (zs.getD i 0))) ∧ ∀ n ∈ zs, (Lit.int k n).wf = true

/-! ### STEP 1: THE WALK: the Go text returns true, AND WRITES NOTHING THAT WAS THERE: 'Below w.heap.size w w'' (Derived/Below.lean: '.refl', '.alloc', '.drew', '.setCell' at a new block, '.trans'). Open each 'IsRow' by 'rcases' AHEAD of 'go_enter'; part every test ahead of the walk. -/
set_option maxHeartbeats 1000000 in
theorem walk (a0 : Int) (a1 : Option Addr) (len1 cap1 : Nat) (z1 : List Int) (w : World) (w0 : (Lit.int .u64 a0).wf = true) (w1 : IsRow .u8 w a1 len1 cap1 z1) :
    Calls Try.prog 4 #[.int .u64 a0, .slice a1 len1 cap1] w fun e w' => e = .returned (.bool true) ∧ Below w.heap.size w w' := by
  have hx : 0 ≤ a0 ∧ a0 ≤ 18446744073709551615 := bounds_u64 w0
  have hrow : Bts w a1 len1 cap1 (z1.take len1) := Bts.of_row w1
  generalize z1.take len1 = l at hrow
  clear w1
  go_enter Try.func4, Try.ntmps4
  go_wp2_with fail
  refine (cut_any a1 len1 cap1 20000 l _ hrow (by decide)).mono ?_
  rintro e w' ⟨⟨len, rfl, hl⟩, rfl⟩
  have hlen : len ≤ 20000 := by have := hl.len_eq; rw [List.length_take] at this; omega
  generalize l.take 20000 = m at hl
  clear hrow
  go_wp2_with fail
  refine (copy_any a1 len cap1 m _ hl (by omega)).mono ?_
  rintro e wa ⟨v, rfl, hown, hb1⟩
  obtain ⟨a2, cap2, rfl, hm⟩ := Bts.of_owns hown hl.byt
  have hl1 := hl.below hb1
  have hmb := hm.byt
  have HML : Hid (m.length = len) := hm.len_eq
  clear hown hl
  go_wp2_with fail
  refine (put8_any a0 a2 len cap2 m _ hx.1 hx.2 hm).mono ?_
  rintro e wb ⟨v3, rfl, hown3, hb3⟩
  have hm3 := hm.below hb3
  have hl3 := hl1.below hb3
  have hbb := bstep hb1 hb3
  clear hm hl1 hb1 hb3
  go_wp2_with fail
  refine (refput8_any a0 a1 len cap1 m _ hx.1 hx.2 hl3).mono ?_
  rintro e wc ⟨v4, rfl, hown4, hb4⟩
  have hown3b := owns_below hown3 hb4
  have hm4 := hm3.below hb4
  have hl4 := hl3.below hb4
  have hbc := bstep hbb hb4
  obtain ⟨a5, c5, rfl, hf⟩ := Bts.of_owns hown3b (ptL_byt a0 m hmb)
  obtain ⟨a6, c6, rfl, hg⟩ := Bts.of_owns hown4 (ptL_byt a0 m hmb)
  have HK : ptE a0 m.length = 0 → (ptL a0 m).length = 20 + len := fun h => by rw [ptL_ok h, frmL_len, HML.out]
  clear hown3 hown3b hown4 hm3 hl3 hbb hb4 hmb HML
  generalize ptL a0 m = P at hf hg HK ⊢
  generalize P.length = K at hf hg HK ⊢
  generalize ptE a0 m.length = E at HK ⊢
  go_wp2_with fail
  refine (same_yes a5 a6 K K c5 c6 P _ hf hg).mono ?_
  rintro e w' ⟨rfl, q, rfl⟩
  have hee : (E == E) = true := by simp
  go_wp2_with fail
  refine (same_yes a2 a1 len len cap2 cap1 m _ (hm4.drewN q) (hl4.drewN q)).mono ?_
  rintro e w' ⟨rfl, q2, rfl⟩
  have hbd : Below w.heap.size w ((wc.drewN q).drewN q2) := below_drewN (below_drewN hbc q) q2
  generalize (wc.drewN q).drewN q2 = wd at hbd ⊢
  clear hf hg hm4 hl4 hbc hee
  by_cases hE : E = 0
  · have hK := HK hE
    subst hE
    have hKi : ((K : Int) == 20 + max (len : Int) 0) = true := by simp; omega
    clear HK hK
    go_wp2_with fail
    refine (size_any (len : Int) _ (by omega)).mono ?_
    rintro e w' ⟨rfl, rfl⟩
    generalize 20 + max (len : Int) 0 = Z at hKi ⊢
    go_wp2_with fail
    refine (lives_any _).mono ?_
    rintro e w2 ⟨rfl, hb2⟩
    clear hKi
    go_wp2
    go_ret
    exact ⟨rfl, bstep hbd hb2⟩
  · have hE' : (E != 0) = true := by simpa using hE
    clear HK hE
    go_wp2_with fail
    refine (lives_any _).mono ?_
    rintro e w2 ⟨rfl, hb2⟩
    go_wp2
    go_ret
    exact ⟨rfl, bstep hbd hb2⟩

/-! ### THE ROW's STEP: WRITTEN OUT: LEAVE IT -/
set_option maxRecDepth 100000 in
theorem lifted (os : Os) (started : os.Started) (H : Type) (enc : TypeId × Value → H) :
    ReturnsInHanded {} Try.checked os 4 .any (Rows.framePutsSpec.pre6 enc Try.prog Try.f4 Rows.framePutsRow.domain false) (Rows.framePutsSpec.post enc Try.prog Try.f4 false true false false) := by
  refine returnsInHanded_of_change (C := Try.checked) own started (by kernel_rfl) Try.func4
    (ChangeSpec.witness6 (enc := enc) (C := Try.checked) false ⟨#[], #[.int .u64 0, .slice none 0 0], []⟩ 8 (by kernel_rfl) (by kernel_rfl) (by kernel_rfl) (by kernel_rfl)) ?_
  intro W base args ds gs before hval0 hW hcnd _
  have hval : ∀ (j : Nat) t v, Try.f4.params[j]? = some t → args[j]? = some v → Value.okWide Try.prog W .any base t v := hval0
  have hW' := hW
  obtain ⟨p, q, hA0, hV, rfl, hfz, hnd⟩ := hW
  have hA : DataW.TrodAll enc Try.prog W 0 (fun _ => true) true Try.f4.params.toList args.toList ds p := hA0
  rw [Try.params4] at hA hval
  obtain ⟨v0, vs0, d0, ds0, p0, q0, hargs, rfl, rfl, h0, r0⟩ := trodAll_cons hA
  obtain ⟨v1, vs1, d1, ds1, p1, q1, rfl, rfl, rfl, h1, r1⟩ := trodAll_cons r0
  obtain ⟨rfl, rfl, rfl⟩ := trodAll_nil r1
  obtain rfl : args = #[v0, v1] := by cases args; simp_all
  obtain ⟨rfl, rfl⟩ := trodVars_none hV
  obtain ⟨a0, rfl, rfl, rfl, w0⟩ := open_int Try.underlying32 (hval 0 32 v0 rfl rfl) h0
  obtain ⟨a1, len1, cap1, rfl⟩ := okWide_slice Try.underlying22 (hval 1 22 v1 rfl rfl)
  have k1 := h1
  have lt1 : ∀ x ∈ p1, x.block < W.heap.size := by obtain ⟨m, hm⟩ := k1; exact DataW.trod_lt m _ _ _ hm
  obtain ⟨z1, w1⟩ : ∃ zs, IsRow .u8 W a1 len1 cap1 zs := by
    obtain ⟨fuel, hf⟩ := h1
    rcases open_ints Try.underlying22 Try.underlying5 (by kernel_rfl) hf with ⟨hcs, _⟩ | ⟨x, l, c, zs, hcs, _, hl, hm, hz, _, hcell, hwz⟩
    · simp [Value.cells] at hcs
      obtain ⟨rfl, rfl, rfl⟩ := hcs
      exact ⟨[], .inl ⟨rfl, rfl, rfl, rfl⟩⟩
    · simp [Value.cells] at hcs
      obtain ⟨rfl, rfl, rfl⟩ := hcs
      exact ⟨zs, .inr ⟨_, rfl, hl, hm, by simpa using hz, hcell, hwz⟩⟩
  clear hA0 hval0
  refine (walk a0 a1 len1 cap1 z1 W w0 w1).mono fun e W' ⟨he, bel⟩ => ?_
  subst he
  exact ⟨_, rfl, _, _, _, [], _, [], hW', trodAll_mk1 (shut_bool Try.underlying4 _), (trodAll_cons_mk (shut_int Try.underlying32 w0) (trodAll_cons_mk (Below.trod laidOut (by kernel_rfl) (of_decide_eq_true (by kernel_rfl)) k1 bel lt1) trodAll_mk0)), rfl, bel.frame _, fun h => by cases h⟩

theorem over : Rows.framePutsRow.holds Try.pinned (OpenSpec.ofChange Rows.framePutsSpec) :=
  OpenClaim.holds_of_wide 4 Try.f4 rfl rfl rfl rfl rfl rfl rfl ⟨rfl, rfl, rfl, rfl, rfl⟩ rfl rfl rfl rfl rfl (by kernel_rfl) Try.func4 (by kernel_rfl)
    (of_decide_eq_true (by kernel_rfl)) (by unfold Func.isWrapper; first | (rw [if_pos (by decide +kernel)]; kernel_rfl) | (rw [if_neg (by decide +kernel)]; exact ⟨rfl, rfl⟩))
    (fun os started H enc _ => lifted os started H enc)

/-- ████ THE STATEMENT ████ -/
theorem proved : Rows.FramePutsSaid := over
end Go.Proofs.Ytjbeghejnhjckaa.framePuts
namespace Go.Proofs.Ytjbeghejnhjckaa
theorem framePuts_holds : Rows.FramePutsSaid := framePuts.proved
#print axioms framePuts_holds
end Go.Proofs.Ytjbeghejnhjckaa
