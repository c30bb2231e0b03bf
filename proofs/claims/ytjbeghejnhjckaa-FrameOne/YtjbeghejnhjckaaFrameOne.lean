/- For every slice of bytes the law FrameOne returns true and the slice reads as it did (P8.4): what Read takes, put again, is the bytes that were read. No condition. -/
import Derived.Test.YtjbeghejnhjckaaRows
import Derived.Test.YtjbeghejnhjckaaFReadR
import Derived.Test.YtjbeghejnhjckaaCut
import Derived.Test.YtjbeghejnhjckaaSame
import Derived.Test.YtjbeghejnhjckaaLeast
import Derived.WalkKit
import Derived.ProofKit
import Derived.OpenShut
import Derived.ShutString
import Derived.ChangeOld
import Derived.Below
namespace Go.Proofs.Ytjbeghejnhjckaa.frameOne
open Go.ChangeShapes Go.WideShapes Go.ChangeAt Go.RowKit
open Go.ChangeMaps (open_string shut_string)
set_option linter.unusedVariables false

theorem own : ownKnob Try.prog.godebug = none := by kernel_rfl
theorem laidOut : laidOutB Try.prog = true := by kernel_rfl

/-- WHAT THE WALK IS TOLD OF A SLICE OF INTEGERS THAT CAME IN: it is nil; or it leads to a row of 'cap' cells, the numbers 'zs' (the first 'len' are its elements, the rest its spare room), each fitting its kind. -/
def IsRow (k : IntKind) (w : World) (a : Option Addr) (len cap : Nat) (zs : List Int) : Prop :=
  (a = none ∧ len = 0 ∧ cap = 0 ∧ zs = []) ∨
  ∃ x, a = some x ∧ len ≤ cap ∧ cap ≤ maxLen ∧ zs.length = cap ∧ (∀ i, i < zs.length → w.cell? (x.add i) = some (.int k (zs.getD i 0))) ∧ ∀ n ∈ zs, (Lit.int k n).wf = true

/-! ### STEP 1: THE WALK: the Go text returns true, AND WRITES NOTHING THAT WAS THERE: 'Below w.heap.size w w'' (Derived/Below.lean: '.refl', '.alloc', '.drew', '.setCell' at a new block, '.trans'). Open each 'IsRow' by 'rcases' AHEAD of 'go_enter'; part every test ahead of the walk. -/
set_option maxHeartbeats 1000000 in
theorem walk (a0 : Option Addr) (len0 cap0 : Nat) (z0 : List Int) (w : World) (w0 : IsRow .u8 w a0 len0 cap0 z0) :
    Calls Try.prog 7 #[.slice a0 len0 cap0] w fun e w' => e = .returned (.bool true) ∧ Below w.heap.size w w' := by
  have hrow : Bts w a0 len0 cap0 (z0.take len0) := Bts.of_row w0
  generalize z0.take len0 = l at hrow
  clear w0
  go_enter Try.func7, Try.ntmps7
  go_wp2_with fail
  refine (cut_any a0 len0 cap0 20000 l _ hrow (by decide)).mono ?_
  rintro e w' ⟨⟨len, rfl, hl⟩, rfl⟩
  have hlen : len ≤ 20000 := by have := hl.len_eq; rw [List.length_take] at this; omega
  generalize l.take 20000 = m at hl
  clear hrow
  go_wp2_with fail
  refine (copy_any a0 len cap0 m _ hl (by omega)).mono ?_
  rintro e wa ⟨v, rfl, hown, hb1⟩
  obtain ⟨a2, cap2, rfl, hm⟩ := Bts.of_owns hown hl.byt
  have hl1 := hl.below hb1
  have HMB : Bx (Byt m) := ⟨hm.byt⟩
  have HML : Hid (m.length = len) := hm.len_eq
  clear hown hl
  go_wp2_with fail
  refine (read8_any a2 len cap2 m _ hm).mono ?_
  rintro e wb ⟨v3, rfl, hown3, hb3⟩
  have hl3 := hl1.below hb3
  have hbb := bstep hb1 hb3
  clear hm hl1 hb1 hb3
  by_cases hE : rdE m = 0
  · obtain ⟨r1, r2, r3, r4, r5, r6⟩ := rd_one m HMB.out hE
    have HT : Bx (Byt (rdT m)) := ⟨by
      unfold rdT; rw [if_pos hE]
      exact fun c hc => HMB.out c (List.mem_of_mem_drop (List.mem_of_mem_take hc))⟩
    have hpe := ptE_ok (seq := rdS m) (n := (rdT m).length) (by omega) (by omega)
    have hpl : ptL (rdS m) (rdT m) = m.take (rdN m) := by rw [ptL_ok hpe]; exact r1
    have hrn : rdN m ≤ len := by rw [← HML.out]; exact r5
    have hcn := hl3.cut (rdN m) hrn
    have hcl := hl3.le_cap
    have HP : Bx (∀ (w' : World) (a' : Option Addr) (c' : Nat), Bts w' a' (rdT m).length c' (rdT m) → Calls Try.prog 17 #[.int .u64 (rdS m), .slice a' (rdT m).length c'] w' fun e w'' => ∃ v, e = .returned (.tuple #[v, .int .i64 0]) ∧ w''.ownsRow w'.heap.size 5 1 v (rdN m) (bv (m.take (rdN m))) ∧ Below w'.heap.size w' w'') := ⟨fun w' a' c' hb => by
      have h := put8_any (rdS m) a' (rdT m).length c' (rdT m) w' (by omega) (by omega) hb
      rw [hpe, hpl] at h
      rw [List.length_take, HML.out, Nat.min_eq_left hrn] at h
      exact h⟩
    obtain ⟨a5, c5, rfl, hf⟩ := Bts.of_owns hown3 HT.out
    rw [hE]
    have HCB : Bx (Byt (m.take (rdN m))) := ⟨HMB.out.take _⟩
    clear r1 r2 r3 r4 r5 r6 hpe hpl hE hown3
    generalize m.take (rdN m) = M at hcn HP HCB
    generalize rdT m = T at hf HP HT ⊢
    generalize T.length = K at hf HP ⊢
    generalize rdS m = S at HP ⊢
    generalize rdN m = N at hcn HP hrn ⊢
    have hN1 : (N : Int) ≤ (len : Int) := by omega
    have hN2 : (N : Int) ≤ (cap0 : Int) := by omega
    have hd : decide ((N : Int) ≤ (len : Int)) = true := decide_eq_true hN1
    go_wp2_with fail
    refine (HP.out _ a5 c5 hf).mono ?_
    rintro e wc ⟨v4, rfl, hown4, hb4⟩
    obtain ⟨a6, c6, rfl, hg⟩ := Bts.of_owns hown4 HCB.out
    have hbc := bstep hbb hb4
    have hcn4 := hcn.below hb4
    clear HP hown4 hb4 hf hcn hbb
    go_wp2_with fail
    refine (same_yes a6 _ N N c6 _ M _ hg hcn4).mono ?_
    rintro e w' ⟨rfl, q, rfl⟩
    go_wp2_with fail
    refine (lives_any _).mono ?_
    rintro e w5 ⟨rfl, hb7⟩
    go_wp2
    go_ret
    exact ⟨rfl, bstep (below_drewN hbc q) hb7⟩
  · obtain ⟨r1, r2, r3⟩ := rd_no hE
    rw [r2] at hown3
    rw [r1, r3]
    have hE' : (rdE m != 0) = true := by simpa using hE
    generalize rdE m = E at hE' ⊢
    obtain ⟨a5, c5, rfl, hf⟩ := Bts.of_owns hown3 Byt.nil
    clear hE r1 r2 r3 hown3
    go_wp2_with fail
    refine (lives_any _).mono ?_
    rintro e w5 ⟨rfl, hb7⟩
    go_wp2
    go_ret
    exact ⟨rfl, bstep hbb hb7⟩

/-! ### THE ROW's STEP: WRITTEN OUT: LEAVE IT -/
set_option maxRecDepth 100000 in
theorem lifted (os : Os) (started : os.Started) (H : Type) (enc : TypeId × Value → H) :
    ReturnsInHanded {} Try.checked os 7 .any (Rows.frameOneSpec.pre6 enc Try.prog Try.f7 Rows.frameOneRow.domain false) (Rows.frameOneSpec.post enc Try.prog Try.f7 false true false false) := by
  refine returnsInHanded_of_change (C := Try.checked) own started (by kernel_rfl) Try.func7
    (ChangeSpec.witness6 (enc := enc) (C := Try.checked) false ⟨#[], #[.slice none 0 0], []⟩ 8 (by kernel_rfl) (by kernel_rfl) (by kernel_rfl) (by kernel_rfl)) ?_
  intro W base args ds gs before hval0 hW hcnd _
  have hval : ∀ (j : Nat) t v, Try.f7.params[j]? = some t → args[j]? = some v → Value.okWide Try.prog W .any base t v := hval0
  have hW' := hW
  obtain ⟨p, q, hA0, hV, rfl, hfz, hnd⟩ := hW
  have hA : DataW.TrodAll enc Try.prog W 0 (fun _ => true) true Try.f7.params.toList args.toList ds p := hA0
  rw [Try.params7] at hA hval
  obtain ⟨v0, vs0, d0, ds0, p0, q0, hargs, rfl, rfl, h0, r0⟩ := trodAll_cons hA
  obtain ⟨rfl, rfl, rfl⟩ := trodAll_nil r0
  obtain rfl : args = #[v0] := by cases args; simp_all
  obtain ⟨rfl, rfl⟩ := trodVars_none hV
  obtain ⟨a0, len0, cap0, rfl⟩ := okWide_slice Try.underlying22 (hval 0 22 v0 rfl rfl)
  have k0 := h0
  have lt0 : ∀ x ∈ p0, x.block < W.heap.size := by obtain ⟨m, hm⟩ := k0; exact DataW.trod_lt m _ _ _ hm
  obtain ⟨z0, w0⟩ : ∃ zs, IsRow .u8 W a0 len0 cap0 zs := by
    obtain ⟨fuel, hf⟩ := h0
    rcases open_ints Try.underlying22 Try.underlying5 (by kernel_rfl) hf with ⟨hcs, _⟩ | ⟨x, l, c, zs, hcs, _, hl, hm, hz, _, hcell, hwz⟩
    · simp [Value.cells] at hcs
      obtain ⟨rfl, rfl, rfl⟩ := hcs
      exact ⟨[], .inl ⟨rfl, rfl, rfl, rfl⟩⟩
    · simp [Value.cells] at hcs
      obtain ⟨rfl, rfl, rfl⟩ := hcs
      exact ⟨zs, .inr ⟨_, rfl, hl, hm, by simpa using hz, hcell, hwz⟩⟩
  clear hA0 hval0
  refine (walk a0 len0 cap0 z0 W w0).mono fun e W' ⟨he, bel⟩ => ?_
  subst he
  exact ⟨_, rfl, _, _, _, [], _, [], hW', trodAll_mk1 (shut_bool Try.underlying4 _), (trodAll_cons_mk (Below.trod laidOut (by kernel_rfl) (of_decide_eq_true (by kernel_rfl)) k0 bel lt0) trodAll_mk0), rfl, bel.frame _, fun h => by cases h⟩

theorem over : Rows.frameOneRow.holds Try.pinned (OpenSpec.ofChange Rows.frameOneSpec) :=
  OpenClaim.holds_of_wide 7 Try.f7 rfl rfl rfl rfl rfl rfl rfl ⟨rfl, rfl, rfl, rfl, rfl⟩ rfl rfl rfl rfl rfl (by kernel_rfl) Try.func7 (by kernel_rfl)
    (of_decide_eq_true (by kernel_rfl)) (by unfold Func.isWrapper; first | (rw [if_pos (by decide +kernel)]; kernel_rfl) | (rw [if_neg (by decide +kernel)]; exact ⟨rfl, rfl⟩))
    (fun os started H enc _ => lifted os started H enc)

/-- ████ THE STATEMENT ████ -/
theorem proved : Rows.FrameOneSaid := over
end Go.Proofs.Ytjbeghejnhjckaa.frameOne
namespace Go.Proofs.Ytjbeghejnhjckaa
theorem frameOne_holds : Rows.FrameOneSaid := frameOne.proved
#print axioms frameOne_holds
end Go.Proofs.Ytjbeghejnhjckaa
