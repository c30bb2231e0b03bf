/- For every slice of bytes the law FrameReads returns true and the slice reads as it did (P8.3): Read answers the frame that the document says, or why there is none, changes nothing, and the text is in memory that is nobody else's. No condition. -/
import Derived.Test.YtjbeghejnhjckaaRows
import Derived.Test.YtjbeghejnhjckaaFReadR
import Derived.Test.YtjbeghejnhjckaaCut
import Derived.Test.YtjbeghejnhjckaaSame
import Derived.Test.YtjbeghejnhjckaaLeast
import Derived.WalkKit
import Derived.ProofKit
import Derived.OpenShut
import Derived.ShutString
import Derived.ChangeOld
import Derived.Below
namespace Go.Proofs.Ytjbeghejnhjckaa.frameReads
open Go.ChangeShapes Go.WideShapes Go.ChangeAt Go.RowKit
open Go.ChangeMaps (open_string shut_string)
set_option linter.unusedVariables false

theorem own : ownKnob Try.prog.godebug = none := by kernel_rfl
theorem laidOut : laidOutB Try.prog = true := by kernel_rfl

/-- WHAT THE WALK IS TOLD OF A SLICE OF INTEGERS THAT CAME IN: it is nil; or it leads to a row of 'cap' cells, the numbers 'zs' (the first 'len' are its elements, the rest its spare room), each fitting its kind. -/
def IsRow (k : IntKind) (w : World) (a : Option Addr) (len cap : Nat) (zs : List Int) : Prop :=
  (a = none ∧ len = 0 ∧ cap = 0 ∧ zs = []) ∨
  ∃ x, a = some x ∧ len ≤ cap ∧ cap ≤ maxLen ∧ zs.length = cap ∧ (∀ i, i < zs.length → w.cell? (x.add i) = some (.int k (zs.getD i 0))) ∧ ∀ n ∈ zs, (Lit.int k n).wf = true


/-- the row behind k rounds of 'a[i] = a[i] + 1' -/
def incAt (l : List Int) (k : Nat) : List Int := (l.take k).map (fun c => (c + 1) % 256) ++ l.drop k
theorem incAt_zero (l : List Int) : incAt l 0 = l := by simp [incAt]
theorem incAt_length (l : List Int) (k : Nat) (h : k ≤ l.length) : (incAt l k).length = l.length := by simp [incAt]; omega
theorem incAt_getD (l : List Int) (k : Nat) (h : k < l.length) : (bv (incAt l k))[k]? = some (.int .u8 (l.getD k 0)) := by
  simp only [bv, incAt, List.map_append]
  rw [List.getElem?_append_right (by simp; omega)]
  simp [h, Nat.min_eq_left (Nat.le_of_lt h), List.getD_eq_getElem?_getD]
theorem incAt_succ (l : List Int) (k : Nat) (h : k < l.length) : (bv (incAt l k)).set k (.int .u8 ((l.getD k 0 + 1) % 256)) = bv (incAt l (k + 1)) := by
  have e : l.drop k = l.getD k 0 :: l.drop (k + 1) := by rw [List.getD_eq_getElem?_getD, List.getElem?_eq_getElem h]; exact List.drop_eq_getElem_cons h
  simp only [bv, incAt, List.map_append, take_succ_getD l k h, e, List.map_cons]
  rw [List.set_append_right _ _ (by simp; omega)]
  simp [Nat.min_eq_left (Nat.le_of_lt h)]
/-! ### STEP 1: THE WALK: the Go text returns true, AND WRITES NOTHING THAT WAS THERE: 'Below w.heap.size w w'' (Derived/Below.lean: '.refl', '.alloc', '.drew', '.setCell' at a new block, '.trans'). Open each 'IsRow' by 'rcases' AHEAD of 'go_enter'; part every test ahead of the walk. -/
set_option maxHeartbeats 1000000 in
theorem walk (a0 : Option Addr) (len0 cap0 : Nat) (z0 : List Int) (w : World) (w0 : IsRow .u8 w a0 len0 cap0 z0) :
    Calls Try.prog 5 #[.slice a0 len0 cap0] w fun e w' => e = .returned (.bool true) ∧ Below w.heap.size w w' := by
  have hrow : Bts w a0 len0 cap0 (z0.take len0) := Bts.of_row w0
  generalize z0.take len0 = l at hrow
  clear w0
  go_enter Try.func5, Try.ntmps5
  go_wp2_with fail
  refine (cut_any a0 len0 cap0 20000 l _ hrow (by decide)).mono ?_
  rintro e w' ⟨⟨len, rfl, hl⟩, rfl⟩
  have hlen : len ≤ 20000 := by have := hl.len_eq; rw [List.length_take] at this; omega
  generalize l.take 20000 = m at hl
  clear hrow
  go_wp2_with fail
  refine (copy_any a0 len cap0 m _ hl (by omega)).mono ?_
  rintro e wa ⟨v, rfl, hown, hb1⟩
  obtain ⟨a2, cap2, rfl, hm⟩ := Bts.of_owns hown hl.byt
  have hl1 := hl.below hb1
  have hmb := hm.byt
  clear hown hl
  go_wp2_with fail
  refine (read8_any a2 len cap2 m _ hm).mono ?_
  rintro e wb ⟨v3, rfl, hown3, hb3⟩
  go_wp2_with fail
  refine (refread8_any a0 len cap0 m _ (hl1.below hb3)).mono ?_
  rintro e wc ⟨v4, rfl, hown4, hb4⟩
  have hown3b := owns_below hown3 hb4
  have hbc := bstep hb3 hb4
  have HT : Byt (rdT m) := by
    unfold rdT; split
    · exact fun c hc => hmb c (List.mem_of_mem_drop (List.mem_of_mem_take hc))
    · exact Byt.nil
  obtain ⟨a5, c5, rfl, hf⟩ := Bts.of_owns hown3b HT
  obtain ⟨a6, c6, rfl, hg⟩ := Bts.of_owns hown4 HT
  have hs1 : (rdS m != rdS m) = false := by simp
  have hs2 : (((rdN m : Nat) : Int) != ((rdN m : Nat) : Int)) = false := by simp
  have hs3 : (rdE m != rdE m) = false := by simp
  clear hown3 hown4 hb3 hb4 hmb
  generalize rdS m = S at hs1 ⊢
  generalize ((rdN m : Nat) : Int) = N at hs2 ⊢
  generalize rdE m = E at hs3 ⊢
  generalize rdT m = T at hf hg hown3b HT ⊢
  have HTL : Hid (T.length = T.length) := rfl
  generalize hKK : T.length = K at hf hg hown3b ⊢
  have hL : Hid (T.length = K) := hKK
  clear hKK HTL
  go_wp2_with fail
  refine (same_yes a5 a6 K K c5 c6 T _ hf hg).mono ?_
  rintro e w' ⟨rfl, q, rfl⟩
  have o1 := owns_drewN hown3b q
  have hb5 := below_drewN hbc q
  clear hf hg hown3b hbc
  generalize wc.drewN q = wd at o1 hb5 ⊢
  have hKm : K ≤ maxLen := by
    obtain ⟨a7, c7, e7, hf7⟩ := Bts.of_owns o1 HT
    exact Nat.le_trans hf7.le_cap hf7.cap_le
  unfold maxLen at hKm
  go_wp2
  go_loopw [12] (fun i wr => ∃ k : Nat, k ≤ K ∧ i = .int .i64 k ∧ wr.ownsRow wa.heap.size 5 1 (.slice a5 K c5) K (bv (incAt T k)) ∧ Below wa.heap.size wa wr) (fun i _ => K - (intOf i).toNat)
  case atStart => exact ⟨0, Nat.zero_le _, rfl, by rw [incAt_zero]; exact o1, hb5⟩
  case round =>
    clear o1 hb5 hs1 hs2 hs3
    obtain ⟨k, hk, rfl, p1, hb5⟩ := hrel
    by_cases hlt : k < K
    · obtain ⟨g, cg, e0, hg0, hg1⟩ := owns_form p1 (by omega)
      cases e0
      have hcell := p1.cellAt k (by omega)
      rw [incAt_getD T k (by rw [hL.out]; exact hlt)] at hcell
      have hf := p1.frozenAt k
      have hst := p1.stored k (.int .u8 ((T.getD k 0 + 1) % 256))
      rw [incAt_succ T k (by rw [hL.out]; exact hlt)] at hst
      have hb6 := hb5.grown hst.2 hb5.size (by intro j hj; cases hj; exact hg0)
      have hbd := HT.getD k
      generalize T.getD k 0 = C at hcell hst hb6 hbd
      clear p1 hb5
      go_wp2
      go_roundw
      case rel => exact ⟨k + 1, by omega, by go_num, hst.1, hb6⟩
      case measure => simp [intOf]; omega
    · clear p1
      go_wp2_with fail
      refine (same_yes a2 a0 len len cap2 cap0 m _ (hm.below hb5) (hl1.below hb5)).mono ?_
      rintro e w' ⟨rfl, q, rfl⟩
      go_wp2_with fail
      refine (lives_any _).mono ?_
      rintro e w5 ⟨rfl, hb7⟩
      go_wp2
      go_ret
      exact ⟨rfl, bstep (below_drewN (bstep hb1 hb5) q) hb7⟩

/-! ### THE ROW's STEP: WRITTEN OUT: LEAVE IT -/
set_option maxRecDepth 100000 in
theorem lifted (os : Os) (started : os.Started) (H : Type) (enc : TypeId × Value → H) :
    ReturnsInHanded {} Try.checked os 5 .any (Rows.frameReadsSpec.pre6 enc Try.prog Try.f5 Rows.frameReadsRow.domain false) (Rows.frameReadsSpec.post enc Try.prog Try.f5 false true false false) := by
  refine returnsInHanded_of_change (C := Try.checked) own started (by kernel_rfl) Try.func5
    (ChangeSpec.witness6 (enc := enc) (C := Try.checked) false ⟨#[], #[.slice none 0 0], []⟩ 8 (by kernel_rfl) (by kernel_rfl) (by kernel_rfl) (by kernel_rfl)) ?_
  intro W base args ds gs before hval0 hW hcnd _
  have hval : ∀ (j : Nat) t v, Try.f5.params[j]? = some t → args[j]? = some v → Value.okWide Try.prog W .any base t v := hval0
  have hW' := hW
  obtain ⟨p, q, hA0, hV, rfl, hfz, hnd⟩ := hW
  have hA : DataW.TrodAll enc Try.prog W 0 (fun _ => true) true Try.f5.params.toList args.toList ds p := hA0
  rw [Try.params5] at hA hval
  obtain ⟨v0, vs0, d0, ds0, p0, q0, hargs, rfl, rfl, h0, r0⟩ := trodAll_cons hA
  obtain ⟨rfl, rfl, rfl⟩ := trodAll_nil r0
  obtain rfl : args = #[v0] := by cases args; simp_all
  obtain ⟨rfl, rfl⟩ := trodVars_none hV
  obtain ⟨a0, len0, cap0, rfl⟩ := okWide_slice Try.underlying22 (hval 0 22 v0 rfl rfl)
  have k0 := h0
  have lt0 : ∀ x ∈ p0, x.block < W.heap.size := by obtain ⟨m, hm⟩ := k0; exact DataW.trod_lt m _ _ _ hm
  obtain ⟨z0, w0⟩ : ∃ zs, IsRow .u8 W a0 len0 cap0 zs := by
    obtain ⟨fuel, hf⟩ := h0
    rcases open_ints Try.underlying22 Try.underlying5 (by kernel_rfl) hf with ⟨hcs, _⟩ | ⟨x, l, c, zs, hcs, _, hl, hm, hz, _, hcell, hwz⟩
    · simp [Value.cells] at hcs
      obtain ⟨rfl, rfl, rfl⟩ := hcs
      exact ⟨[], .inl ⟨rfl, rfl, rfl, rfl⟩⟩
    · simp [Value.cells] at hcs
      obtain ⟨rfl, rfl, rfl⟩ := hcs
      exact ⟨zs, .inr ⟨_, rfl, hl, hm, by simpa using hz, hcell, hwz⟩⟩
  clear hA0 hval0
  refine (walk a0 len0 cap0 z0 W w0).mono fun e W' ⟨he, bel⟩ => ?_
  subst he
  exact ⟨_, rfl, _, _, _, [], _, [], hW', trodAll_mk1 (shut_bool Try.underlying4 _), (trodAll_cons_mk (Below.trod laidOut (by kernel_rfl) (of_decide_eq_true (by kernel_rfl)) k0 bel lt0) trodAll_mk0), rfl, bel.frame _, fun h => by cases h⟩

theorem over : Rows.frameReadsRow.holds Try.pinned (OpenSpec.ofChange Rows.frameReadsSpec) :=
  OpenClaim.holds_of_wide 5 Try.f5 rfl rfl rfl rfl rfl rfl rfl ⟨rfl, rfl, rfl, rfl, rfl⟩ rfl rfl rfl rfl rfl (by kernel_rfl) Try.func5 (by kernel_rfl)
    (of_decide_eq_true (by kernel_rfl)) (by unfold Func.isWrapper; first | (rw [if_pos (by decide +kernel)]; kernel_rfl) | (rw [if_neg (by decide +kernel)]; exact ⟨rfl, rfl⟩))
    (fun os started H enc _ => lifted os started H enc)

/-- ████ THE STATEMENT ████ -/
theorem proved : Rows.FrameReadsSaid := over
end Go.Proofs.Ytjbeghejnhjckaa.frameReads
namespace Go.Proofs.Ytjbeghejnhjckaa
theorem frameReads_holds : Rows.FrameReadsSaid := frameReads.proved
#print axioms frameReads_holds
end Go.Proofs.Ytjbeghejnhjckaa
