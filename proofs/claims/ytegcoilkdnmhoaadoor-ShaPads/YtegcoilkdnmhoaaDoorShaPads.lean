/- For every uint64 n the law ShaPads returns true (P2.2): what stands behind a text of any length is as the document says, in memory that is nobody else's. The package's table is as the program's text lays it (the card ties it). -/
import Derived.Test.YtegcoilkdnmhoaaDoorDoor
import Derived.Test.YtegcoilkdnmhoaaDoorPad
import Derived.Test.YtegcoilkdnmhoaaDoorRefPad
import Derived.Test.YtegcoilkdnmhoaaDoorSame
import Derived.Test.YtegcoilkdnmhoaaDoorShaSum
import Derived.WalkKit
import Derived.ShutString
import Derived.ChangeOld
import Derived.Below
namespace Go.Proofs.YtegcoilkdnmhoaaDoor.shaPads
open Go.ChangeShapes Go.WideShapes Go.ChangeAt Go.RowKit
open Go.ChangeMaps (open_string shut_string)
set_option linter.unusedVariables false



/-- the row behind k rounds of 'a[i] = 7' -/
def sevAt (l : List Int) (k : Nat) : List Int := List.replicate k 7 ++ l.drop k
theorem sevAt_zero (l : List Int) : sevAt l 0 = l := by simp [sevAt]
theorem sevAt_length (l : List Int) (k : Nat) (h : k ≤ l.length) : (sevAt l k).length = l.length := by simp [sevAt]; omega
theorem sevAt_succ (l : List Int) (k : Nat) (h : k < l.length) : (bv (sevAt l k)).set k (.int .u8 7) = bv (sevAt l (k + 1)) := by
  have e : l.drop k = l.getD k 0 :: l.drop (k + 1) := by rw [List.getD_eq_getElem?_getD, List.getElem?_eq_getElem h]; exact List.drop_eq_getElem_cons h
  simp only [bv, sevAt, List.map_append, e, List.map_cons, List.replicate_succ']
  rw [List.set_append_right _ _ (by simp)]
  simp

set_option maxRecDepth 100000 in
set_option maxHeartbeats 1000000 in
theorem walk (a0 : Int) (w0 : (Lit.int .u64 a0).wf = true) (w : World) (htab : Tab w) :
    Calls Tryd.prog 4 #[.int .u64 a0] w fun e w' => e = .returned (.bool true) ∧ Below w.heap.size w w' := by
  have hx : 0 ≤ a0 ∧ a0 ≤ 18446744073709551615 := bounds_u64 w0
  go_enter Tryd.func4, Tryd.ntmps4
  go_wp2_with fail
  refine (pad_any a0 _ hx.1 hx.2).mono ?_
  rintro e w1 ⟨va, rfl, hown1, hb1⟩
  go_wp2_with fail
  refine (pad_any a0 _ hx.1 hx.2).mono ?_
  rintro e w2 ⟨vb, rfl, hown2, hb2⟩
  have hown1b := owns_below hown1 hb2
  go_wp2_with fail
  refine (refpad_any a0 _ hx.1 hx.2).mono ?_
  rintro e w3 ⟨vc, rfl, hown3, hb3⟩
  have hown1c := owns_below hown1b hb3
  have hown2c := owns_below hown2 hb3
  have hB := padL_byt a0
  have hn1 : 1 ≤ (padL a0).length := by rw [padL_length]; omega
  have hn2 : (padL a0).length ≤ 72 := by rw [padL_length]; have := padZ_le a0; omega
  generalize padL a0 = l at *
  obtain ⟨g, cap, rfl, hg0, hg1⟩ := owns_form hown1 hn1
  obtain ⟨g2, cap2, rfl, hg2, hg2'⟩ := owns_form hown2 hn1
  obtain ⟨g3, cap3, rfl, hg3, _⟩ := owns_form hown3 hn1
  have hbb : Below w.heap.size w w3 := (hb1.trans (hb2.mono hb1.size)).trans (hb3.mono (Nat.le_trans hb1.size hb2.size))
  have hz1 := hb1.size
  have hz2 := hb2.size
  have hz3 := hb3.size
  have ht3 := htab.below hbb
  clear hown1 hown1b hown2 hb1 hb2 hb3
  obtain ⟨ao1, c1, e1, B1⟩ := Bts.of_owns hown1c hB
  obtain ⟨ao3, c3, e3, B3⟩ := Bts.of_owns hown3 hB
  cases e1
  cases e3
  go_wp2_with fail
  refine (same_yes _ _ _ _ _ _ l _ B1 B3).mono ?_
  rintro e w' ⟨rfl, q, rfl⟩
  clear B1 B3
  have o1 := owns_drewN hown1c q
  have o2 := owns_drewN hown2c q
  have o3 := owns_drewN hown3 q
  have hb4 := below_drewN hbb q
  have ht4 := ht3.drewN q
  have hsz : w3.heap.size = (w3.drewN q).heap.size := rfl
  clear hown1c hown2c hown3 hbb ht3
  generalize w3.drewN q = w4 at o1 o2 o3 hb4 ht4 hsz ⊢
  rw [hsz] at hz3
  clear hsz
  have htb : Tab w := htab
  go_wp2
  go_loopw [6] (fun i wr => ∃ k : Nat, k ≤ l.length ∧ i = .int .i64 k ∧ wr.ownsRow w.heap.size 5 1 (.slice (some ⟨g, 0, none⟩) l.length cap) l.length (bv (sevAt l k)) ∧ wr.ownsRow w1.heap.size 5 1 (.slice (some ⟨g2, 0, none⟩) l.length cap2) l.length (bv l) ∧ wr.ownsRow w2.heap.size 5 1 (.slice (some ⟨g3, 0, none⟩) l.length cap3) l.length (bv l) ∧ Below w.heap.size w wr) (fun i _ => l.length - (intOf i).toNat)
  case atStart => exact ⟨0, Nat.zero_le _, rfl, by rw [sevAt_zero]; exact o1, o2, o3, hb4⟩
  case round =>
    obtain ⟨k, hk, rfl, p1, p2, p3, hb5⟩ := hrel
    clear o1 o2 o3 hb4
    by_cases hlt : k < l.length
    · obtain ⟨c0, hcell⟩ := owns_cell p1 k hlt
      have hf := p1.frozenAt k
      have hst := p1.stored k (.int .u8 7)
      rw [sevAt_succ l k hlt] at hst
      have q2 := ownsRow_setCell_below p2 (a := ⟨g, k, none⟩) hg1 (.int .u8 7)
      have q3 := ownsRow_setCell_below p3 (a := ⟨g, k, none⟩) (Nat.lt_of_lt_of_le hg1 hz2) (.int .u8 7)
      have hb6 := hb5.grown hst.2 hb5.size (by intro j hj; cases hj; exact hg0)
      clear p1 p2 p3 hb5
      go_wp2
      go_roundw
      case rel => exact ⟨k + 1, by omega, by go_num, hst.1, q2, q3, hb6⟩
      case measure => simp [intOf]; omega
    · clear p1
      obtain ⟨ao2, c2, e2, B2⟩ := Bts.of_owns p2 hB
      obtain ⟨ao3, c3, e3, B3⟩ := Bts.of_owns p3 hB
      cases e2
      cases e3
      clear p2 p3
      go_wp2_with fail
      refine (same_yes _ _ _ _ _ _ l _ B2 B3).mono ?_
      rintro e w' ⟨rfl, q, rfl⟩
      clear B2 B3
      have hb6 := below_drewN hb5 q
      have ht6 := htab.below hb6
      generalize wr.drewN q = w6 at hb6 ht6 ⊢
      clear hb5
      go_wp2_with fail
      refine (lives_any _ ht6).mono ?_
      rintro e w7 ⟨rfl, hb7⟩
      go_wp2
      go_ret
      exact ⟨rfl, hb6.trans (hb7.mono hb6.size)⟩

/-- what the walk gives, for every argument and every world that holds the table -/
theorem contract (H : Type) (enc : TypeId × Value → H) (W : World) (base : Nat) (args : Array Value) (ds gs : List (DataW H)) (before : List MemPlace)
    (hval0 : ∀ (j : Nat) t v, Tryd.f4.params[j]? = some t → args[j]? = some v → Value.okWide Tryd.prog W .any base t v)
    (hW : DataW.Whole enc Tryd.prog Tryd.f4.params.toList Rows.shaPadsSpec.vars false W args.toList ds gs before) (hL : laidMetH Tryd.prog Rows.shaPadsRow.laid W) :
    Calls Tryd.prog 4 args W fun e W' => ∃ v, e = .returned v ∧ Rows.shaPadsSpec.post enc Tryd.prog Tryd.f4 false true false false W args v W' := by
  have htab := tab_of_laid hL
  have hval : ∀ (j : Nat) t v, Tryd.f4.params[j]? = some t → args[j]? = some v → Value.okWide Tryd.prog W .any base t v := hval0
  have hW' := hW
  obtain ⟨p, q, hA0, hV, rfl, hfz, hnd⟩ := hW
  have hA : DataW.TrodAll enc Tryd.prog W 0 (fun _ => true) true Tryd.f4.params.toList args.toList ds p := hA0
  rw [Tryd.params4] at hA hval
  obtain ⟨v0, vs0, d0, ds0, p0, q0, hargs, rfl, rfl, h0, r0⟩ := trodAll_cons hA
  obtain ⟨rfl, rfl, rfl⟩ := trodAll_nil r0
  obtain rfl : args = #[v0] := by cases args; simp_all
  obtain ⟨rfl, rfl⟩ := trodVars_none hV
  obtain ⟨a0, rfl, rfl, rfl, w0⟩ := open_int Tryd.underlying31 (hval 0 31 v0 rfl rfl) h0
  clear hA0 hval0
  refine (walk a0 w0 W htab).mono fun e W' ⟨he, bel⟩ => ?_
  subst he
  exact ⟨_, rfl, _, _, _, [], _, [], hW', trodAll_mk1 (shut_bool Tryd.underlying4 _), (trodAll_cons_mk (shut_int Tryd.underlying31 w0) trodAll_mk0), rfl, bel.frame _, fun h => by cases h⟩

set_option maxRecDepth 100000 in
theorem laid_met (os : Os) : laidMet Tryd.prog Rows.shaPadsRow.laid (({ World.holding Tryd.prog os ⟨#[], #[], []⟩ with heap := (World.holding Tryd.prog os ⟨#[], #[], []⟩).heap.setIfInBounds 0 (.cells (uv keyL).toArray 53) } : World).forCall (fun _ _ => 0) ⟨#[], #[.int .u64 0], []⟩).memory :=
  laidMet_of_run' 8 (by kernel_rfl) (by kernel_rfl)
theorem reads (os : Os) {H : Type} (enc : TypeId × Value → H) : ∃ places, DataW.whole enc Tryd.prog (({ World.holding Tryd.prog os ⟨#[], #[], []⟩ with heap := (World.holding Tryd.prog os ⟨#[], #[], []⟩).heap.setIfInBounds 0 (.cells (uv keyL).toArray 53) } : World).forCall (fun _ _ => 0) ⟨#[], #[.int .u64 0], []⟩).memory Tryd.f4.params.toList Rows.shaPadsSpec.vars false (#[.int .u64 0] : Array Value).toList 8 = some ([.lit (.int .u64 0)], [], places) :=
  ⟨[], by kernel_rfl⟩
set_option maxRecDepth 100000 in
theorem lifted (os : Os) (started : os.Started) (H : Type) (enc : TypeId × Value → H) (F : Stop.Interp) :
    ReturnsInHanded {} Tryd.checked os 4 .any ((OpenSpec.ofChange Rows.shaPadsSpec).preRow enc Tryd.prog Tryd.f4 Rows.shaPadsRow.domain false Rows.shaPadsRow.laid) (((OpenSpec.ofChange Rows.shaPadsSpec).at F).post enc Tryd.prog Tryd.f4 false true false false) := by
  obtain ⟨places, hx⟩ := reads os enc
  refine returnsInHanded_of_row (C := Tryd.checked) (s := OpenSpec.ofChange Rows.shaPadsSpec) own started (by kernel_rfl) Tryd.func4
    (witness_row_at (enc := enc) (C := Tryd.checked) false ({ World.holding Tryd.prog os ⟨#[], #[], []⟩ with heap := (World.holding Tryd.prog os ⟨#[], #[], []⟩).heap.setIfInBounds 0 (.cells (uv keyL).toArray 53) } : World) #[.int .u64 0] rfl (by kernel_rfl) (by kernel_rfl) (by kernel_rfl)
      (OpenSpec.preRow_of_cond 8 hx (by kernel_rfl) (fun k hk => by cases hk) (by kernel_rfl) (laid_met os))) ?_
  intro W base args ds gs before hval hW _ _ _ hL _ _
  exact contract H enc W base args ds gs before hval hW hL
theorem said : Rows.ShaPadsSaid :=
  OpenClaim.holds_of_cond 4 Tryd.f4 rfl rfl rfl rfl rfl rfl rfl ⟨rfl, rfl, rfl, rfl, rfl⟩ rfl rfl rfl rfl rfl (by kernel_rfl) Tryd.func4 (by kernel_rfl)
    (of_decide_eq_true (by kernel_rfl)) (by unfold Func.isWrapper; first | (rw [if_pos (by decide +kernel)]; kernel_rfl) | (rw [if_neg (by decide +kernel)]; exact ⟨rfl, rfl⟩))
    (fun os started H enc _ F => by rw [OpenClaim.pre_eq_preRow]; exact lifted os started H enc F)
theorem plain (f : FuncId) (fn : Func) (hf : Tryd.pinned.checked.prog.funcNamed "inquest/inquestlaw02.ShaPads" = some f) (hfn : Tryd.pinned.checked.prog.funcs[f]? = some fn) :
    false = Tryd.pinned.checked.prog.looks [] ∧ ∀ (j : Nat) t, fn.params[j]? = some t → Tryd.pinned.checked.prog.wantsStandIn t = false := by
  obtain rfl : f = 4 := Option.some.inj ((show Tryd.prog.funcNamed "inquest/inquestlaw02.ShaPads" = some 4 by kernel_rfl).symm.trans hf) |>.symm
  obtain rfl : fn = Tryd.f4 := (Option.some.inj (Tryd.func4.symm.trans hfn)).symm
  refine ⟨by kernel_rfl, fun j t ht => ?_⟩
  rw [Tryd.params4] at ht
  have hall : ([31].all fun u => !Tryd.prog.wantsStandIn u) = true := by kernel_rfl
  have hm : t ∈ [31] := by simpa using Array.mem_of_getElem? ht
  exact (show Tryd.prog.wantsStandIn t = false by simpa using List.all_eq_true.1 hall t hm)
/-- the tied card -/
theorem card : Rows.ShaPadsCardSaid :=
  Claim7.holds_tied_plain_at .later [] _ _ _ _ said (fun _ h => by cases h) (by kernel_rfl) (fun _ h => by cases h) shaPads_row_tie rfl ⟨rfl, rfl⟩ (by kernel_rfl) rfl plain (by kernel_rfl)
end Go.Proofs.YtegcoilkdnmhoaaDoor.shaPads
namespace Go.Proofs.YtegcoilkdnmhoaaDoor
theorem shaPads_holds : Rows.ShaPadsCardSaid := shaPads.card
#print axioms shaPads_holds
end Go.Proofs.YtegcoilkdnmhoaaDoor
