/- For every slice of bytes and every string the law MacKeys returns true and the slice reads as it did (P3.2): which key a name of up to 1000 bytes has under a key of up to 1000 bytes is as the document says, and it is nobody else's. The package's table is as the program's text lays it (the card ties it). -/
import Derived.Test.YtglndmkfkmkngaaDoorDoor
import Derived.Test.YtglndmkfkmkngaaDoorRefMKey
import Derived.Test.YtglndmkfkmkngaaDoorMacCheck
import Derived.Test.YtglndmkfkmkngaaDoorCut
import Derived.Test.YtglndmkfkmkngaaDoorSame
import Derived.WalkKit
import Derived.ShutString
import Derived.ChangeOld
import Derived.Below
namespace Go.Proofs.YtglndmkfkmkngaaDoor.macKeys
open Go.ChangeShapes Go.WideShapes Go.ChangeAt Go.RowKit
open Go.ChangeMaps (open_string shut_string)
set_option linter.unusedVariables false

theorem laidOut : laidOutB Tryd.prog = true := by kernel_rfl

/-- WHAT THE WALK IS TOLD OF A SLICE OF INTEGERS THAT CAME IN: it is nil; or it leads to a row of 'cap' cells, the numbers 'zs' (the first 'len' are its elements, the rest its spare room), each fitting its kind. -/
def IsRow (k : IntKind) (w : World) (a : Option Addr) (len cap : Nat) (zs : List Int) : Prop :=
  (a = none ∧ len = 0 ∧ cap = 0 ∧ zs = []) ∨
  ∃ x, a = some x ∧ len ≤ cap ∧ cap ≤ maxLen ∧ zs.length = cap ∧ (∀ i, i < zs.length → w.cell? (x.add i) = some (.int k (zs.getD i 0))) ∧ ∀ n ∈ zs, (Lit.int k n).wf = true


theorem bts_setCell {w : World} {g : Nat} {ao : Option Addr} {len cap : Nat} {l : List Int} (h : Bts w ao len cap l) (ha : ∀ p, ao = some p → p.block ≠ g) (j : Nat) (v : Value) : Bts (w.setCell ⟨g, j, none⟩ v) ao len cap l :=
  h.but ((But.refl g w).setCell j v) (fun _ => ha)
theorem tab_setCell {w : World} {g : Nat} (h : Tab w) (hg : 0 < g) (j : Nat) (v : Value) : Tab (w.setCell ⟨g, j, none⟩ v) := h.but ((But.refl g w).setCell j v) hg

set_option maxRecDepth 100000 in
set_option maxHeartbeats 1000000 in
theorem walk (a0 : Option Addr) (len0 cap0 : Nat) (z0 : List Int) (a1 : ByteArray) (w : World) (w0 : IsRow .u8 w a0 len0 cap0 z0) (w1 : a1.size ≤ maxLen) (htab : Tab w) :
    Calls Tryd.prog 6 #[.slice a0 len0 cap0, .string a1] w fun e w' => e = .returned (.bool true) ∧ Below w.heap.size w w' := by
  have r0 : Bts w a0 len0 cap0 (z0.take len0) := Bts.of_row w0
  generalize z0.take len0 = l0 at r0
  have hpos := htab.pos
  clear w0
  go_enter Tryd.func6, Tryd.ntmps6
  go_wp2_with fail
  refine (cut_any a0 len0 cap0 1000 l0 _ r0 (by decide)).mono ?_
  rintro e w' ⟨⟨n0, rfl, h0⟩, rfl⟩
  have hn0 : n0 ≤ 1000 := by have := h0.len_eq; rw [List.length_take] at this; omega
  generalize l0.take 1000 = m0 at h0
  clear r0
  by_cases hlong : 1000 < a1.size
  · have hgt : (1000 : Int) < (a1.size : Int) := by omega
    have hss : (a1.extract 0 1000).size ≤ 1000 := by rw [ByteArray.size_extract]; omega
    go_wp2_with fail
    generalize a1.extract 0 1000 = s at hss ⊢
    refine (mkey_any a0 n0 cap0 m0 s _ h0 htab (by omega) (by omega)).mono ?_
    rintro e w2 ⟨ga, rfl, hra2, hga, hb2⟩
    have h02 := h0.below hb2
    have ht2 := htab.below hb2
    clear h0
    go_wp2_with fail
    refine (mkey_any a0 n0 cap0 m0 s _ h02 ht2 (by omega) (by omega)).mono ?_
    rintro e w3 ⟨gb, rfl, hrb3, hgb, hb3⟩
    have hgal := (Array.getElem?_eq_some_iff.1 hra2).1
    have hra3 := (hb3.block ga hgal).trans hra2
    have h03 := h02.below hb3
    have ht3 := ht2.below hb3
    have hb23 := bstep hb2 hb3
    have hsz3 := hb3.size
    clear h02 ht2 hra2 hb2 hb3
    go_wp2_with fail
    refine (refmkey_any a0 n0 cap0 m0 s _ h03 (by omega) (by omega)).mono ?_
    rintro e w4 ⟨v4, rfl, hown4, hb4⟩
    have hl := macL_len m0 (strL s)
    have hby := macL_byt m0 (strL s)
    generalize macL m0 (strL s) = m at hl hby hra3 hrb3 hown4
    obtain ⟨gw, cw, rfl, hgw, _⟩ := owns_form hown4 (by decide)
    obtain ⟨aw, cw', ew, hw4⟩ := Bts.of_owns hown4 hby
    cases ew
    have hgbl := (Array.getElem?_eq_some_iff.1 hrb3).1
    have hra4 := (hb4.block ga (by omega)).trans hra3
    have hrb4 := (hb4.block gb hgbl).trans hrb3
    have ht4 := ht3.below hb4
    have hb24 := bstep hb23 hb4
    have hA4 := bts_cells hra4 hby hl (by unfold maxLen; omega)
    have hB4 := bts_cells hrb4 hby hl (by unfold maxLen; omega)
    clear h03 ht3 hown4 hra3 hrb3 hb23 hb4
    go_wp2_with fail
    refine (same_yes _ _ _ _ _ _ m _ hA4 hw4).mono ?_
    rintro e w' ⟨rfl, q, rfl⟩
    have hra5 : (w4.drewN q).heap[ga]? = some (.cells (bv m).toArray 26 (0, 0)) := hra4
    have hB5 := hB4.drewN q
    have hw5 := hw4.drewN q
    have ht5 := ht4.drewN q
    have hb25 := below_drewN hb24 q
    generalize w4.drewN q = w5 at hra5 hB5 hw5 ht5 hb25 ⊢
    clear hA4 hB4 hra4 hrb4 hw4 ht4 hb24
    have hc := bv_cell hra5 0 (by rw [hl]; decide)
    have hf := frozen_of_row _ _ 0 _ _ hra5
    have hy := hby.getD 0
    generalize m.getD 0 0 = y at hc hy
    clear hra5
    have hB6 := fun v => bts_setCell hB5 (g := ga) (fun p hp => by cases hp; show gb ≠ ga; omega) 0 v
    have hw6 := fun v => bts_setCell hw5 (g := ga) (fun p hp => by cases hp; show gw ≠ ga; omega) 0 v
    have ht6 := fun v => tab_setCell ht5 (g := ga) (by omega) 0 v
    have hb6 := fun v => hb25.setCell (p := ⟨ga, 0, none⟩) hga v
    clear hB5 hw5 ht5
    go_wp2_with fail
    refine (same_yes _ _ _ _ _ _ m _ (hB6 _) (hw6 _)).mono ?_
    rintro e w' ⟨rfl, q2, rfl⟩
    have ht7 := (ht6 (.int .u8 ((y + 1) % 256))).drewN q2
    have hb7 := below_drewN (hb6 (.int .u8 ((y + 1) % 256))) q2
    generalize (w5.setCell ⟨ga, 0, none⟩ (.int .u8 ((y + 1) % 256))).drewN q2 = w7 at ht7 hb7 ⊢
    clear hB6 hw6 ht6 hb6 hb25 hc hf
    go_wp2_with fail
    refine (lives_any _ ht7).mono ?_
    rintro e w8 ⟨rfl, hb8⟩
    go_wp2
    go_ret
    exact ⟨rfl, hb7.trans (hb8.mono hb7.size)⟩
  · have hgt : ¬ (1000 : Int) < (a1.size : Int) := by omega
    have hss : a1.size ≤ 1000 := by omega
    obtain ⟨s, hs⟩ : ∃ s, s = a1 := ⟨_, rfl⟩
    subst hs
    go_wp2_with fail
    refine (mkey_any a0 n0 cap0 m0 s _ h0 htab (by omega) (by omega)).mono ?_
    rintro e w2 ⟨ga, rfl, hra2, hga, hb2⟩
    have h02 := h0.below hb2
    have ht2 := htab.below hb2
    clear h0
    go_wp2_with fail
    refine (mkey_any a0 n0 cap0 m0 s _ h02 ht2 (by omega) (by omega)).mono ?_
    rintro e w3 ⟨gb, rfl, hrb3, hgb, hb3⟩
    have hgal := (Array.getElem?_eq_some_iff.1 hra2).1
    have hra3 := (hb3.block ga hgal).trans hra2
    have h03 := h02.below hb3
    have ht3 := ht2.below hb3
    have hb23 := bstep hb2 hb3
    have hsz3 := hb3.size
    clear h02 ht2 hra2 hb2 hb3
    go_wp2_with fail
    refine (refmkey_any a0 n0 cap0 m0 s _ h03 (by omega) (by omega)).mono ?_
    rintro e w4 ⟨v4, rfl, hown4, hb4⟩
    have hl := macL_len m0 (strL s)
    have hby := macL_byt m0 (strL s)
    generalize macL m0 (strL s) = m at hl hby hra3 hrb3 hown4
    obtain ⟨gw, cw, rfl, hgw, _⟩ := owns_form hown4 (by decide)
    obtain ⟨aw, cw', ew, hw4⟩ := Bts.of_owns hown4 hby
    cases ew
    have hgbl := (Array.getElem?_eq_some_iff.1 hrb3).1
    have hra4 := (hb4.block ga (by omega)).trans hra3
    have hrb4 := (hb4.block gb hgbl).trans hrb3
    have ht4 := ht3.below hb4
    have hb24 := bstep hb23 hb4
    have hA4 := bts_cells hra4 hby hl (by unfold maxLen; omega)
    have hB4 := bts_cells hrb4 hby hl (by unfold maxLen; omega)
    clear h03 ht3 hown4 hra3 hrb3 hb23 hb4
    go_wp2_with fail
    refine (same_yes _ _ _ _ _ _ m _ hA4 hw4).mono ?_
    rintro e w' ⟨rfl, q, rfl⟩
    have hra5 : (w4.drewN q).heap[ga]? = some (.cells (bv m).toArray 26 (0, 0)) := hra4
    have hB5 := hB4.drewN q
    have hw5 := hw4.drewN q
    have ht5 := ht4.drewN q
    have hb25 := below_drewN hb24 q
    generalize w4.drewN q = w5 at hra5 hB5 hw5 ht5 hb25 ⊢
    clear hA4 hB4 hra4 hrb4 hw4 ht4 hb24
    have hc := bv_cell hra5 0 (by rw [hl]; decide)
    have hf := frozen_of_row _ _ 0 _ _ hra5
    have hy := hby.getD 0
    generalize m.getD 0 0 = y at hc hy
    clear hra5
    have hB6 := fun v => bts_setCell hB5 (g := ga) (fun p hp => by cases hp; show gb ≠ ga; omega) 0 v
    have hw6 := fun v => bts_setCell hw5 (g := ga) (fun p hp => by cases hp; show gw ≠ ga; omega) 0 v
    have ht6 := fun v => tab_setCell ht5 (g := ga) (by omega) 0 v
    have hb6 := fun v => hb25.setCell (p := ⟨ga, 0, none⟩) hga v
    clear hB5 hw5 ht5
    go_wp2_with fail
    refine (same_yes _ _ _ _ _ _ m _ (hB6 _) (hw6 _)).mono ?_
    rintro e w' ⟨rfl, q2, rfl⟩
    have ht7 := (ht6 (.int .u8 ((y + 1) % 256))).drewN q2
    have hb7 := below_drewN (hb6 (.int .u8 ((y + 1) % 256))) q2
    generalize (w5.setCell ⟨ga, 0, none⟩ (.int .u8 ((y + 1) % 256))).drewN q2 = w7 at ht7 hb7 ⊢
    clear hB6 hw6 ht6 hb6 hb25 hc hf
    go_wp2_with fail
    refine (lives_any _ ht7).mono ?_
    rintro e w8 ⟨rfl, hb8⟩
    go_wp2
    go_ret
    exact ⟨rfl, hb7.trans (hb8.mono hb7.size)⟩

/-- what the walk gives, for every argument and every world that holds the table -/
theorem contract (H : Type) (enc : TypeId × Value → H) (W : World) (base : Nat) (args : Array Value) (ds gs : List (DataW H)) (before : List MemPlace)
    (hval0 : ∀ (j : Nat) t v, Tryd.f6.params[j]? = some t → args[j]? = some v → Value.okWide Tryd.prog W .any base t v)
    (hW : DataW.Whole enc Tryd.prog Tryd.f6.params.toList Rows.macKeysSpec.vars false W args.toList ds gs before) (hL : laidMetH Tryd.prog Rows.macKeysRow.laid W) :
    Calls Tryd.prog 6 args W fun e W' => ∃ v, e = .returned v ∧ Rows.macKeysSpec.post enc Tryd.prog Tryd.f6 false true false false W args v W' := by
  have htab := tab_of_laid hL
  have hval : ∀ (j : Nat) t v, Tryd.f6.params[j]? = some t → args[j]? = some v → Value.okWide Tryd.prog W .any base t v := hval0
  have hW' := hW
  obtain ⟨p, q, hA0, hV, rfl, hfz, hnd⟩ := hW
  have hA : DataW.TrodAll enc Tryd.prog W 0 (fun _ => true) true Tryd.f6.params.toList args.toList ds p := hA0
  rw [Tryd.params6] at hA hval
  obtain ⟨v0, vs0, d0, ds0, p0, q0, hargs, rfl, rfl, h0, r0⟩ := trodAll_cons hA
  obtain ⟨v1, vs1, d1, ds1, p1, q1, rfl, rfl, rfl, h1, r1⟩ := trodAll_cons r0
  obtain ⟨rfl, rfl, rfl⟩ := trodAll_nil r1
  obtain rfl : args = #[v0, v1] := by cases args; simp_all
  obtain ⟨rfl, rfl⟩ := trodVars_none hV
  obtain ⟨a0, len0, cap0, rfl⟩ := okWide_slice Tryd.underlying22 (hval 0 22 v0 rfl rfl)
  have k0 := h0
  have lt0 : ∀ x ∈ p0, x.block < W.heap.size := by obtain ⟨m, hm⟩ := k0; exact DataW.trod_lt m _ _ _ hm
  obtain ⟨z0, w0⟩ : ∃ zs, IsRow .u8 W a0 len0 cap0 zs := by
    obtain ⟨fuel, hf⟩ := h0
    rcases open_ints Tryd.underlying22 Tryd.underlying5 (by kernel_rfl) hf with ⟨hcs, _⟩ | ⟨x, l, c, zs, hcs, _, hl, hm, hz, _, hcell, hwz⟩
    · simp [Value.cells] at hcs
      obtain ⟨rfl, rfl, rfl⟩ := hcs
      exact ⟨[], .inl ⟨rfl, rfl, rfl, rfl⟩⟩
    · simp [Value.cells] at hcs
      obtain ⟨rfl, rfl, rfl⟩ := hcs
      exact ⟨zs, .inr ⟨_, rfl, hl, hm, by simpa using hz, hcell, hwz⟩⟩
  obtain ⟨a1, rfl, rfl, rfl, w1⟩ := open_string Tryd.underlying9 (hval 1 9 v1 rfl rfl) h1
  clear hA0 hval0
  refine (walk a0 len0 cap0 z0 a1 W w0 w1 htab).mono fun e W' ⟨he, bel⟩ => ?_
  subst he
  exact ⟨_, rfl, _, _, _, [], _, [], hW', trodAll_mk1 (shut_bool Tryd.underlying4 _), (trodAll_cons_mk (Below.trod laidOut (by kernel_rfl) (of_decide_eq_true (by kernel_rfl)) k0 bel lt0) (trodAll_cons_mk (shut_string Tryd.underlying9 w1) trodAll_mk0)), rfl, bel.frame _, fun h => by cases h⟩

set_option maxRecDepth 100000 in
theorem laid_met (os : Os) : laidMet Tryd.prog Rows.macKeysRow.laid (({ World.holding Tryd.prog os ⟨#[], #[], []⟩ with heap := (World.holding Tryd.prog os ⟨#[], #[], []⟩).heap.setIfInBounds 0 (.cells (uv keyL).toArray 64) } : World).forCall (fun _ _ => 0) ⟨#[], #[.slice none 0 0, .string ByteArray.empty], []⟩).memory :=
  laidMet_of_run' 8 (by kernel_rfl) (by kernel_rfl)
theorem reads (os : Os) {H : Type} (enc : TypeId × Value → H) : ∃ places, DataW.whole enc Tryd.prog (({ World.holding Tryd.prog os ⟨#[], #[], []⟩ with heap := (World.holding Tryd.prog os ⟨#[], #[], []⟩).heap.setIfInBounds 0 (.cells (uv keyL).toArray 64) } : World).forCall (fun _ _ => 0) ⟨#[], #[.slice none 0 0, .string ByteArray.empty], []⟩).memory Tryd.f6.params.toList Rows.macKeysSpec.vars false (#[.slice none 0 0, .string ByteArray.empty] : Array Value).toList 8 = some ([.nil, .lit (.string [])], [], places) :=
  ⟨[], by kernel_rfl⟩
set_option maxRecDepth 100000 in
theorem lifted (os : Os) (started : os.Started) (H : Type) (enc : TypeId × Value → H) (F : Stop.Interp) :
    ReturnsInHanded {} Tryd.checked os 6 .any ((OpenSpec.ofChange Rows.macKeysSpec).preRow enc Tryd.prog Tryd.f6 Rows.macKeysRow.domain false Rows.macKeysRow.laid) (((OpenSpec.ofChange Rows.macKeysSpec).at F).post enc Tryd.prog Tryd.f6 false true false false) := by
  obtain ⟨places, hx⟩ := reads os enc
  refine returnsInHanded_of_row (C := Tryd.checked) (s := OpenSpec.ofChange Rows.macKeysSpec) own started (by kernel_rfl) Tryd.func6
    (witness_row_at (enc := enc) (C := Tryd.checked) false ({ World.holding Tryd.prog os ⟨#[], #[], []⟩ with heap := (World.holding Tryd.prog os ⟨#[], #[], []⟩).heap.setIfInBounds 0 (.cells (uv keyL).toArray 64) } : World) #[.slice none 0 0, .string ByteArray.empty] rfl (by kernel_rfl) (by kernel_rfl) (by kernel_rfl)
      (OpenSpec.preRow_of_cond 8 hx (by kernel_rfl) (fun k hk => by cases hk) (by kernel_rfl) (laid_met os))) ?_
  intro W base args ds gs before hval hW _ _ _ hL _ _
  exact contract H enc W base args ds gs before hval hW hL
theorem said : Rows.MacKeysSaid :=
  OpenClaim.holds_of_cond 6 Tryd.f6 rfl rfl rfl rfl rfl rfl rfl ⟨rfl, rfl, rfl, rfl, rfl⟩ rfl rfl rfl rfl rfl (by kernel_rfl) Tryd.func6 (by kernel_rfl)
    (of_decide_eq_true (by kernel_rfl)) (by unfold Func.isWrapper; first | (rw [if_pos (by decide +kernel)]; kernel_rfl) | (rw [if_neg (by decide +kernel)]; exact ⟨rfl, rfl⟩))
    (fun os started H enc _ F => by rw [OpenClaim.pre_eq_preRow]; exact lifted os started H enc F)
theorem plain (f : FuncId) (fn : Func) (hf : Tryd.pinned.checked.prog.funcNamed "inquest/inquestlaw03.MacKeys" = some f) (hfn : Tryd.pinned.checked.prog.funcs[f]? = some fn) :
    false = Tryd.pinned.checked.prog.looks [] ∧ ∀ (j : Nat) t, fn.params[j]? = some t → Tryd.pinned.checked.prog.wantsStandIn t = false := by
  obtain rfl : f = 6 := Option.some.inj ((show Tryd.prog.funcNamed "inquest/inquestlaw03.MacKeys" = some 6 by kernel_rfl).symm.trans hf) |>.symm
  obtain rfl : fn = Tryd.f6 := (Option.some.inj (Tryd.func6.symm.trans hfn)).symm
  refine ⟨by kernel_rfl, fun j t ht => ?_⟩
  rw [Tryd.params6] at ht
  have hall : ([22, 9].all fun u => !Tryd.prog.wantsStandIn u) = true := by kernel_rfl
  have hm : t ∈ [22, 9] := by simpa using Array.mem_of_getElem? ht
  exact (show Tryd.prog.wantsStandIn t = false by simpa using List.all_eq_true.1 hall t hm)
/-- the tied card -/
theorem card : Rows.MacKeysCardSaid :=
  Claim7.holds_tied_plain_at .later [] _ _ _ _ said (fun _ h => by cases h) (by kernel_rfl) (fun _ h => by cases h) macKeys_row_tie rfl ⟨rfl, rfl⟩ (by kernel_rfl) rfl plain (by kernel_rfl)
end Go.Proofs.YtglndmkfkmkngaaDoor.macKeys
namespace Go.Proofs.YtglndmkfkmkngaaDoor
theorem macKeys_holds : Rows.MacKeysCardSaid := macKeys.card
#print axioms macKeys_holds
end Go.Proofs.YtglndmkfkmkngaaDoor
